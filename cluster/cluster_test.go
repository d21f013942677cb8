package cluster_test

import (
	"slices"
	"testing"

	"boustrophedon/cellw"
	"boustrophedon/cluster"
	"boustrophedon/linec"
)

// places are the indices that are true.
func places(breaks []bool) []int {
	var all []int
	for i, b := range breaks {
		if b {
			all = append(all, i)
		}
	}
	return all
}

// P31.1: rule by rule.
func TestBreaks(t *testing.T) {
	for _, x := range []struct {
		text string
		want []int
	}{
		{"", []int{0}},
		{"a", []int{0, 1}},
		{"e\u0301x", []int{0, 2, 3}},
		// controls
		{"\r\n", []int{0, 2}},
		{"\n\r", []int{0, 1, 2}},
		{"\r\n\n", []int{0, 2, 3}},
		{"\n\u0301\u0301", []int{0, 1, 3}},
		{"\u2028\u200d\u0085\u0301\u200b\u0301", []int{0, 1, 2, 3, 4, 5, 6}},
		{"a\n", []int{0, 1, 2}},
		// marks, also those of class SA without cells
		{"\u0301\u0301a", []int{0, 2, 3}},
		{"\u0e01\u0e34\u0e01", []int{0, 2, 3}},
		{"\u0e01\u0e33", []int{0, 1, 2}},
		{" \u0301", []int{0, 2}},
		{"a\u200d\u0301b", []int{0, 3, 4}},
		// pictographs
		{"\U0001F468\u200d\U0001F469", []int{0, 3}},
		{"\U0001F468\u0301\u200d\U0001F469", []int{0, 4}},
		{"\U0001F468\u200d\u0301\U0001F469", []int{0, 3, 4}},
		{"\U0001F468\u200d\u200d\U0001F469", []int{0, 4}},
		{"\U0001F468\u200d\U0001F469\u200d\U0001F466", []int{0, 5}},
		{"a\u200d\U0001F469", []int{0, 2, 3}},
		{"\u200d\U0001F469", []int{0, 1, 2}},
		{"\U0001F468\U0001F469", []int{0, 1, 2}},
		{"\U0001F468\u200da", []int{0, 2, 3}},
		{"\U0001F468\n\u200d\U0001F469", []int{0, 1, 2, 3, 4}},
		{"\U0001F466\U0001F3FB", []int{0, 1, 2}},
		{"\u4e00\u200d\U0001F3FB", []int{0, 3}},
		// RIs
		{"\U0001F1E6\U0001F1E6\U0001F1E6\U0001F1E6", []int{0, 2, 4}},
		{"\U0001F1E6\U0001F1E6\U0001F1E6", []int{0, 2, 3}},
		{"\U0001F1E6\u0301\U0001F1E6\U0001F1E6", []int{0, 3, 4}},
		{"\U0001F1E6\U0001F1E6\u0301\U0001F1E6", []int{0, 3, 4}},
		{"a\U0001F1E6a\U0001F1E6\U0001F1E6", []int{0, 1, 2, 3, 5}},
		{"\u0301\U0001F1E6\U0001F1E6", []int{0, 1, 3}},
		// Hangul
		{"\uac00\u11a8", []int{0, 2}},
		{"\u1100\u1100\u1161\u1161\u11a8\u11a8\u1100", []int{0, 6, 7}},
		{"\u1100\uac00\u1161\uac01\u11a8\uac01", []int{0, 3, 5, 6}},
		{"\u1100\uac01\u1161", []int{0, 2, 3}},
		{"\u1100\u11a8", []int{0, 1, 2}},
		{"\u1161\u1100", []int{0, 1, 2}},
		{"\u1100\u0301\u1161", []int{0, 2, 3}},
	} {
		rs := []rune(x.text)
		given := slices.Clone(rs)
		if got := cluster.Breaks(rs); !slices.Equal(places(got), x.want) || len(got) != len(rs)+1 {
			t.Errorf("%q: %v, not %v", x.text, got, x.want)
		}
		var spans []cluster.Span
		for k := range x.want[1:] {
			spans = append(spans, cluster.Span{From: x.want[k], To: x.want[k+1]})
		}
		if got := cluster.Of(rs); !slices.Equal(got, spans) {
			t.Errorf("%q: %v", x.text, got)
		}
		if !slices.Equal(given, rs) {
			t.Errorf("%q was changed", x.text)
		}
	}
	if got := cluster.Of([]rune{-1, 1 << 30, 0x301}); !slices.Equal(got, []cluster.Span{{From: 0, To: 1}, {From: 1, To: 3}}) {
		t.Error(got)
	}
}

func is(c linec.Class, some ...linec.Class) bool { return slices.Contains(some, c) }

// sought is Breaks as the promise's table says it.
func sought(rs []rune) []bool {
	cs, ws := linec.Of(rs), cellw.Of(rs)
	mark := func(i int) bool { return is(cs[i], linec.CM, linec.ZWJ) || cs[i] == linec.SA && ws[i] == 0 }
	control := func(i int) bool { return is(cs[i], linec.CR, linec.LF, linec.BK, linec.NL, linec.ZW) }
	pictograph := func(i int) bool { return is(cs[i], linec.ID, linec.EB, linec.EM) }
	breaks := make([]bool, len(rs)+1)
	joined := func(at int) bool {
		from := at - 2
		for from >= 0 && mark(from) {
			from--
		}
		return from >= 0 && pictograph(from) && !slices.Contains(breaks[from+1:at], true)
	}
	for at := range breaks {
		if at == 0 || at == len(rs) {
			breaks[at] = true
			continue
		}
		a, c := cs[at-1], cs[at]
		last := at - 1
		for !breaks[last] {
			last--
		}
		flags := 0
		for i := last; i < at; i++ {
			if cs[i] == linec.RI {
				flags++
			}
		}
		switch {
		case a == linec.CR && c == linec.LF:
		case control(at-1) || control(at):
			breaks[at] = true
		case mark(at):
		case pictograph(at) && a == linec.ZWJ && joined(at):
		case c == linec.RI && flags == 1:
		case a == linec.JL && is(c, linec.JL, linec.JV, linec.H2, linec.H3):
		case is(a, linec.JV, linec.H2) && is(c, linec.JV, linec.JT):
		case is(a, linec.JT, linec.H3) && c == linec.JT:
		default:
			breaks[at] = true
		}
	}
	return breaks
}

// P31.1: every text of up to four of some runes.
func TestBreaksAll(t *testing.T) {
	runes := []rune{'a', '\r', '\n', 0x2028, 0x301, 0x200d, 0xe01, 0xe34, 0x4e00, 0x1f466, 0x1f3fb, 0x1f1e6, 0x1100, 0x1161, 0x11a8, 0xac00, 0xac01}
	count := 1
	for n := range 5 {
		for code := range count {
			rs := make([]rune, n)
			for i, rest := 0, code; i < n; i, rest = i+1, rest/len(runes) {
				rs[i] = runes[rest%len(runes)]
			}
			if got, want := cluster.Breaks(rs), sought(rs); !slices.Equal(got, want) {
				t.Fatalf("%x: %v, not %v", rs, got, want)
			}
		}
		count *= len(runes)
	}
}

// P31.1: longer texts of few runes.
func TestBreaksMany(t *testing.T) {
	runes := []rune{0x301, 0x200d, 0x200d, 0x4e00, 0x1f466, 0x1f1e6, 0x1f1e6, '\n'}
	seed := uint32(17)
	next := func(n int) int {
		seed = seed*1664525 + 1013904223
		return int(seed>>8) % n
	}
	for range 50000 {
		rs := make([]rune, next(14))
		for i := range rs {
			rs[i] = runes[next(len(runes))]
		}
		if got, want := cluster.Breaks(rs), sought(rs); !slices.Equal(got, want) {
			t.Fatalf("%x: %v, not %v", rs, got, want)
		}
	}
}

// P31.2: every table of up to six, and every place.
func TestNextPrev(t *testing.T) {
	for n := range 7 {
		for code := range 1 << n {
			breaks := make([]bool, n)
			for i := range breaks {
				breaks[i] = code>>i&1 == 1
			}
			for _, at := range []int{-1 << 63, -2, -1, 0, 1, 2, 3, 4, 5, 6, 7, 1<<63 - 2, 1<<63 - 1} {
				next, prev := max(n-1, 0), 0
				for i := n - 1; i >= 0; i-- {
					if i > at && breaks[i] {
						next = i
					}
				}
				for i := 1; i < n; i++ {
					if i < at && breaks[i] {
						prev = i
					}
				}
				if got := cluster.Next(breaks, at); got != next {
					t.Errorf("%v: Next(%d) = %d, not %d", breaks, at, got, next)
				}
				if got := cluster.Prev(breaks, at); got != prev {
					t.Errorf("%v: Prev(%d) = %d, not %d", breaks, at, got, prev)
				}
			}
		}
	}
}
