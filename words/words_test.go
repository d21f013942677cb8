package words_test

import (
	"slices"
	"testing"

	"boustrophedon/cluster"
	"boustrophedon/linec"
	"boustrophedon/words"
)

const (
	O = words.Other
	L = words.Letter
	S = words.Space
	M = words.Middle
)

// P32.1
func TestKinds(t *testing.T) {
	for _, x := range []struct {
		text string
		want []words.Kind
	}{
		{"", nil},
		{"'.,:_\u2019", []words.Kind{M, M, M, M, M, M}},
		{"09azAZ", []words.Kind{L, L, L, L, L, L}},
		{"#&*<=>@^`~", []words.Kind{O, O, O, O, O, O, O, O, O, O}},
		{"\u00e9\u05d0\u0661\u0e01\u00a7\u0627", []words.Kind{L, L, L, L, L, L}},
		{" \t\u00a0\u00ad\u2003", []words.Kind{S, S, S, S, S}},
		{"-!;$(\u4e00\uac00\n\u2018", []words.Kind{O, O, O, O, O, O, O, O, O}},
		// the first rune of a cluster decides
		{"a\u0301.\u0301 \u0301\u0301", []words.Kind{L, M, S}},
		{"\u0301a\r\n\U0001F1E6\U0001F1E6", []words.Kind{O, L, O, O}},
		// a letter below 80 that is none of the alphabet
		{"\u007f", []words.Kind{O}},
	} {
		if got := words.Kinds([]rune(x.text)); !slices.Equal(got, x.want) {
			t.Errorf("%q: %v", x.text, got)
		}
	}
	if got := words.Kinds([]rune{-1, 1 << 30, 0xd800}); !slices.Equal(got, []words.Kind{O, O, O}) {
		t.Error(got)
	}
	if O != 0 || L != 1 || S != 2 || M != 3 {
		t.Error("the kinds have other numbers")
	}
}

// P32.1: every rune that begins a cluster.
func TestEveryKind(t *testing.T) {
	letters := []linec.Class{linec.AL, linec.HL, linec.NU, linec.SA, linec.AI}
	spaces := []linec.Class{linec.SP, linec.BA, linec.GL}
	for r := rune(0); r < 0x3000; r++ {
		c := linec.Of([]rune{r})[0]
		want := O
		switch {
		case slices.Contains([]rune{'\'', '.', ',', ':', '_', 0x2019}, r):
			want = M
		case slices.Contains(letters, c) && (r >= 0x80 || '0' <= r && r <= '9' || 'a' <= r && r <= 'z' || 'A' <= r && r <= 'Z'):
			want = L
		case slices.Contains(spaces, c):
			want = S
		}
		if got := words.Kinds([]rune{r}); !slices.Equal(got, []words.Kind{want}) {
			t.Errorf("%x: %v, not %v", r, got, want)
		}
	}
}

// P32.2
func TestOf(t *testing.T) {
	for _, x := range []struct {
		text string
		want []string
	}{
		{"", nil},
		{"it's 3.5, no", []string{"it's", " ", "3.5", ",", " ", "no"}},
		{"a..b", []string{"a", ".", ".", "b"}},
		{"a.b.c", []string{"a.b.c"}},
		{".a.", []string{".", "a", "."}},
		{"a.", []string{"a", "."}},
		{".a", []string{".", "a"}},
		{"a. b", []string{"a", ".", " ", "b"}},
		{"a  \t b", []string{"a", "  \t ", "b"}},
		{"a(b)", []string{"a", "(", "b", ")"}},
		{"((", []string{"(", "("}},
		{"''", []string{"'", "'"}},
		{"a\u0301.\u0301b\u0301c", []string{"a\u0301.\u0301b\u0301c"}},
		{"\u4e00\u4e00", []string{"\u4e00", "\u4e00"}},
		{"\r\n\r\n", []string{"\r\n", "\r\n"}},
		{"\u05d0\u05b8\u05d1 \u05d2", []string{"\u05d0\u05b8\u05d1", " ", "\u05d2"}},
		{"a-b", []string{"a", "-", "b"}},
		{"(.a.b", []string{"(", ".", "a.b"}},
	} {
		rs := []rune(x.text)
		var got []string
		want := make([]bool, len(rs)+1)
		want[0] = true
		at := 0
		for _, s := range x.want {
			at += len([]rune(s))
			want[at] = true
		}
		for _, s := range words.Of(rs) {
			got = append(got, string(rs[s.From:s.To]))
		}
		if !slices.Equal(got, x.want) {
			t.Errorf("%q: %q", x.text, got)
		}
		if got := words.Breaks(rs); !slices.Equal(got, want) {
			t.Errorf("%q: %v", x.text, got)
		}
		if string(rs) != x.text {
			t.Errorf("%q was changed", x.text)
		}
	}
}

// P32.2: every text of up to six of some runes.
func TestAll(t *testing.T) {
	runes := []rune{'a', '.', ' ', '!', 0x301}
	count := 1
	for n := range 7 {
		for code := range count {
			rs := make([]rune, n)
			for i, rest := 0, code; i < n; i, rest = i+1, rest/len(runes) {
				rs[i] = runes[rest%len(runes)]
			}
			check(t, rs)
		}
		count *= len(runes)
	}
}

// check holds the breaks of a text against what the promise says of them.
func check(t *testing.T, rs []rune) {
	t.Helper()
	spans, kinds := cluster.Of(rs), words.Kinds(rs)
	at := func(k int) words.Kind {
		if k < 0 || k >= len(kinds) {
			return O
		}
		return kinds[k]
	}
	want := make([]bool, len(rs)+1)
	want[0], want[len(rs)] = true, true
	for k := 1; k < len(spans); k++ {
		a, c := at(k-1), at(k)
		joined := a == L && c == L || a == S && c == S
		joined = joined || a == L && c == M && at(k+1) == L
		joined = joined || a == M && c == L && at(k-2) == L
		want[spans[k].From] = !joined
	}
	if got := words.Breaks(rs); !slices.Equal(got, want) {
		t.Fatalf("%q: %v, not %v", string(rs), got, want)
	}
	var all []cluster.Span
	from := 0
	for i := 1; i < len(want); i++ {
		if want[i] {
			all = append(all, cluster.Span{From: from, To: i})
			from = i
		}
	}
	if got := words.Of(rs); !slices.Equal(got, all) {
		t.Fatalf("%q: %v", string(rs), got)
	}
}
