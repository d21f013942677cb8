package neutral_test

import (
	"slices"
	"testing"

	"boustrophedon/bidic"
	"boustrophedon/neutral"
	"boustrophedon/pairs"
)

const (
	L   = bidic.L
	R   = bidic.R
	AL  = bidic.AL
	EN  = bidic.EN
	AN  = bidic.AN
	NSM = bidic.NSM
	ON  = bidic.ON
	WS  = bidic.WS
	LRI = bidic.LRI
	PDI = bidic.PDI
)

func TestLevel(t *testing.T) {
	for level, want := range map[int]bidic.Class{0: L, 1: R, 2: L, 125: R, 126: L, -1: L, -2: L, -1 << 63: L, 1<<63 - 1: R} {
		if got := neutral.Level(level); got != want {
			t.Error(level, got)
		}
	}
}

// P16.1
func TestBrackets(t *testing.T) {
	type classes = []bidic.Class
	for _, x := range []struct {
		text      string
		first, cs classes
		level     int
		sos       bidic.Class
		want      classes
	}{
		{"", nil, nil, 0, L, nil},
		// the embedding direction within
		{"(a)", classes{ON, L, ON}, classes{ON, L, ON}, 0, R, classes{L, L, L}},
		{"(a)", classes{ON, R, ON}, classes{ON, R, ON}, 1, L, classes{R, R, R}},
		{"(ab)", classes{ON, R, L, ON}, classes{ON, R, L, ON}, 0, R, classes{L, R, L, L}},
		// another one within: what is before decides
		{"r(a)", classes{R, ON, R, ON}, classes{R, ON, R, ON}, 0, L, classes{R, R, R, R}},
		{"l(a)", classes{L, ON, R, ON}, classes{L, ON, R, ON}, 0, R, classes{L, L, R, L}},
		{"l (a)", classes{L, WS, ON, R, ON}, classes{L, WS, ON, R, ON}, 0, R, classes{L, WS, L, R, L}},
		{"(a)", classes{ON, R, ON}, classes{ON, R, ON}, 0, R, classes{R, R, R}},
		{"(a)", classes{ON, R, ON}, classes{ON, R, ON}, 0, L, classes{L, R, L}},
		{"(a)", classes{ON, L, ON}, classes{ON, L, ON}, 1, R, classes{R, L, R}},
		{"(a)", classes{ON, L, ON}, classes{ON, L, ON}, 1, L, classes{L, L, L}},
		// numbers count as R
		{"(1)", classes{ON, EN, ON}, classes{ON, EN, ON}, 1, L, classes{R, EN, R}},
		{"(1)", classes{ON, AN, ON}, classes{ON, AN, ON}, 1, L, classes{R, AN, R}},
		{"1(a)", classes{EN, ON, R, ON}, classes{EN, ON, R, ON}, 0, L, classes{EN, R, R, R}},
		{"1(a)", classes{EN, ON, AL, ON}, classes{AL, ON, AL, ON}, 0, L, classes{AL, R, AL, R}},
		// nothing within
		{"( )", classes{ON, WS, ON}, classes{ON, WS, ON}, 0, R, classes{ON, WS, ON}},
		{"()", classes{ON, ON}, classes{ON, ON}, 1, R, classes{ON, ON}},
		{"(a)", classes{ON, LRI, ON}, classes{ON, LRI, ON}, 1, R, classes{ON, LRI, ON}},
		// the classes are those of the moment: a pair within one counts when it is resolved, and for the next pair
		{"a(r)[r]", classes{L, ON, R, ON, ON, R, ON}, classes{L, ON, R, ON, ON, R, ON}, 0, R, classes{L, L, R, L, L, R, L}},
		{"([r])", classes{ON, ON, R, ON, ON}, classes{ON, ON, R, ON, ON}, 0, L, classes{L, L, R, L, L}},
		{"(r)[r]", classes{ON, R, ON, ON, R, ON}, classes{ON, R, ON, ON, R, ON}, 0, L, classes{L, R, L, L, R, L}},
		// marks behind brackets
		{"(``a)``b", classes{ON, NSM, NSM, L, ON, NSM, NSM, WS}, classes{ON, ON, ON, L, ON, ON, ON, WS}, 0, R, classes{L, L, L, L, L, L, L, WS}},
		{"r(a)``b`", classes{R, ON, R, ON, NSM, NSM, WS, NSM}, classes{R, ON, R, ON, ON, ON, WS, WS}, 0, L, classes{R, R, R, R, R, R, WS, WS}},
		{"()`", classes{ON, ON, NSM}, classes{ON, ON, ON}, 0, R, classes{ON, ON, ON}},
		// brackets that are none by their classes
		{"(a)", classes{ON, L, L}, classes{ON, L, L}, 0, R, classes{ON, L, L}},
		// other lengths
		{"(a", classes{ON, L, ON}, classes{ON, L, ON}, 0, R, classes{ON, L, ON}},
		{"(a)", classes{ON, L}, classes{ON, L, ON}, 0, R, classes{ON, L, ON}},
		{"(a)", nil, classes{ON, L, ON}, 0, R, classes{ON, L, ON}},
		{"(a)", classes{ON, L, ON}, classes{ON, L}, 0, R, classes{ON, L}},
	} {
		first, cs := slices.Clone(x.first), slices.Clone(x.cs)
		if got := neutral.Brackets([]rune(x.text), x.first, x.cs, x.level, x.sos); !slices.Equal(got, x.want) {
			t.Errorf("%q, %v, %v, %d, %v: %v, not %v", x.text, x.first, x.cs, x.level, x.sos, got, x.want)
		}
		if !slices.Equal(first, x.first) || !slices.Equal(cs, x.cs) {
			t.Errorf("%q: an argument was changed", x.text)
		}
	}
}

// P16.2
func TestRest(t *testing.T) {
	type classes = []bidic.Class
	for _, x := range []struct {
		cs       classes
		level    int
		sos, eos bidic.Class
		want     classes
	}{
		{nil, 0, L, L, nil},
		{classes{L, ON, R, ON, R}, 0, L, L, classes{L, L, R, R, R}},
		{classes{L, ON, R, ON, R}, 1, L, L, classes{L, R, R, R, R}},
		{classes{R, ON, EN, R}, 0, R, R, classes{R, R, EN, R}},
		{classes{EN, ON, AN, ON, AL}, 0, L, L, classes{EN, R, AN, R, AL}},
		{classes{ON, WS}, 1, L, L, classes{L, L}},
		{classes{ON, WS}, 0, R, R, classes{R, R}},
		{classes{ON, WS}, 0, L, R, classes{L, L}},
		{classes{ON, WS}, 1, R, L, classes{R, R}},
		{classes{ON, R, LRI, 200, PDI}, 2, R, L, classes{R, R, L, L, L}},
		{classes{bidic.B, bidic.S, L}, 1, L, R, classes{L, L, L}},
		{classes{ON, ON, L, ON, ON}, 1, L, R, classes{L, L, L, R, R}},
		{classes{R, ON, L}, -1, L, R, classes{R, L, L}},
	} {
		given := slices.Clone(x.cs)
		if got := neutral.Rest(x.cs, x.level, x.sos, x.eos); !slices.Equal(got, x.want) {
			t.Errorf("%v, %d, %v, %v: %v, not %v", x.cs, x.level, x.sos, x.eos, got, x.want)
		}
		if !slices.Equal(given, x.cs) {
			t.Errorf("%v was changed", given)
		}
	}
}

// way is the direction of a class; false, if it has none.
func way(c bidic.Class) (bidic.Class, bool) {
	switch c {
	case L:
		return L, true
	case R, AL, EN, AN:
		return R, true
	}
	return 0, false
}

// nearest is the direction of the first class that has one from a place on, by steps of 1 or -1.
func nearest(cs []bidic.Class, at, step int, end bidic.Class) bidic.Class {
	for ; at >= 0 && at < len(cs); at += step {
		if d, ok := way(cs[at]); ok {
			return d
		}
	}
	return end
}

// brackets is Brackets as the promise says it.
func brackets(rs []rune, first, cs []bidic.Class, level int, sos bidic.Class) []bidic.Class {
	out := slices.Clone(cs)
	for _, p := range pairs.Of(rs, cs) {
		var found []bidic.Class
		for _, c := range out[p.Open+1 : p.Close] {
			if d, ok := way(c); ok {
				found = append(found, d)
			}
		}
		if len(found) == 0 {
			continue
		}
		d := neutral.Level(level)
		if !slices.Contains(found, d) {
			d = nearest(out, p.Open-1, -1, sos)
		}
		for _, at := range []int{p.Open, p.Close} {
			out[at] = d
			for at++; at < len(out) && first[at] == NSM; at++ {
				out[at] = d
			}
		}
	}
	return out
}

// P16.1, P16.2: many sequences, against what the promises say.
func TestMany(t *testing.T) {
	runes := []rune("([)]()aaa")
	kinds := []bidic.Class{ON, ON, ON, ON, ON, ON, L, R, EN}
	seed := uint32(1)
	next := func(n int) int {
		seed = seed*1664525 + 1013904223
		return int(seed>>8) % n
	}
	for range 300000 {
		n := next(12)
		rs, first, cs := make([]rune, n), make([]bidic.Class, n), make([]bidic.Class, n)
		for i := range n {
			k := next(len(runes))
			rs[i], first[i], cs[i] = runes[k], kinds[k], kinds[k]
			if next(4) == 0 {
				rs[i], first[i], cs[i] = 'm', NSM, ON
			}
		}
		level, ends := next(3), []bidic.Class{L, R}
		sos, eos := ends[next(2)], ends[next(2)]
		got := neutral.Brackets(rs, first, cs, level, sos)
		if want := brackets(rs, first, cs, level, sos); !slices.Equal(got, want) {
			t.Fatalf("%q, %v, %v, %d, %v: %v, not %v", rs, first, cs, level, sos, got, want)
		}
		rest := neutral.Rest(got, level, sos, eos)
		for i, c := range got {
			want := c
			if _, ok := way(c); !ok {
				want = neutral.Level(level)
				if d := nearest(got, i-1, -1, sos); d == nearest(got, i+1, 1, eos) {
					want = d
				}
			}
			if rest[i] != want {
				t.Fatalf("%v, %d, %v, %v: %v", got, level, sos, eos, rest)
			}
		}
	}
}
