package relevel_test

import (
	"slices"
	"testing"

	"boustrophedon/bidic"
	"boustrophedon/relevel"
)

const (
	L  = bidic.L
	R  = bidic.R
	B  = bidic.B
	S  = bidic.S
	WS = bidic.WS
	X  = -1
)

// P24.1
func TestOf(t *testing.T) {
	for _, x := range []struct {
		levels []int
		cs     []bidic.Class
		bases  []int
		want   []int
	}{
		{nil, nil, nil, nil},
		{[]int{1, 1, 1, 1}, []bidic.Class{R, WS, S, WS}, []int{0, 0, 0, 0}, []int{1, 0, 0, 0}},
		{[]int{1, 1, 1}, []bidic.Class{WS, R, WS}, []int{0, 0, 0}, []int{1, 1, 0}},
		{[]int{0, 0, 0}, []bidic.Class{WS, WS, B}, []int{1, 1, 1}, []int{1, 1, 1}},
		{[]int{1, X, 1}, []bidic.Class{WS, bidic.BN, WS}, []int{0, 0, 0}, []int{0, X, 0}},
		{[]int{1, X, X}, []bidic.Class{WS, L, S}, []int{0, 0, 0}, []int{1, X, X}},
		{[]int{1, 1, 1, 1}, []bidic.Class{WS, B, WS, R}, []int{0, 5, 6, 7}, []int{0, 5, 1, 1}},
		{[]int{2, 2}, []bidic.Class{200, 255}, []int{0, 0}, []int{2, 2}},
		// other lengths
		{[]int{1, 1}, []bidic.Class{WS}, []int{0, 0}, []int{1, 1}},
		{[]int{1, 1}, []bidic.Class{WS, WS}, []int{0}, []int{1, 1}},
		{[]int{1}, []bidic.Class{WS, WS}, []int{0, 0}, []int{1}},
		{nil, []bidic.Class{WS}, []int{0}, nil},
	} {
		given := slices.Clone(x.levels)
		if got := relevel.Of(x.levels, x.cs, x.bases); !slices.Equal(got, x.want) {
			t.Errorf("%v: %v", x, got)
		}
		if !slices.Equal(given, x.levels) {
			t.Errorf("%v were changed", given)
		}
	}
}

// P24.1: which classes are blank.
func TestBlanks(t *testing.T) {
	blanks := []bidic.Class{WS, bidic.LRI, bidic.RLI, bidic.FSI, bidic.PDI, bidic.LRE, bidic.LRO, bidic.RLE, bidic.RLO, bidic.PDF, bidic.BN}
	for i := range 256 {
		c := bidic.Class(i)
		if c == S || c == B {
			continue
		}
		want := []int{9, 4, 4, 4}
		if slices.Contains(blanks, c) {
			want = []int{9, 0, 0, 0}
		}
		for _, end := range []bidic.Class{S, B, WS} {
			want[3] = 0
			if got := relevel.Of([]int{9, 4, 4, 4}, []bidic.Class{R, c, c, end}, []int{0, 0, 0, 0}); !slices.Equal(got, want) {
				t.Errorf("%d ahead of %d: %v", c, end, got)
			}
		}
	}
}

// P24.1: every line of up to six.
func TestAll(t *testing.T) {
	kinds := []bidic.Class{R, WS, S, bidic.BN}
	for n := range 7 {
		for code := range 1 << (2 * n) {
			levels, cs, bases := make([]int, n), make([]bidic.Class, n), make([]int, n)
			for i := range n {
				levels[i], cs[i], bases[i] = 3, kinds[code>>(2*i)&3], i%2
			}
			want := slices.Clone(levels)
			for i := range n {
				next := i
				for next < n && (cs[next] == WS || cs[next] == bidic.BN) {
					next++
				}
				if next == n || cs[next] == S {
					want[i] = bases[i]
				}
			}
			if got := relevel.Of(levels, cs, bases); !slices.Equal(got, want) {
				t.Fatalf("%v: %v, not %v", cs, got, want)
			}
		}
	}
}
