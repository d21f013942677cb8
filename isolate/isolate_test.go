package isolate_test

import (
	"slices"
	"testing"

	"boustrophedon/bidic"
	"boustrophedon/isolate"
)

const (
	L   = bidic.L
	LRI = bidic.LRI
	RLI = bidic.RLI
	FSI = bidic.FSI
	PDI = bidic.PDI
)

// P9.1
func TestMatch(t *testing.T) {
	for _, x := range []struct {
		cs   []bidic.Class
		want []int
	}{
		{nil, nil},
		{[]bidic.Class{L}, []int{-1}},
		{[]bidic.Class{LRI, RLI, PDI, L, PDI, PDI}, []int{4, 2, 1, -1, 0, -1}},
		{[]bidic.Class{RLI, L}, []int{-1, -1}},
		{[]bidic.Class{PDI, FSI, PDI}, []int{-1, 2, 1}},
		{[]bidic.Class{LRI, FSI, PDI}, []int{-1, 2, 1}},
		{[]bidic.Class{bidic.LRE, PDI, bidic.PDF, LRI, bidic.PDF, PDI}, []int{-1, -1, -1, 5, -1, 3}},
		{[]bidic.Class{255, LRI, 23, PDI}, []int{-1, 3, -1, 1}},
	} {
		if got := isolate.Match(x.cs); !slices.Equal(got, x.want) {
			t.Errorf("%v: %v", x.cs, got)
		}
	}
	if isolate.None != -1 {
		t.Error(isolate.None)
	}
}

// closing is the place of what closes an initiator, as the promise says it.
func closing(cs []bidic.Class, at int) int {
	balance := 0
	for i := at; i < len(cs); i++ {
		if bidic.Isolate(cs[i]) {
			balance++
		}
		if cs[i] == PDI {
			balance--
			if balance == 0 {
				return i
			}
		}
	}
	return isolate.None
}

// P9.1: every sequence of up to eight.
func TestMatchAll(t *testing.T) {
	kinds := []bidic.Class{L, LRI, PDI, FSI}
	for n := range 9 {
		for code := range 1 << (2 * n) {
			cs := make([]bidic.Class, n)
			for i := range cs {
				cs[i] = kinds[code>>(2*i)&3]
			}
			want := slices.Repeat([]int{isolate.None}, n)
			for i, c := range cs {
				if !bidic.Isolate(c) {
					continue
				}
				if to := closing(cs, i); to != isolate.None {
					want[i], want[to] = to, i
				}
			}
			if got := isolate.Match(cs); !slices.Equal(got, want) {
				t.Fatalf("%v: %v, not %v", cs, got, want)
			}
		}
	}
}

// P9.1: there is no limit to how deep isolates lie in one another.
func TestMatchDeep(t *testing.T) {
	const n = 1 << 17
	cs := append(slices.Repeat([]bidic.Class{RLI}, n), slices.Repeat([]bidic.Class{PDI}, n)...)
	for i, got := range isolate.Match(cs) {
		if got != 2*n-1-i {
			t.Fatal(i, got)
		}
	}
}
