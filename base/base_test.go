package base_test

import (
	"errors"
	"testing"

	"boustrophedon/api"
	"boustrophedon/base"
	"boustrophedon/bidic"
	"boustrophedon/isolate"
)

const (
	L   = bidic.L
	R   = bidic.R
	AL  = bidic.AL
	EN  = bidic.EN
	ON  = bidic.ON
	LRI = bidic.LRI
	RLI = bidic.RLI
	FSI = bidic.FSI
	PDI = bidic.PDI
)

// P10.1
func TestFirst(t *testing.T) {
	for _, x := range []struct {
		cs     []bidic.Class
		inside bool
		want   int
	}{
		{nil, false, 7},
		{nil, true, 7},
		{[]bidic.Class{L}, false, 0},
		{[]bidic.Class{R}, false, 1},
		{[]bidic.Class{AL, L}, true, 1},
		{[]bidic.Class{ON, EN, bidic.AN, bidic.RLE, bidic.RLO}, false, 7},
		{[]bidic.Class{ON, LRI, L, PDI, R}, false, 1},
		{[]bidic.Class{RLI, R}, false, 7},
		{[]bidic.Class{RLI, FSI, PDI, R}, false, 7},
		{[]bidic.Class{ON, PDI, R}, true, 7},
		{[]bidic.Class{ON, PDI, R}, false, 1},
		{[]bidic.Class{LRI, R, PDI, PDI, L}, true, 7},
		{[]bidic.Class{LRI, R, PDI, L, PDI, R}, true, 0},
		{[]bidic.Class{PDI, PDI, RLI, L, PDI, L}, false, 0},
		{[]bidic.Class{255, R}, false, 1},
	} {
		if got := base.First(x.cs, x.inside, 7); got != x.want {
			t.Errorf("%v, %v: %d", x.cs, x.inside, got)
		}
	}
}

// first is First as the promise says it.
func first(cs []bidic.Class, inside bool, other int) int {
	match := isolate.Match(cs)
	for i := 0; i < len(cs); i++ {
		switch c := cs[i]; {
		case c == PDI && match[i] == isolate.None && inside:
			return other
		case bidic.Isolate(c) && match[i] == isolate.None:
			return other
		case bidic.Isolate(c):
			i = match[i]
		case c == L:
			return 0
		case c == R || c == AL:
			return 1
		}
	}
	return other
}

// P10.1: every sequence of up to six.
func TestFirstAll(t *testing.T) {
	kinds := []bidic.Class{ON, L, R, AL, LRI, RLI, FSI, PDI}
	for n := range 7 {
		for code := range 1 << (3 * n) {
			cs := make([]bidic.Class, n)
			for i := range cs {
				cs[i] = kinds[code>>(3*i)&7]
			}
			for _, inside := range []bool{false, true} {
				if got := base.First(cs, inside, -9); got != first(cs, inside, -9) {
					t.Fatalf("%v, %v: %d", cs, inside, got)
				}
			}
		}
	}
}

// P10.2
func TestLevel(t *testing.T) {
	for _, x := range []struct {
		cs   []bidic.Class
		d    api.Direction
		want int
	}{
		{[]bidic.Class{R}, api.LeftToRight, 0},
		{[]bidic.Class{L}, api.RightToLeft, 1},
		{nil, api.RightToLeft, 1},
		{nil, api.Auto, 0},
		{[]bidic.Class{ON}, api.Auto, 0},
		{[]bidic.Class{ON, PDI, AL, L}, api.Auto, 1},
		{[]bidic.Class{LRI, R, PDI, L}, api.Auto, 0},
	} {
		if got, err := base.Level(x.cs, x.d); got != x.want || err != nil {
			t.Errorf("%v, %v: %d, %v", x.cs, x.d, got, err)
		}
	}
	for _, d := range []api.Direction{-1, 3, -1 << 63, 1<<63 - 1} {
		got, err := base.Level([]bidic.Class{R}, d)
		var f *api.Fault
		if got != 0 || !errors.Is(err, api.ErrDirection) || !errors.As(err, &f) || f.Where != "direction" || f.At != int(d) {
			t.Errorf("%d: %d, %v", d, got, err)
		}
	}
}
