package marks_test

import (
	"slices"
	"testing"

	"boustrophedon/bidic"
	"boustrophedon/marks"
)

const (
	R   = bidic.R
	NSM = bidic.NSM
)

// P26.1
func TestFix(t *testing.T) {
	for _, x := range []struct {
		visual, levels []int
		cs             []bidic.Class
		widths         []int
		want           []int
	}{
		{nil, nil, nil, nil, nil},
		{[]int{2, 1, 0}, []int{1, 1, 1}, []bidic.Class{R, NSM, NSM}, []int{1, 0, 0}, []int{0, 1, 2}},
		{[]int{2, 1, 0}, []int{2, 2, 2}, []bidic.Class{R, NSM, NSM}, []int{1, 0, 0}, []int{2, 1, 0}},
		{[]int{2, 1, 0}, []int{-1, -1, -1}, []bidic.Class{R, NSM, NSM}, []int{1, 0, 0}, []int{2, 1, 0}},
		{[]int{2, 1, 0}, []int{-3, -3, -3}, []bidic.Class{R, NSM, NSM}, []int{1, 0, 0}, []int{2, 1, 0}},
		// a mark is of class NSM, and takes no cell
		{[]int{2, 1, 0}, []int{1, 1, 1}, []bidic.Class{R, NSM, NSM}, []int{1, 1, 0}, []int{1, 2, 0}},
		{[]int{2, 1, 0}, []int{1, 1, 1}, []bidic.Class{R, NSM, NSM}, []int{1, -1, 0}, []int{1, 2, 0}},
		{[]int{2, 1, 0}, []int{1, 1, 1}, []bidic.Class{R, R, NSM}, []int{1, 0, 0}, []int{1, 2, 0}},
		// what is behind them is of another level, or nothing
		{[]int{2, 1, 0}, []int{3, 1, 1}, []bidic.Class{R, NSM, NSM}, []int{1, 0, 0}, []int{2, 1, 0}},
		{[]int{2, 1}, []int{1, 1, 1}, []bidic.Class{R, NSM, NSM}, []int{1, 0, 0}, []int{2, 1}},
		{[]int{0, 1}, []int{0, 1}, []bidic.Class{R, NSM}, []int{1, 0}, []int{0, 1}},
		// the first mark's level decides
		{[]int{2, 1, 0}, []int{1, 3, 1}, []bidic.Class{R, NSM, NSM}, []int{1, 0, 0}, []int{0, 1, 2}},
		{[]int{2, 1, 0}, []int{1, 1, 3}, []bidic.Class{R, NSM, NSM}, []int{1, 0, 0}, []int{2, 1, 0}},
		// several, and what is between them
		{[]int{6, 5, 4, 3, 2, 1, 0}, []int{1, 1, 1, 1, 1, 1, 1}, []bidic.Class{R, NSM, R, R, NSM, NSM, NSM}, []int{1, 0, 1, 1, 0, 0, 0}, []int{3, 4, 5, 6, 2, 0, 1}},
		{[]int{0, 1, 2, 3}, []int{1, 1, 1, 1}, []bidic.Class{NSM, R, NSM, R}, []int{0, 1, 0, 1}, []int{1, 0, 3, 2}},
		// places that stand twice, or not at all
		{[]int{1, 1, 0, 0}, []int{1, 1, 1}, []bidic.Class{R, NSM, R}, []int{1, 0, 1}, []int{0, 1, 1, 0}},
		// places that there are not
		{[]int{1, 0, 2}, []int{1, 1}, []bidic.Class{R, NSM, R}, []int{1, 0, 1}, []int{1, 0, 2}},
		{[]int{1, 0, 2}, []int{1, 1, 1}, []bidic.Class{R, NSM}, []int{1, 0, 1}, []int{1, 0, 2}},
		{[]int{1, 0, 2}, []int{1, 1, 1}, []bidic.Class{R, NSM, R}, []int{1, 0}, []int{1, 0, 2}},
		{[]int{1, 0, -1}, []int{1, 1, 1}, []bidic.Class{R, NSM, R}, []int{1, 0, 1}, []int{1, 0, -1}},
		{[]int{1, 0, 1<<63 - 1}, []int{1, 1, 1}, []bidic.Class{R, NSM, R}, []int{1, 0, 1}, []int{1, 0, 1<<63 - 1}},
		{[]int{1, 0}, nil, nil, nil, []int{1, 0}},
	} {
		given := slices.Clone(x.visual)
		if got := marks.Fix(x.visual, x.levels, x.cs, x.widths); !slices.Equal(got, x.want) {
			t.Errorf("%v: %v", x, got)
		}
		if !slices.Equal(given, x.visual) {
			t.Errorf("%v was changed", given)
		}
	}
}
