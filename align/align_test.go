package align_test

import (
	"errors"
	"slices"
	"testing"

	"boustrophedon/align"
	"boustrophedon/api"
)

const most = 1<<63 - 1

// P34.1
func TestIndent(t *testing.T) {
	for _, x := range []struct {
		cells, width int
		s            align.Side
		level, want  int
	}{
		{3, 10, align.Left, 0, 0},
		{3, 10, align.Left, 1, 0},
		{3, 10, align.Right, 0, 7},
		{3, 10, align.Right, 1, 7},
		{3, 10, align.Start, 0, 0},
		{3, 10, align.Start, 1, 7},
		{3, 10, align.Start, 2, 0},
		{3, 10, align.Start, 125, 7},
		{3, 10, align.End, 0, 7},
		{3, 10, align.End, 1, 0},
		{3, 10, align.Centre, 0, 3},
		{3, 10, align.Centre, 1, 4},
		{3, 9, align.Centre, 0, 3},
		{3, 9, align.Centre, 1, 3},
		{0, most, align.Centre, 0, most / 2},
		{0, most, align.Centre, 1, most/2 + 1},
		{0, 0, align.Right, 0, 0},
		{10, 3, align.Right, 0, 0},
		{10, 3, align.Start, 1, 0},
		{10, 3, align.End, 0, 0},
		{10, 3, align.Centre, 1, 0},
		{most, 0, align.Right, most, 0},
	} {
		if got, err := align.Indent(x.cells, x.width, x.s, x.level); got != x.want || err != nil {
			t.Errorf("%v: %d, %v", x, got, err)
		}
	}
	if align.Start != 0 || align.End != 1 || align.Left != 2 || align.Right != 3 || align.Centre != 4 {
		t.Error("the sides have other numbers")
	}
}

// P34.1
func TestNoSide(t *testing.T) {
	for _, s := range []align.Side{-1, 5, -1 << 63, most} {
		for level := range 2 {
			got, err := align.Indent(3, 10, s, level)
			var f *api.Fault
			if got != 0 || !errors.Is(err, api.ErrRange) || !errors.As(err, &f) || f.Where != "side" || f.At != int(s) {
				t.Errorf("%d: %d, %v", s, got, err)
			}
		}
	}
}

// P34.2
func TestJustify(t *testing.T) {
	for _, x := range []struct {
		widths []int
		grows  []bool
		width  int
		want   []int
	}{
		{nil, nil, 5, nil},
		{nil, []bool{true}, 5, nil},
		{[]int{1, 1, 1, 1}, []bool{false, true, false, true}, 9, []int{1, 4, 1, 3}},
		{[]int{1, 1, 1, 1}, []bool{false, true, false, true}, 8, []int{1, 3, 1, 3}},
		{[]int{1, 1, 1, 1}, []bool{false, true, false, true}, 4, []int{1, 1, 1, 1}},
		{[]int{1, 1, 1, 1}, []bool{false, true, false, true}, 3, []int{1, 1, 1, 1}},
		{[]int{1, 1}, []bool{true, true}, -1 << 62, []int{1, 1}},
		{[]int{1, 1, 1}, []bool{true, true, true}, 4, []int{2, 1, 1}},
		{[]int{1, 1, 1}, []bool{true, true, true}, 5, []int{2, 2, 1}},
		{[]int{1, 0, 2}, []bool{false, true}, 9, []int{1, 6, 2}},
		{[]int{1, 0, 2}, []bool{false, false, false}, 9, []int{1, 0, 2}},
		{[]int{1, 0, 2}, nil, 9, []int{1, 0, 2}},
		{[]int{1, 2}, []bool{false, false, true}, 9, []int{1, 2}},
		{[]int{1, 2}, []bool{true, false, true, true}, 9, []int{7, 2}},
		{[]int{0, 0}, []bool{true, true}, most, []int{most/2 + 1, most / 2}},
	} {
		given := slices.Clone(x.widths)
		if got := align.Justify(x.widths, x.grows, x.width); !slices.Equal(got, x.want) {
			t.Errorf("%v: %v", x, got)
		}
		if !slices.Equal(given, x.widths) {
			t.Errorf("%v were changed", given)
		}
	}
}

// P34.2: what grows takes all that is free, evenly.
func TestJustifyAll(t *testing.T) {
	for code := range 1 << 5 {
		grows, items := make([]bool, 5), 0
		for i := range grows {
			grows[i] = code>>i&1 == 1
			if grows[i] {
				items++
			}
		}
		for width := range 20 {
			widths := []int{1, 0, 2, 1, 0}
			want, first := slices.Clone(widths), 0
			for i := range want {
				if grows[i] && width > 4 {
					want[i] += (width - 4) / items
					if first < (width-4)%items {
						want[i]++
					}
					first++
				}
			}
			if got := align.Justify(widths, grows, width); !slices.Equal(got, want) {
				t.Errorf("%v, %d: %v, not %v", grows, width, got, want)
			}
		}
	}
}
