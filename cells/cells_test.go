package cells_test

import (
	"slices"
	"testing"

	"boustrophedon/cells"
)

const most = 1<<63 - 1

// P28.1
func TestStarts(t *testing.T) {
	for _, x := range []struct {
		widths, want []int
		sum          int
	}{
		{nil, nil, 0},
		{[]int{3}, []int{0}, 3},
		{[]int{1, 0, 2}, []int{0, 1, 1}, 3},
		{[]int{0, 0, 2, 0}, []int{0, 0, 0, 2}, 2},
		{[]int{2, -1, 1}, []int{0, 2, 1}, 2},
		{[]int{most, 1, 1}, []int{0, most, -1 << 63}, -1<<63 + 1},
	} {
		if got, sum := cells.Starts(x.widths); !slices.Equal(got, x.want) || sum != x.sum {
			t.Errorf("%v: %v, %d", x.widths, got, sum)
		}
	}
}

// P28.2
func TestHit(t *testing.T) {
	for _, x := range []struct {
		widths     []int
		cell, want int
		ok         bool
	}{
		{nil, 0, 0, false},
		{[]int{0}, 0, 0, false},
		{[]int{0, -3, 0}, 1, 0, false},
		{[]int{1, 0, 2}, -1, 0, true},
		{[]int{1, 0, 2}, 0, 0, true},
		{[]int{1, 0, 2}, 1, 2, true},
		{[]int{1, 0, 2}, 2, 2, true},
		{[]int{1, 0, 2}, 3, 2, true},
		{[]int{1, 0, 2}, 9, 2, true},
		{[]int{0, 1, 2, 0}, -1 << 63, 1, true},
		{[]int{0, 1, 2, 0}, most, 2, true},
		{[]int{2, -9, 1}, 1, 0, true},
		{[]int{2, -9, 1}, 2, 2, true},
		{[]int{most, most, 4}, 5, 0, true},
		{[]int{most, most, 4}, most, 1, true},
		{[]int{3, most, 4}, most, 1, true},
	} {
		if got, ok := cells.Hit(x.widths, x.cell); got != x.want || ok != x.ok {
			t.Errorf("%v, %d: %d, %v", x.widths, x.cell, got, ok)
		}
	}
}

// P28.2: every cell of some lines.
func TestHitAll(t *testing.T) {
	for code := range 1 << 12 {
		widths := make([]int, 6)
		var owners []int // of each cell
		for i := range widths {
			widths[i] = code>>(2*i)&3 - 1
			for range widths[i] {
				owners = append(owners, i)
			}
		}
		for cell := -2; cell < len(owners)+3; cell++ {
			got, ok := cells.Hit(widths, cell)
			if len(owners) == 0 {
				if got != 0 || ok {
					t.Fatal(widths, cell, got, ok)
				}
				continue
			}
			if want := owners[max(0, min(cell, len(owners)-1))]; got != want || !ok {
				t.Fatal(widths, cell, got, ok)
			}
		}
	}
}
