package selects_test

import (
	"slices"
	"testing"

	"boustrophedon/selects"
)

const (
	least = -1 << 63
	most  = 1<<63 - 1
)

// P35.1
func TestBands(t *testing.T) {
	for _, x := range []struct {
		visual, widths []int
		from, to       int
		want           []selects.Band
		cells          int
	}{
		{nil, nil, 0, 9, nil, 0},
		{[]int{0, 2, 1, 3}, []int{1, 1, 1, 1}, 1, 3, []selects.Band{{1, 3}}, 2},
		{[]int{0, 2, 1, 3}, []int{1, 1, 1, 1}, 0, 2, []selects.Band{{0, 1}, {2, 3}}, 2},
		{[]int{0, 2, 1, 3}, []int{1, 1, 1, 1}, least, most, []selects.Band{{0, 4}}, 4},
		{[]int{0, 2, 1, 3}, []int{1, 1, 1, 1}, 2, 2, nil, 0},
		{[]int{0, 2, 1, 3}, []int{1, 1, 1, 1}, 3, 1, nil, 0},
		{[]int{0, 1, 2, 3}, []int{2, 0, 2, 1}, 0, 3, []selects.Band{{0, 4}}, 4},
		// what takes no cells parts none
		{[]int{0, 9, 1, 3}, []int{2, 0, 2, 1}, 0, 2, []selects.Band{{0, 4}}, 4},
		{[]int{0, 1, 2}, []int{1, 0, 1}, 1, 2, nil, 0},
		{[]int{0, 1, 2}, []int{1, 2, 1}, 2, 9, []selects.Band{{3, 4}}, 1},
		// places that stand twice, and places beyond the line
		{[]int{5, -3, 5}, []int{1, 1, 1}, 5, 6, []selects.Band{{0, 1}, {2, 3}}, 2},
		{[]int{5, -3, 5}, []int{1, 1, 1}, -3, -2, []selects.Band{{1, 2}}, 1},
		// other lengths
		{[]int{0, 1, 2}, []int{1, 1}, 0, 9, []selects.Band{{0, 2}}, 2},
		{[]int{0}, []int{1, 1, 1}, 0, 9, []selects.Band{{0, 1}}, 1},
		{[]int{0}, nil, 0, 9, nil, 0},
	} {
		got := selects.Bands(x.visual, x.widths, x.from, x.to)
		if !slices.Equal(got, x.want) || selects.Cells(got) != x.cells {
			t.Errorf("%v: %v, %d", x, got, selects.Cells(got))
		}
	}
}

// P35.1
func TestCells(t *testing.T) {
	if got := selects.Cells([]selects.Band{{3, 5}, {-2, -1}, {7, 7}}); got != 3 {
		t.Error(got)
	}
	if got := selects.Cells(nil); got != 0 {
		t.Error(got)
	}
}

// P35.2
func TestPlaces(t *testing.T) {
	for _, x := range []struct {
		visual, widths []int
		from, to       int
		want           []int
	}{
		{nil, nil, 0, 9, nil},
		{[]int{0, 2, 1, 3}, []int{1, 1, 1, 1}, 1, 2, []int{2}},
		{[]int{0, 2, 1, 3}, []int{1, 1, 1, 1}, 1, 3, []int{1, 2}},
		{[]int{3, 2, 1, 0}, []int{1, 1, 1, 1}, least, most, []int{0, 1, 2, 3}},
		{[]int{3, 2, 1, 0}, []int{1, 1, 1, 1}, 2, 2, nil},
		{[]int{3, 2, 1, 0}, []int{1, 1, 1, 1}, 3, 1, nil},
		{[]int{1, 0}, []int{5, 5}, 3, 2, nil},
		// one of several cells is enough
		{[]int{1, 0}, []int{2, 2}, 1, 2, []int{1}},
		{[]int{1, 0}, []int{2, 2}, 1, 3, []int{0, 1}},
		{[]int{1, 0}, []int{2, 2}, 4, 9, nil},
		{[]int{1, 0}, []int{2, 2}, -9, 0, nil},
		// what takes no cells has none
		{[]int{0, 1, 2}, []int{1, 0, 1}, 0, 2, []int{0, 2}},
		// places that stand twice, and places beyond the line
		{[]int{1, 1, 0, 1}, []int{1, 1, 1, 1}, 0, 4, []int{0, 1}},
		{[]int{-1, 4, 3, least, most}, []int{1, 1, 1, 1, 1}, 0, 5, []int{3, 4}},
		// other lengths: fewer items
		{[]int{2, 1, 0}, []int{1, 1}, 0, 9, []int{1}},
		{[]int{0}, []int{1, 1}, 0, 9, []int{0}},
		{nil, []int{1}, 0, 9, nil},
	} {
		visual, widths := slices.Clone(x.visual), slices.Clone(x.widths)
		if got := selects.Places(x.visual, x.widths, x.from, x.to); !slices.Equal(got, x.want) {
			t.Errorf("%v: %v", x, got)
		}
		if !slices.Equal(visual, x.visual) || !slices.Equal(widths, x.widths) {
			t.Errorf("%v: an argument was changed", x)
		}
	}
}

// P35.1, P35.2: cell by cell, in lines of up to five.
func TestAll(t *testing.T) {
	visual := []int{0, 3, 2, 4, 1}
	for code := range 1 << 10 {
		widths := make([]int, 5)
		var owners []int
		for item := range widths {
			widths[item] = code >> (2 * item) & 3
			for range widths[item] {
				owners = append(owners, visual[item])
			}
		}
		for from := -1; from < 7; from++ {
			for to := -1; to < 7; to++ {
				checkBands(t, visual, widths, owners, from, to)
				var want []int
				for cell, i := range owners {
					if from <= cell && cell < to && !slices.Contains(want, i) {
						want = append(want, i)
					}
				}
				slices.Sort(want)
				if got := selects.Places(visual, widths, from, to); !slices.Equal(got, want) {
					t.Fatalf("%v, %d, %d: %v, not %v", widths, from, to, got, want)
				}
			}
		}
	}
}

func checkBands(t *testing.T, visual, widths, owners []int, from, to int) {
	t.Helper()
	var want []selects.Band
	selected := func(cell int) bool {
		return cell >= 0 && cell < len(owners) && from <= owners[cell] && owners[cell] < to
	}
	for cell := range owners {
		if selected(cell) && !selected(cell-1) {
			end := cell
			for selected(end) {
				end++
			}
			want = append(want, selects.Band{From: cell, To: end})
		}
	}
	if got := selects.Bands(visual, widths, from, to); !slices.Equal(got, want) {
		t.Fatalf("%v, %d, %d: %v, not %v", widths, from, to, got, want)
	}
}
