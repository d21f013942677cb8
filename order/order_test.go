package order_test

import (
	"slices"
	"testing"

	"boustrophedon/order"
)

const X = -1

// P25.1
func TestVisual(t *testing.T) {
	for _, x := range []struct{ levels, want []int }{
		{nil, nil},
		{[]int{X, X}, nil},
		{[]int{0, 0, 0}, []int{0, 1, 2}},
		{[]int{1, 1, 1}, []int{2, 1, 0}},
		{[]int{2, 2}, []int{0, 1}},
		{[]int{0, 1, 1, 0}, []int{0, 2, 1, 3}},
		{[]int{1, 2, 2, 1}, []int{3, 1, 2, 0}},
		{[]int{0, X, 1, X, 1, 0}, []int{0, 4, 2, 5}},
		{[]int{1, X, 2, 2, X}, []int{2, 3, 0}},
		{[]int{3, 2, 1, 0}, []int{2, 0, 1, 3}},
		{[]int{1, 3, 4, 1}, []int{3, 2, 1, 0}},
		{[]int{1, 3, 4, 4, 1}, []int{4, 2, 3, 1, 0}},
		// levels that no line has
		{[]int{-2, 1, -1 << 63, 1}, []int{0, 1, 2, 3}},
		{[]int{126, 126}, []int{0, 1}},
		{[]int{127, 127}, []int{0, 1}},
		{[]int{125, 125}, []int{1, 0}},
		{[]int{125, 127, 1<<63 - 1, 125}, []int{3, 1, 2, 0}},
		{[]int{126, 127, 125}, []int{2, 0, 1}},
	} {
		given := slices.Clone(x.levels)
		if got := order.Visual(x.levels); !slices.Equal(got, x.want) {
			t.Errorf("%v: %v", x.levels, got)
		}
		if !slices.Equal(given, x.levels) {
			t.Errorf("%v were changed", given)
		}
	}
}

// visual is Visual as the promise says it: the levels turn around with their places.
func visual(levels []int) []int {
	type item struct{ place, level int }
	var items []item
	for i, level := range levels {
		if level != X {
			items = append(items, item{i, max(0, min(level, 126))})
		}
	}
	for level := 126; level >= 1; level-- {
		from := 0
		for at := 0; at <= len(items); at++ {
			if at == len(items) || items[at].level < level {
				slices.Reverse(items[from:at])
				from = at + 1
			}
		}
	}
	var places []int
	for _, x := range items {
		places = append(places, x.place)
	}
	return places
}

// P25.1, P25.2: many lines.
func TestMany(t *testing.T) {
	seed := uint32(11)
	next := func(n int) int {
		seed = seed*1664525 + 1013904223
		return int(seed>>8) % n
	}
	for k := range 20000 {
		levels := make([]int, next(14))
		for i := range levels {
			levels[i] = next(7) - 1
			if k%10 == 0 {
				levels[i] = next(140) - 6
			}
		}
		got := order.Visual(levels)
		if want := visual(levels); !slices.Equal(got, want) {
			t.Fatalf("%v: %v, not %v", levels, got, want)
		}
		back, ok := order.Back(got, levels)
		if !ok || len(back) != len(levels) {
			t.Fatalf("%v: %v, %v", levels, back, ok)
		}
		for i, at := range back {
			if (at == X) != (levels[i] == X) || at != X && got[at] != i {
				t.Fatalf("%v: %v, %v", levels, got, back)
			}
		}
	}
}

// P25.2
func TestBack(t *testing.T) {
	for _, x := range []struct {
		visual []int
		levels int
		want   []int
		ok     bool
	}{
		{nil, 0, nil, true},
		{nil, 2, []int{X, X}, true},
		{[]int{0, 2, 1}, 3, []int{0, 2, 1}, true},
		{[]int{3, 1}, 4, []int{X, 1, X, 0}, true},
		{[]int{0, 0}, 2, nil, false},
		{[]int{1, 0, 1}, 2, nil, false},
		{[]int{2}, 2, nil, false},
		{[]int{0}, 0, nil, false},
		{[]int{-1}, 2, nil, false},
		{[]int{-1 << 63}, 2, nil, false},
		{[]int{1<<63 - 1}, 2, nil, false},
	} {
		if got, ok := order.Back(x.visual, make([]int, x.levels)); !slices.Equal(got, x.want) || ok != x.ok {
			t.Errorf("%v, %d: %v, %v", x.visual, x.levels, got, ok)
		}
	}
}
