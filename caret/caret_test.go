package caret_test

import (
	"errors"
	"slices"
	"testing"

	"boustrophedon/api"
	"boustrophedon/caret"
)

// P29.1
func TestStops(t *testing.T) {
	for _, x := range []struct{ widths, want []int }{
		{nil, []int{0}},
		{[]int{0, 0}, []int{2}},
		{[]int{1, 0, 2}, []int{0, 2, 3}},
		{[]int{0, 1, -1, 1 << 40, 0}, []int{1, 3, 5}},
	} {
		if got := caret.Stops(x.widths); !slices.Equal(got, x.want) {
			t.Errorf("%v: %v", x.widths, got)
		}
	}
}

// P29.1
func TestMoves(t *testing.T) {
	for _, x := range []struct {
		stops           []int
		at, right, left int
	}{
		{[]int{0, 2, 3}, 0, 2, 0},
		{[]int{0, 2, 3}, 2, 3, 0},
		{[]int{0, 2, 3}, 3, 3, 2},
		{[]int{7}, 7, 7, 7},
		{[]int{5, -4, 9}, -4, 9, 5},
		// the first one that equals it
		{[]int{1, 2, 1, 3}, 1, 2, 1},
		{[]int{4, 2, 2, 3}, 2, 2, 4},
	} {
		right, err := caret.Right(x.stops, x.at)
		if right != x.right || err != nil {
			t.Errorf("%v: Right(%d) = %d, %v", x.stops, x.at, right, err)
		}
		left, err := caret.Left(x.stops, x.at)
		if left != x.left || err != nil {
			t.Errorf("%v: Left(%d) = %d, %v", x.stops, x.at, left, err)
		}
	}
}

// P29.1
func TestNoStop(t *testing.T) {
	for _, stops := range [][]int{nil, {0, 2, 3}} {
		for _, at := range []int{1, -1, 4, -1 << 63, 1<<63 - 1} {
			for _, move := range []func([]int, int) (int, error){caret.Right, caret.Left} {
				got, err := move(stops, at)
				var f *api.Fault
				if got != 0 || !errors.Is(err, api.ErrIndex) || !errors.As(err, &f) || f.Where != "caret" || f.At != at {
					t.Errorf("%v, %d: %d, %v", stops, at, got, err)
				}
			}
		}
	}
}

// T6
func TestThereAndBack(t *testing.T) {
	stops := caret.Stops([]int{0, 1, 0, 2, 1, 0})
	at, met := stops[0], []int{stops[0]}
	for {
		next, err := caret.Right(stops, at)
		if err != nil {
			t.Fatal(err)
		}
		if next == at {
			break
		}
		if back, _ := caret.Left(stops, next); back != at {
			t.Errorf("from %d to %d, and back to %d", at, next, back)
		}
		at, met = next, append(met, next)
	}
	if !slices.Equal(met, stops) {
		t.Error(met)
	}
}
