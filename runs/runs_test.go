package runs_test

import (
	"slices"
	"testing"

	"boustrophedon/runs"
)

// P12.1
func TestOf(t *testing.T) {
	const X = -1
	for _, x := range []struct {
		levels []int
		want   [][]int
	}{
		{nil, nil},
		{[]int{X, X}, nil},
		{[]int{0, 0, X, 0, 1}, [][]int{{0, 1, 3}, {4}}},
		{[]int{X, 2, X, X, 2, X}, [][]int{{1, 4}}},
		{[]int{1, X, 0, X, 1}, [][]int{{0}, {2}, {4}}},
		{[]int{0, 1, 0, 1}, [][]int{{0}, {1}, {2}, {3}}},
		{[]int{-2, -2, X, -3, 500, 500}, [][]int{{0, 1}, {3}, {4, 5}}},
	} {
		if got := runs.Of(x.levels); !slices.EqualFunc(got, x.want, slices.Equal) {
			t.Errorf("%v: %v", x.levels, got)
		}
	}
}

// P12.1, W6: what is appended to a run does not fall into the next one.
func TestRunsShareNothing(t *testing.T) {
	rs := runs.Of([]int{0, 0, 0, 1, 1})
	_ = append(rs[0], 99)
	if !slices.Equal(rs[1], []int{3, 4}) {
		t.Error(rs)
	}
}
