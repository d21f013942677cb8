package measure_test

import (
	"testing"

	"boustrophedon/linec"
	"boustrophedon/measure"
)

const (
	AL = linec.AL
	SP = linec.SP
	CM = linec.CM
)

// cells is Cells as the promise says it.
func cells(widths []int, n, from, to int) int {
	if !(0 <= from && from <= to && to <= n) {
		return 0
	}
	sum := 0
	for i := from; i < to; i++ {
		sum += widths[i]
	}
	return sum
}

// shown is Shown as the promise says it.
func shown(widths []int, cs []linec.Class, n, from, to int) int {
	if !(0 <= from && from <= to && to <= n) {
		return 0
	}
	for to > from && cs[to-1] == SP {
		to--
	}
	return cells(widths, n, from, to)
}

// P22.1, P22.2: all ranges of some texts, and places beyond them.
func TestRuler(t *testing.T) {
	const most = 1<<63 - 1
	for _, x := range []struct {
		widths []int
		cs     []linec.Class
	}{
		{nil, nil},
		{[]int{1, 1, 1, 0}, []linec.Class{AL, SP, SP, CM}},
		{[]int{1, 2, 0, 1}, []linec.Class{SP, SP, SP, SP}},
		{[]int{2, 0, 0, 1, 1}, []linec.Class{AL, CM, SP, SP, AL}},
		{[]int{1, 1}, []linec.Class{AL, SP, AL, AL}},
		{[]int{1, 1, 1, 1}, []linec.Class{AL, SP}},
		{[]int{1}, nil},
		{nil, []linec.Class{AL}},
		{[]int{most, 1, 5, most, most, 3}, []linec.Class{AL, SP, 255, AL, AL, SP}},
		{[]int{0, 0, 0}, []linec.Class{AL, CM, linec.ZW}},
	} {
		r := measure.Of(x.widths, x.cs)
		n := min(len(x.widths), len(x.cs))
		if r.Count() != n {
			t.Errorf("%v: %d", x, r.Count())
		}
		places := []int{-1 << 63, most, most - 1}
		for i := -2; i < n+3; i++ {
			places = append(places, i)
		}
		for _, from := range places {
			for _, to := range places {
				if got, want := r.Cells(from, to), cells(x.widths, n, from, to); got != want {
					t.Errorf("%v: Cells(%d, %d) = %d, not %d", x, from, to, got, want)
				}
				if got, want := r.Shown(from, to), shown(x.widths, x.cs, n, from, to); got != want {
					t.Errorf("%v: Shown(%d, %d) = %d, not %d", x, from, to, got, want)
				}
			}
			want := from == n || 0 <= from && from < n && x.widths[from] != 0
			if got := r.Whole(from); got != want {
				t.Errorf("%v: Whole(%d) = %v", x, from, got)
			}
		}
	}
}

// W6
func TestArgumentsAreNotKept(t *testing.T) {
	widths, cs := []int{1, 2}, []linec.Class{AL, AL}
	r := measure.Of(widths, cs)
	widths[0], widths[1], cs[1] = 9, 0, SP
	if r.Cells(0, 2) != 3 || r.Shown(0, 2) != 3 || !r.Whole(1) {
		t.Error(r.Cells(0, 2), r.Shown(0, 2), r.Whole(1))
	}
}

// A Ruler that Of did not make is that of no scalars.
func TestEmptyRuler(t *testing.T) {
	var r measure.Ruler
	if r.Count() != 0 || r.Cells(0, 0) != 0 || r.Shown(0, 1) != 0 || !r.Whole(0) || r.Whole(1) {
		t.Error("an empty ruler measures something")
	}
}
