package fill_test

import (
	"errors"
	"slices"
	"testing"

	"boustrophedon/api"
	"boustrophedon/cellw"
	"boustrophedon/fill"
	"boustrophedon/lbrule"
	"boustrophedon/linebreak"
	"boustrophedon/linec"
	"boustrophedon/measure"
)

const (
	no   = lbrule.Prohibited
	may  = lbrule.Allowed
	must = lbrule.Mandatory
	AL   = linec.AL
	SP   = linec.SP
)

func ruler(s string) *measure.Ruler {
	rs := []rune(s)
	return measure.Of(cellw.Of(rs), linec.Of(rs))
}

// P23.2
func TestLines(t *testing.T) {
	for _, x := range []struct {
		text  string
		width int
		want  []fill.Line
	}{
		{"", 1, nil},
		{"ab cd", 2, []fill.Line{{0, 3, false, false}, {3, 5, true, false}}},
		{"ab cd", 5, []fill.Line{{0, 5, true, false}}},
		{"ab cd", 4, []fill.Line{{0, 3, false, false}, {3, 5, true, false}}},
		{"ab    cd", 2, []fill.Line{{0, 6, false, false}, {6, 8, true, false}}},
		{"abc", 2, []fill.Line{{0, 2, false, true}, {2, 3, true, false}}},
		{"\u4e00", 1, []fill.Line{{0, 1, true, false}}},
		{"\u4e00\u4e00", 1, []fill.Line{{0, 1, false, false}, {1, 2, true, false}}},
		{"\u4e00\u4e00\u4e00", 5, []fill.Line{{0, 2, false, false}, {2, 3, true, false}}},
		{"a\nb", 9, []fill.Line{{0, 2, true, false}, {2, 3, true, false}}},
		{"\n\n", 9, []fill.Line{{0, 1, true, false}, {1, 2, true, false}}},
		{"ab\u0301c", 2, []fill.Line{{0, 3, false, true}, {3, 4, true, false}}},
		{"a\u0301\u0301b", 1, []fill.Line{{0, 3, false, true}, {3, 4, true, false}}},
		{"\u4e00\u0301b", 1, []fill.Line{{0, 2, false, false}, {2, 3, true, false}}},
		{"(\u4e00\u4e00)", 1, []fill.Line{{0, 1, false, true}, {1, 2, false, false}, {2, 3, false, true}, {3, 4, true, false}}},
		{"a ", 1, []fill.Line{{0, 2, true, false}}},
		{"  a", 1, []fill.Line{{0, 2, false, false}, {2, 3, true, false}}},
	} {
		got, err := fill.Lines(ruler(x.text), linebreak.Of([]rune(x.text)), x.width)
		if err != nil || !slices.Equal(got, x.want) {
			t.Errorf("%q in %d: %v, %v", x.text, x.width, got, err)
		}
	}
}

// P23.2: statuses that no text has.
func TestLinesByStatuses(t *testing.T) {
	for _, x := range []struct {
		widths []int
		ss     []lbrule.Status
		width  int
		want   []fill.Line
	}{
		// the end is none: what fits and is whole, and it at last
		{[]int{1, 1, 1}, []lbrule.Status{no, no, no, no}, 2, []fill.Line{{0, 2, false, true}, {2, 3, false, true}}},
		{[]int{1, 1, 1}, []lbrule.Status{must, no, may, may}, 9, []fill.Line{{0, 3, false, false}}},
		// the first that must be, if it fits
		{[]int{1, 1, 1}, []lbrule.Status{no, must, must, no}, 9, []fill.Line{{0, 1, true, false}, {1, 2, true, false}, {2, 3, false, true}}},
		{[]int{2, 2, 2}, []lbrule.Status{no, may, must, no}, 3, []fill.Line{{0, 1, false, false}, {1, 2, true, false}, {2, 3, false, true}}},
		// nothing fits: the first that is whole, or must be
		{[]int{2, 0, 0, 2}, []lbrule.Status{no, may, no, no, no}, 1, []fill.Line{{0, 3, false, true}, {3, 4, false, true}}},
		{[]int{2, 0, 0, 2}, []lbrule.Status{no, no, must, no, no}, 1, []fill.Line{{0, 2, true, false}, {2, 3, false, true}, {3, 4, false, true}}},
		// it fits, but no boundary that fits is whole
		{[]int{0, 3}, []lbrule.Status{no, no, no}, 2, []fill.Line{{0, 1, false, true}, {1, 2, false, true}}},
		{[]int{1, 0, 0, 0}, []lbrule.Status{no, no, no, no, no}, 1, []fill.Line{{0, 4, false, true}}},
		// a status of no kind
		{[]int{1, 1}, []lbrule.Status{no, 9, -1}, 1, []fill.Line{{0, 1, false, false}, {1, 2, false, false}}},
	} {
		cs := slices.Repeat([]linec.Class{AL}, len(x.widths))
		got, err := fill.Lines(measure.Of(x.widths, cs), x.ss, x.width)
		if err != nil || !slices.Equal(got, x.want) {
			t.Errorf("%v: %v, %v", x, got, err)
		}
	}
}

// P23.1
func TestErrors(t *testing.T) {
	for _, x := range []struct {
		statuses, width int
		n               api.Errno
		where           string
		at              int
	}{
		{4, 0, api.ErrWidth, "width", 0},
		{4, -5, api.ErrWidth, "width", -5},
		{4, -1 << 63, api.ErrWidth, "width", -1 << 63},
		{0, 0, api.ErrWidth, "width", 0},
		{3, 1, api.ErrIndex, "status", 3},
		{5, 1, api.ErrIndex, "status", 5},
		{0, 1, api.ErrIndex, "status", 0},
	} {
		got, err := fill.Lines(ruler("abc"), make([]lbrule.Status, x.statuses), x.width)
		var f *api.Fault
		if len(got) != 0 || !errors.Is(err, x.n) || !errors.As(err, &f) || f.Where != x.where || f.At != x.at {
			t.Errorf("%v: %v, %v", x, got, err)
		}
	}
	if got, err := fill.Lines(ruler(""), nil, 1); len(got) != 0 || !errors.Is(err, api.ErrIndex) {
		t.Error(got, err)
	}
}

// end is the end of a line as the promise says it.
func end(r *measure.Ruler, ss []lbrule.Status, from, width int) int {
	var fits, all []int
	for at := from + 1; at <= r.Count(); at++ {
		all = append(all, at)
		if r.Shown(from, at) <= width {
			fits = append(fits, at)
		}
	}
	for _, at := range fits {
		if ss[at] == must {
			return at
		}
	}
	back := slices.Clone(fits)
	slices.Reverse(back)
	for _, at := range back {
		if ss[at] == may {
			return at
		}
	}
	for _, at := range back {
		if r.Whole(at) {
			return at
		}
	}
	for _, at := range all {
		if r.Whole(at) || ss[at] == must {
			return at
		}
	}
	return -1
}

// P23.1, P23.2: many texts.
func TestMany(t *testing.T) {
	seed := uint32(9)
	next := func(n int) int {
		seed = seed*1664525 + 1013904223
		return int(seed>>8) % n
	}
	for range 200000 {
		n := next(12)
		widths, cs, ss := make([]int, n), make([]linec.Class, n), make([]lbrule.Status, n+1)
		for i := range n {
			widths[i] = next(3)
			cs[i] = []linec.Class{AL, SP}[next(2)]
		}
		for i := range ss {
			ss[i] = []lbrule.Status{no, no, no, may, must}[next(5)]
		}
		r, width := measure.Of(widths, cs), 1+next(6)
		got, err := fill.Lines(r, ss, width)
		from := 0
		for _, line := range got {
			to := end(r, ss, from, width)
			if line != (fill.Line{From: from, To: to, Must: ss[to] == must, Torn: ss[to] == no}) {
				t.Fatalf("%v, %v, %v, %d: %v", widths, cs, ss, width, got)
			}
			from = to
		}
		if err != nil || from != n {
			t.Fatalf("%v, %v, %v, %d: %v, %v", widths, cs, ss, width, got, err)
		}
	}
}

// W1: a long text, in short lines and in one.
func TestLong(t *testing.T) {
	const n = 1 << 19
	for _, width := range []int{1, 7, 1<<63 - 1} {
		for _, w := range []int{0, 1} {
			r := measure.Of(slices.Repeat([]int{w}, n), slices.Repeat([]linec.Class{AL}, n))
			got, err := fill.Lines(r, make([]lbrule.Status, n+1), width)
			if err != nil || got[len(got)-1].To != n {
				t.Error(err, len(got))
			}
		}
	}
}
