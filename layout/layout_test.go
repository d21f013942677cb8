package layout_test

import (
	"errors"
	"fmt"
	"reflect"
	"slices"
	"testing"

	"boustrophedon/api"
	"boustrophedon/bidic"
	"boustrophedon/caret"
	"boustrophedon/cells"
	"boustrophedon/cellw"
	"boustrophedon/fill"
	"boustrophedon/glyphs"
	"boustrophedon/layout"
	"boustrophedon/levels"
	"boustrophedon/linebreak"
	"boustrophedon/linec"
	"boustrophedon/marks"
	"boustrophedon/measure"
	"boustrophedon/order"
	"boustrophedon/relevel"
	"boustrophedon/utf"
)

func fails(err error, n api.Errno, where string, at int) bool {
	var f *api.Fault
	return errors.Is(err, n) && errors.As(err, &f) && f.Where == where && f.At == at
}

// P30.1
func TestCheck(t *testing.T) {
	for _, x := range []struct {
		bytes, width int
		n            api.Errno
		where        string
		at           int
	}{
		{0, 1, 0, "", 0},
		{1 << 30, 1<<63 - 1, 0, "", 0},
		{-1, 1, 0, "", 0},
		{1<<30 + 1, 1, api.ErrTooLong, "bytes", 1<<30 + 1},
		{1<<30 + 1, 0, api.ErrTooLong, "bytes", 1<<30 + 1},
		{1<<63 - 1, 1, api.ErrTooLong, "bytes", 1<<63 - 1},
		{1 << 30, 0, api.ErrWidth, "width", 0},
		{0, -7, api.ErrWidth, "width", -7},
		{0, -1 << 63, api.ErrWidth, "width", -1 << 63},
	} {
		err := layout.Check(x.bytes, x.width)
		if x.n == 0 && err != nil || x.n != 0 && !fails(err, x.n, x.where, x.at) {
			t.Errorf("Check(%d, %d): %v", x.bytes, x.width, err)
		}
	}
}

// odd is an error that panics when it is asked.
type odd struct{}

func (odd) Error() string   { return "odd" }
func (odd) Is(e error) bool { panic("asked") }

// P30.1
func TestRefused(t *testing.T) {
	tooLong, width := layout.Check(1<<30+1, 1), layout.Check(0, -2)
	inner := api.Wrap(api.ErrIndex, "cell", 4)
	var none *api.Fault
	for _, x := range []struct {
		name  string
		e     error
		where string
		at    int
		ok    bool
	}{
		{"nil", nil, "", 0, false},
		{"too long", tooLong, "bytes", 1<<30 + 1, true},
		{"width", width, "width", -2, true},
		{"wrapped", fmt.Errorf("laid out: %w", width), "width", -2, true},
		{"wrapped twice", fmt.Errorf("a: %w", fmt.Errorf("b: %w", tooLong)), "bytes", 1<<30 + 1, true},
		{"a Fault in a Fault", api.Wrap(width, "line", 9), "line", 9, true},
		{"something between", api.Wrap(fmt.Errorf("a: %w", width), "line", 9), "line", 9, true},
		{"another layer's width", api.Wrap(api.ErrWidth, "stop", 0), "stop", 0, true},
		{"another error", inner, "", 0, false},
		{"all others", errors.Join(api.Wrap(api.ErrDirection, "d", 1), api.Wrap(api.ErrRange, "r", 1), api.Wrap(api.ErrOrder, "o", 1)), "", 0, false},
		{"an Errno without a Fault", api.ErrWidth, "", 0, false},
		{"an Errno without a Fault, wrapped", fmt.Errorf("a: %w", api.ErrTooLong), "", 0, false},
		{"a Fault without an Errno", &api.Fault{Where: "width", At: 3}, "", 0, false},
		{"errors side by side", errors.Join(inner, width), "cell", 4, true},
		{"a plain error", errors.New("no line is so wide"), "", 0, false},
		{"a nil Fault", none, "", 0, false},
		{"a nil Fault within", fmt.Errorf("a: %w", error(none)), "", 0, false},
		{"a nil Fault side by side", errors.Join(none, width), "", 0, false},
		{"an error that panics", odd{}, "", 0, false},
	} {
		if where, at, ok := layout.Refused(x.e); where != x.where || at != x.at || ok != x.ok {
			t.Errorf("%s: %q, %d, %v", x.name, where, at, ok)
		}
	}
}

// P30.2
func TestErrors(t *testing.T) {
	for _, x := range []struct {
		b     []byte
		d     api.Direction
		width int
		n     api.Errno
		where string
		at    int
	}{
		{nil, api.Auto, 0, api.ErrWidth, "width", 0},
		{[]byte("a"), 9, -1, api.ErrWidth, "width", -1},
		{[]byte("a"), 9, 1, api.ErrDirection, "direction", 9},
		{nil, -1, 1, api.ErrDirection, "direction", -1},
		{make([]byte, 1<<30+1), 9, 0, api.ErrTooLong, "bytes", 1<<30 + 1},
	} {
		got, err := layout.Of(x.b, x.d, x.width)
		if !reflect.DeepEqual(got, layout.Layout{}) || !fails(err, x.n, x.where, x.at) {
			t.Errorf("%d bytes, %d, %d: %v", len(x.b), x.d, x.width, err)
		}
	}
}

// texts are the glyphs of all lines.
func texts(l layout.Layout) []string {
	var all []string
	for i := range l.Lines {
		all = append(all, string(l.Lines[i].Text()))
	}
	return all
}

// P30.2, P30.3, P30.4: the document's examples.
func TestExamples(t *testing.T) {
	const example = "see (\u05e9\u05dc\u05d5\u05dd) 12"
	for _, x := range []struct {
		text  string
		d     api.Direction
		width int
		want  []string
	}{
		{"", api.Auto, 1, nil},
		{"abc", api.Auto, 2, []string{"ab", "c"}},
		{"\u05d0(\u05d1", api.Auto, 9, []string{"\u05d1)\u05d0"}},
		{example, api.Auto, 20, []string{"see (\u05dd\u05d5\u05dc\u05e9) 12"}},
		{example, api.Auto, 6, []string{"see ", "(\u05dd\u05d5\u05dc\u05e9) ", "12"}},
		{"\u05d0\u05b8\u05d1", api.Auto, 9, []string{"\u05d1\u05d0\u05b8"}},
		{"a\u202eb(\u202c", api.Auto, 9, []string{"a)b"}},
		{"\xff\u00e9", api.Auto, 1, []string{"\ufffd", "\u00e9"}},
	} {
		got, err := layout.Of([]byte(x.text), x.d, x.width)
		if err != nil || !slices.Equal(texts(got), x.want) {
			t.Errorf("%q: %q, %v", x.text, texts(got), err)
		}
	}
	l, _ := layout.Of([]byte(example), api.Auto, 20)
	if !slices.Equal(l.Levels, []int{0, 0, 0, 0, 0, 1, 1, 1, 1, 0, 0, 2, 2}) {
		t.Error(l.Levels)
	}
}

// P30.3: lines, told in full. One begins within a word, is torn, has a mark, and a scalar that is taken out.
func TestLine(t *testing.T) {
	l, err := layout.Of([]byte("x \u05d0\u05b8\u202a(\u4e00) "), api.RightToLeft, 2)
	if err != nil || len(l.Lines) != 4 {
		t.Fatal(l, err)
	}
	if want := []int{2, 1, 1, 1, -1, 2, 2, 2, 2}; !slices.Equal(l.Levels, want) {
		t.Error(l.Levels)
	}
	if want := []int{0, 1, 2, 4, 6, 9, 10, 13, 14}; !slices.Equal(l.Offsets, want) {
		t.Error(l.Offsets)
	}
	for k, want := range map[int]layout.Line{
		1: {
			Line:    fill.Line{From: 2, To: 6, Torn: true},
			Levels:  []int{1, 1, -1, 2},
			Visual:  []int{3, 0, 1},
			Logical: []int{1, 2, -1, 0},
			Glyphs:  []rune{'(', 0x5d0, 0x5b8},
			Widths:  []int{1, 1, 0},
			Starts:  []int{0, 1, 2},
			Cells:   2,
			Stops:   []int{0, 1, 3},
		},
		3: {
			Line:    fill.Line{From: 7, To: 9, Must: true},
			Levels:  []int{2, 1},
			Visual:  []int{1, 0},
			Logical: []int{1, 0},
			Glyphs:  []rune{' ', ')'},
			Widths:  []int{1, 1},
			Starts:  []int{0, 1},
			Cells:   2,
			Stops:   []int{0, 1, 2},
		},
	} {
		if !reflect.DeepEqual(l.Lines[k], want) {
			t.Errorf("line %d: %+v", k, l.Lines[k])
		}
	}
}

// P30.2, P30.3, P30.4: many texts, against what the promises say of them.
func TestMany(t *testing.T) {
	runes := []rune{'a', 'b', '1', ' ', ' ', '-', '(', ')', '<', '\n', '\r', '\t', 0x5d0, 0x5d1, 0x5b8, 0x627, 0x64b, 0x661, 0x301, 0x200d, 0x4e00, 0x4e01, 0x202b, 0x202e, 0x202c, 0x2067, 0x2069, 0xd800}
	seed := uint32(13)
	next := func(n int) int {
		seed = seed*1664525 + 1013904223
		return int(seed>>8) % n
	}
	for range 6000 {
		rs := make([]rune, next(24))
		for i := range rs {
			rs[i] = runes[next(len(runes))]
		}
		b := utf.Encode(rs)
		if next(4) == 0 && len(b) > 0 {
			b[next(len(b))] ^= byte(1 << next(8))
		}
		compare(t, b, api.Direction(next(3)), 1+next(12))
	}
}

// compare holds a layout against the layers below it.
func compare(t *testing.T, b []byte, d api.Direction, width int) {
	t.Helper()
	given := slices.Clone(b)
	got, err := layout.Of(b, d, width)
	if err != nil || !slices.Equal(given, b) {
		t.Fatal(err)
	}
	rs, offsets := utf.Decode(b)
	resolved, _ := levels.Of(rs, d)
	statuses := linebreak.Of(rs)
	if !slices.Equal(got.Scalars, rs) || !slices.Equal(got.Offsets, offsets) || !slices.Equal(got.Levels, resolved.Levels) || !slices.Equal(got.Statuses, statuses) {
		t.Fatalf("%q: %v", b, got)
	}
	lines, _ := fill.Lines(measure.Of(cellw.Of(rs), linec.Of(rs)), statuses, width)
	if len(lines) != len(got.Lines) {
		t.Fatalf("%q: %v", b, got)
	}
	for k, line := range lines {
		compareLine(t, got.Lines[k], line, rs[line.From:line.To], resolved)
	}
}

func compareLine(t *testing.T, got layout.Line, f fill.Line, rs []rune, resolved levels.Text) {
	t.Helper()
	var bases []int
	for i := f.From; i < f.To; i++ {
		for k, p := range resolved.Paras {
			if p.From <= i && i < p.To {
				bases = append(bases, resolved.Bases[k])
			}
		}
	}
	cs, ws := bidic.Of(rs), cellw.Of(rs)
	lv := relevel.Of(resolved.Levels[f.From:f.To], cs, bases)
	visual := marks.Fix(order.Visual(lv), lv, cs, ws)
	logical, _ := order.Back(visual, lv)
	var gs []rune
	var widths []int
	for _, i := range visual {
		gs, widths = append(gs, glyphs.Of(rs, lv)[i]), append(widths, ws[i])
	}
	starts, sum := cells.Starts(widths)
	if got.Line != f || !slices.Equal(got.Levels, lv) || !slices.Equal(got.Visual, visual) || !slices.Equal(got.Logical, logical) || !slices.Equal(got.Glyphs, gs) || !slices.Equal(got.Widths, widths) || !slices.Equal(got.Starts, starts) || got.Cells != sum || !slices.Equal(got.Stops, caret.Stops(widths)) {
		t.Fatalf("%q: %+v", string(rs), got)
	}
	if !slices.Equal(got.Text(), utf.Encode(gs)) {
		t.Fatalf("%q: %q", string(rs), got.Text())
	}
	for cell := -2; cell < sum+3; cell++ {
		item, ok := cells.Hit(widths, cell)
		at, err := got.Hit(cell)
		if ok && (err != nil || at != visual[item]) || !ok && (at != 0 || !fails(err, api.ErrIndex, "cell", cell)) {
			t.Fatalf("%q: Hit(%d) = %d, %v", string(rs), cell, at, err)
		}
	}
}

// P30.4
func TestHitOfNoCells(t *testing.T) {
	l, err := layout.Of([]byte("\n\u05d0a"), api.RightToLeft, 9)
	if err != nil || len(l.Lines) != 2 {
		t.Fatal(l, err)
	}
	for _, cell := range []int{0, -1, 5, -1 << 63, 1<<63 - 1} {
		if at, err := l.Lines[0].Hit(cell); at != 0 || !fails(err, api.ErrIndex, "cell", cell) {
			t.Error(cell, at, err)
		}
	}
	for cell, want := range map[int]int{-1: 1, 0: 1, 1: 0, 2: 0, 1<<63 - 1: 0} {
		if at, err := l.Lines[1].Hit(cell); at != want || err != nil {
			t.Error(cell, at, err)
		}
	}
}

// T3, T4, T5, T6: lines cover the text, each scalar stands once, cells lead back, a caret visits every stop.
func TestTheorems(t *testing.T) {
	text := "The \u05d0\u05d1\u05d2 (\u05d3) 12,5 \u4e00\u4e8c\u4e09 \u0627\u064b\u0628 x\u0301.\r\n\u2067ab\u2069 \u202ecd\u202c end"
	for width := 1; width < 40; width++ {
		for d := range api.Direction(3) {
			l, err := layout.Of([]byte(text), d, width)
			if err != nil {
				t.Fatal(err)
			}
			from := 0
			for k := range l.Lines {
				line := &l.Lines[k]
				if line.From != from {
					t.Errorf("%d: a line begins at %d", width, line.From)
				}
				from = line.To
				theorems(t, line)
			}
			if from != len(l.Scalars) {
				t.Errorf("%d: the lines end at %d", width, from)
			}
		}
	}
}

func theorems(t *testing.T, line *layout.Line) {
	t.Helper()
	for i, level := range line.Levels {
		at := line.Logical[i]
		if (level == api.Removed) != (at == api.Removed) || at != api.Removed && line.Visual[at] != i {
			t.Errorf("scalar %d stands at %d", i, at)
		}
	}
	for at, start := range line.Starts {
		for cell := start; cell < start+line.Widths[at]; cell++ {
			if i, err := line.Hit(cell); err != nil || i != line.Visual[at] {
				t.Errorf("cell %d is of %d, %v", cell, i, err)
			}
		}
	}
	at := line.Stops[0]
	for _, want := range line.Stops[1:] {
		next, err := caret.Right(line.Stops, at)
		back, _ := caret.Left(line.Stops, next)
		if err != nil || next != want || back != at {
			t.Errorf("from %d to %d and back to %d", at, next, back)
		}
		at = next
	}
}
