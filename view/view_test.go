package view_test

import (
	"errors"
	"slices"
	"testing"

	"boustrophedon/api"
	"boustrophedon/view"
)

const (
	least = -1 << 63
	most  = 1<<63 - 1
)

func same(a, b view.Cell) bool {
	return slices.Equal(a.Text, b.Text) && a.Item == b.Item && a.Part == b.Part
}

// cell is one with a text.
func cell(text string, item, part int) view.Cell {
	return view.Cell{Text: []rune(text), Item: item, Part: part}
}

var blank = cell(" ", view.None, 0)

// P36.1, P36.2
func TestRow(t *testing.T) {
	for _, x := range []struct {
		glyphs      string
		widths      []int
		from, count int
		want        []view.Cell
	}{
		{"", nil, 0, 0, nil},
		{"", nil, 0, 2, []view.Cell{blank, blank}},
		{"a\u4e00b", []int{1, 2, 1}, 0, 4, []view.Cell{cell("a", 0, 0), cell("\u4e00", 1, 0), cell("", 1, 1), cell("b", 2, 0)}},
		{"a\u4e00b", []int{1, 2, 1}, 2, 3, []view.Cell{blank, cell("b", 2, 0), blank}},
		{"a\u4e00b", []int{1, 2, 1}, -1, 2, []view.Cell{blank, cell("a", 0, 0)}},
		{"a\u4e00b", []int{1, 2, 1}, 0, 2, []view.Cell{cell("a", 0, 0), blank}},
		{"a\u4e00b", []int{1, 2, 1}, 2, 1, []view.Cell{blank}},
		{"a\u4e00b", []int{1, 2, 1}, 1, 1, []view.Cell{blank}},
		{"a\u4e00b", []int{1, 2, 1}, 1, 2, []view.Cell{cell("\u4e00", 1, 0), cell("", 1, 1)}},
		{"a\u4e00b", []int{1, 2, 1}, 9, 1, []view.Cell{blank}},
		{"a\u4e00b", []int{1, 2, 1}, -9, 2, []view.Cell{blank, blank}},
		{"a\u4e00b", []int{1, 2, 1}, 0, 0, nil},
		// a greater width counts as 2
		{"ab", []int{7, 1}, 0, 3, []view.Cell{cell("a", 0, 0), cell("", 0, 1), cell("b", 1, 0)}},
		{"ab", []int{most, most}, 2, 2, []view.Cell{cell("b", 1, 0), cell("", 1, 1)}},
		// glyphs without cells
		{"123a45\u4e006b7", []int{0, 0, 0, 1, 0, 0, 2, 0, 1, 0}, 0, 5, []view.Cell{cell("a45", 3, 0), cell("\u4e006", 6, 0), cell("", 6, 1), cell("b7", 8, 0), blank}},
		{"123a45\u4e006b7", []int{0, 0, 0, 1, 0, 0, 2, 0, 1, 0}, 2, 2, []view.Cell{blank, cell("b7", 8, 0)}},
		{"12", []int{0, 0}, 0, 1, []view.Cell{blank}},
		{"a1", []int{1, -5}, 0, 1, []view.Cell{cell("a1", 0, 0)}},
		// the ends of all numbers
		{"ab", []int{1, 1}, least, 2, []view.Cell{blank, blank}},
		{"ab", []int{1, 1}, least + 1, 2, []view.Cell{blank, blank}},
		{"ab", []int{1, 2}, -most, 2, []view.Cell{blank, blank}},
		{"ab", []int{1, 1}, most - 2, 2, []view.Cell{blank, blank}},
		{"ab", []int{1, 1}, most, 0, nil},
	} {
		widths := slices.Clone(x.widths)
		got, err := view.Row([]rune(x.glyphs), x.widths, x.from, x.count)
		if err != nil || !slices.EqualFunc(got, x.want, same) {
			t.Errorf("%q, %v, %d, %d: %v, %v", x.glyphs, x.widths, x.from, x.count, got, err)
		}
		var text []rune
		for _, c := range x.want {
			text = append(text, c.Text...)
		}
		if !slices.Equal(view.Text(got), text) {
			t.Errorf("%q: %q", x.glyphs, string(view.Text(got)))
		}
		if !slices.Equal(widths, x.widths) {
			t.Errorf("%v were changed", widths)
		}
	}
	if view.None != -1 {
		t.Error(view.None)
	}
}

// P36.1
func TestErrors(t *testing.T) {
	for _, x := range []struct {
		glyphs string
		widths int
		count  int
		n      api.Errno
		where  string
		at     int
	}{
		{"a", 1, -1, api.ErrWidth, "count", -1},
		{"a", 1, 65537, api.ErrWidth, "count", 65537},
		{"a", 2, least, api.ErrWidth, "count", least},
		{"a", 2, most, api.ErrWidth, "count", most},
		{"ab", 1, 65536, api.ErrIndex, "glyph", 2},
		{"", 1, 0, api.ErrIndex, "glyph", 0},
	} {
		got, err := view.Row([]rune(x.glyphs), make([]int, x.widths), 0, x.count)
		var f *api.Fault
		if len(got) != 0 || !errors.Is(err, x.n) || !errors.As(err, &f) || f.Where != x.where || f.At != x.at {
			t.Errorf("%v: %v, %v", x, got, err)
		}
	}
	if got, err := view.Row(nil, nil, 0, 65536); len(got) != 65536 || err != nil {
		t.Error(len(got), err)
	}
}

// P36.1: every window onto some lines.
func TestAll(t *testing.T) {
	glyphs := []rune("abcde")
	for code := range 1 << 10 {
		widths := make([]int, 5)
		for i := range widths {
			widths[i] = code >> (2 * i) & 3
		}
		line := whole(glyphs, widths)
		for from := -2; from < 12; from++ {
			for count := range 6 {
				want := slices.Repeat([]view.Cell{blank}, count)
				for k := range want {
					at := from + k
					if at < 0 || at >= len(line) {
						continue
					}
					first := at - line[at].Part
					last := first
					for last+1 < len(line) && line[last+1].Item == line[at].Item {
						last++
					}
					if first >= from && last < from+count {
						want[k] = line[at]
					}
				}
				if got, err := view.Row(glyphs, widths, from, count); err != nil || !slices.EqualFunc(got, want, same) {
					t.Fatalf("%v, %d, %d: %v, not %v", widths, from, count, got, want)
				}
			}
		}
	}
}

// whole is all cells of a line.
func whole(glyphs []rune, widths []int) []view.Cell {
	var line []view.Cell
	base := -1
	for i, g := range glyphs {
		if widths[i] == 0 {
			if base >= 0 {
				line[base].Text = append(line[base].Text, g)
			}
			continue
		}
		base = len(line)
		line = append(line, cell(string(g), i, 0))
		if widths[i] > 1 {
			line = append(line, cell("", i, 1))
		}
	}
	return line
}

// W6: cells share nothing.
func TestCellsShareNothing(t *testing.T) {
	row, err := view.Row([]rune("ab"), []int{1, 1}, 0, 4)
	if err != nil {
		t.Fatal(err)
	}
	for i := range row {
		for k := range row {
			if i != k && len(row[i].Text) > 0 && len(row[k].Text) > 0 && &row[i].Text[0] == &row[k].Text[0] {
				t.Error(i, k)
			}
		}
	}
	text := view.Text(row)
	text[0] = 'x'
	if row[0].Text[0] != 'a' {
		t.Error(row[0])
	}
}

// P36.2
func TestText(t *testing.T) {
	if got := view.Text([]view.Cell{cell("a1", 0, 0), cell("", 0, 1), {}, blank, cell("b", 7, 9)}); string(got) != "a1 b" {
		t.Errorf("%q", string(got))
	}
	if got := view.Text(nil); len(got) != 0 {
		t.Error(got)
	}
}
