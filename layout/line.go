package layout

import (
	"boustrophedon/bidic"
	"boustrophedon/caret"
	"boustrophedon/cells"
	"boustrophedon/fill"
	"boustrophedon/glyphs"
	"boustrophedon/levels"
	"boustrophedon/marks"
	"boustrophedon/order"
	"boustrophedon/relevel"
)

// text is what lines are made of: of each scalar its width, class, level, and the level of its paragraph.
type text struct {
	scalars []rune
	widths  []int
	classes []bidic.Class
	levels  []int
	bases   []int
}

// bases is, of each scalar, the level of its paragraph.
func bases(t levels.Text) []int {
	all := make([]int, len(t.Levels))
	for k, p := range t.Paras {
		for i := p.From; i < p.To; i++ {
			all[i] = t.Bases[k]
		}
	}
	return all
}

// line is a line with all that is told of it.
func (t *text) line(f fill.Line) Line {
	widths, classes := t.widths[f.From:f.To], t.classes[f.From:f.To]
	l := Line{Line: f, Levels: relevel.Of(t.levels[f.From:f.To], classes, t.bases[f.From:f.To])}
	l.Visual = marks.Fix(order.Visual(l.Levels), l.Levels, classes, widths)
	l.Logical, _ = order.Back(l.Visual, l.Levels)
	mirrored := glyphs.Of(t.scalars[f.From:f.To], l.Levels)
	for _, i := range l.Visual {
		l.Glyphs = append(l.Glyphs, mirrored[i])
		l.Widths = append(l.Widths, widths[i])
	}
	l.Starts, l.Cells = cells.Starts(l.Widths)
	l.Stops = caret.Stops(l.Widths)
	return l
}
