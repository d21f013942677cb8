package cluster

import (
	"boustrophedon/linec"
)

// past is what the rules ask of the scalars before a boundary.
type past struct {
	last    linec.Class
	picture bool // a pictograph stands there, and nothing but marks behind it
	flags   int  // RIs since the last break
}

// add takes a scalar to the past.
func (p *past) add(c linec.Class, mark, broken bool) {
	if broken {
		p.flags = 0
	}
	if c == linec.RI {
		p.flags++
	}
	p.last = c
	p.picture = pictograph(c) || p.picture && mark && !broken
}

// parts tells whether a cluster ends before a scalar. The numbers are those of the document's rules.
func (p *past) parts(c linec.Class, mark bool) bool {
	switch {
	case p.last == linec.CR && c == linec.LF: // 1
		return false
	case control(p.last) || control(c): // 2
		return true
	case mark: // 3
		return false
	case pictograph(c) && p.last == linec.ZWJ && p.picture: // 4
		return false
	case c == linec.RI && p.flags == 1: // 5
		return false
	}
	return !builds(p.last, c) // 6, 7
}

// builds tells whether two classes are parts of one syllable of Hangul.
func builds(a, c linec.Class) bool {
	switch a {
	case linec.JL:
		return c == linec.JL || c == linec.JV || c == linec.H2 || c == linec.H3
	case linec.JV, linec.H2:
		if c == linec.JV {
			return true
		}
		fallthrough
	case linec.JT, linec.H3:
		return c == linec.JT
	}
	return false
}

// isMark tells whether a scalar stands on what is before it.
func isMark(c linec.Class, width int) bool {
	return c == linec.CM || c == linec.ZWJ || c == linec.SA && width == 0
}

func control(c linec.Class) bool {
	switch c {
	case linec.CR, linec.LF, linec.BK, linec.NL, linec.ZW:
		return true
	}
	return false
}

func pictograph(c linec.Class) bool {
	return c == linec.ID || c == linec.EB || c == linec.EM
}
