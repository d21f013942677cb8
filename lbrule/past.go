package lbrule

import (
	"boustrophedon/lbone"
)

// past is what the rules ask of the units before a boundary. It is kept from unit to unit: to look back at each boundary would take ever longer.
type past struct {
	last   Class // of the unit before the boundary
	before Class // of the one before that
	solid  Class // of the last one that is not SP; SP, if there is none
	joined bool  // the last unit is
	number bool  // the units end with an NU and any number of NU, SY and IS
	closed bool  // or with these, followed by a CL or CP
	oddRI  bool  // the number of RIs at the end is odd
}

// add takes a unit to the past.
func (p *past) add(u lbone.Unit) {
	c := u.Class
	p.before, p.last = p.last, c
	if c != SP {
		p.solid = c
	}
	p.joined = u.Joined
	p.closed = p.number && (c == CL || c == CP)
	p.number = c == NU || p.number && (c == SY || c == IS)
	p.oddRI = c == RI && !p.oddRI
}

// status is that of the boundary before a unit of class c, with the class of the unit behind it. The numbers are those of the document's rules.
func (p *past) status(c, next Class) Status {
	a := p.last
	switch {
	case a == CR && c == LF: // 1
		return Prohibited
	case ends(a): // 2
		return Mandatory
	case ends(c) || c == SP || c == ZW: // 3
		return Prohibited
	case p.solid == ZW: // 4
		return Allowed
	case p.joined || p.glued(c) || p.spaced(c): // 5 to 12
		return Prohibited
	case a == SP: // 13
		return Allowed
	case c == QU || a == QU: // 14
		return Prohibited
	case c == CB || a == CB: // 15
		return Allowed
	case p.counted(c) || p.kept(c, next): // 16 to 29
		return Prohibited
	}
	return Allowed // 30
}

// ends tells whether a line must end behind a class.
func ends(c Class) bool {
	return c == BK || c == CR || c == LF || c == NL
}

// glued is rules 6 and 7.
func (p *past) glued(c Class) bool {
	a := p.last
	if c == GL {
		return a != SP && a != BA && a != HY
	}
	return c == WJ || a == WJ || a == GL
}

// spaced is rules 8 to 12: those that spaces do not hinder.
func (p *past) spaced(c Class) bool {
	switch c {
	case CL, CP, EX, IS, SY: // 8
		return true
	}
	if p.solid == OP { // 9
		return true
	}
	switch c {
	case OP: // 10
		return p.solid == QU
	case NS: // 11
		return p.solid == CL || p.solid == CP
	case B2: // 12
		return p.solid == B2
	}
	return false
}

// counted is rules 23 and 28: those that look back further than two units.
func (p *past) counted(c Class) bool {
	switch c {
	case NU:
		return p.number
	case PR, PO:
		return p.number || p.closed
	case RI:
		return p.oddRI
	}
	return false
}

// kept is rules 16 to 22, 24 to 27 and 29, by the class before the boundary: their order does not matter, since all of them prohibit.
func (p *past) kept(c, next Class) bool {
	switch c {
	case BA, HY, NS, IN: // 16
		return true
	}
	switch p.last {
	case BB: // 16
		return true
	case HY:
		if c == NU { // 22
			return true
		}
		fallthrough
	case BA: // 17
		return p.before == HL
	case SY: // 17
		return c == HL
	case AL, HL:
		if c == NU || c == PR || c == PO || c == OP { // 18, 20, 27
			return true
		}
		fallthrough
	case IS: // 26
		return letter(c)
	case NU: // 18, 27
		return letter(c) || c == OP
	case CP: // 27
		return letter(c) || c == NU
	case PR:
		if ideograph(c) || syllable(c) { // 19, 25
			return true
		}
		fallthrough
	case PO: // 20, 21
		return letter(c) || c == NU || c == OP && next == NU
	case EB:
		if c == EM { // 29
			return true
		}
		fallthrough
	case ID, EM: // 19
		return c == PO
	}
	return built(p.last, c)
}

// built is rule 24, and the first half of 25: within a syllable, and before what comes after a number.
func built(a, c Class) bool {
	switch a {
	case JL:
		return c == JL || c == JV || c == H2 || c == H3 || c == PO
	case JV, H2:
		if c == JV {
			return true
		}
		fallthrough
	case JT, H3:
		return c == JT || c == PO
	}
	return false
}

func letter(c Class) bool { return c == AL || c == HL }

func ideograph(c Class) bool { return c == ID || c == EB || c == EM }

func syllable(c Class) bool { return c == JL || c == JV || c == JT || c == H2 || c == H3 }
