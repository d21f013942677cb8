package lbrule_test

import (
	"slices"
	"testing"

	"boustrophedon/lbone"
	. "boustrophedon/lbrule"
	"boustrophedon/linec"
)

// units are some of those classes, one scalar each.
func units(cs ...Class) []lbone.Unit {
	var us []lbone.Unit
	for i, c := range cs {
		us = append(us, lbone.Unit{From: i, To: i + 1, Class: c})
	}
	return us
}

const (
	no   = Prohibited
	may  = Allowed
	must = Mandatory
)

// P20.1: each rule, and what it yields to.
func TestBetween(t *testing.T) {
	for _, x := range []struct {
		cs   []Class
		want []Status
	}{
		{nil, nil},
		{[]Class{AL}, []Status{no}},
		{[]Class{CR, LF, AL}, []Status{no, no, must}},
		{[]Class{CR, CR, LF, LF, BK, NL, SP}, []Status{no, must, no, must, must, must, must}},
		{[]Class{AL, BK}, []Status{no, no}},
		{[]Class{AL, NL}, []Status{no, no}},
		{[]Class{AL, SP, AL}, []Status{no, no, may}},
		{[]Class{ZW, AL}, []Status{no, may}},
		{[]Class{ZW, SP, SP, CL}, []Status{no, no, no, may}},
		{[]Class{ZW, ZW}, []Status{no, no}},
		{[]Class{ID, WJ, ID}, []Status{no, no, no}},
		{[]Class{SP, WJ, SP, ID}, []Status{no, no, no, may}},
		{[]Class{ID, GL, ID}, []Status{no, no, no}},
		{[]Class{SP, GL, BA, GL, HY, GL}, []Status{no, may, no, may, no, may}},
		{[]Class{SP, CL, CP, EX, IS, SY}, []Status{no, no, no, no, no, no}},
		{[]Class{OP, SP, SP, ID}, []Status{no, no, no, no}},
		{[]Class{OP, ID}, []Status{no, no}},
		{[]Class{QU, SP, OP}, []Status{no, no, no}},
		{[]Class{QU, SP, ID}, []Status{no, no, may}},
		{[]Class{CL, SP, NS, CP, SP, SP, NS}, []Status{no, no, no, no, no, no, no}},
		{[]Class{EX, SP, NS}, []Status{no, no, may}},
		{[]Class{B2, SP, B2, B2, ID, B2}, []Status{no, no, no, no, may, may}},
		{[]Class{ID, QU, ID}, []Status{no, no, no}},
		{[]Class{SP, QU, CB, QU}, []Status{no, may, no, no}},
		{[]Class{AL, CB, AL, CB, BA}, []Status{no, may, may, may, may}},
		{[]Class{CB, CL}, []Status{no, no}},
		{[]Class{ID, BA, ID, HY, ID, NS, ID, IN, ID}, []Status{no, no, may, no, may, no, may, no, may}},
		{[]Class{BB, ID, BB}, []Status{no, no, may}},
		{[]Class{HL, HY, ID, HL, BA, ID}, []Status{no, no, no, may, no, no}},
		{[]Class{AL, HY, ID, AL, BA, ID}, []Status{no, no, may, may, no, may}},
		{[]Class{SY, HL, SY, AL}, []Status{no, no, no, may}},
		{[]Class{AL, NU, HL, NU, AL}, []Status{no, no, no, no, no}},
		{[]Class{PR, ID, PR, EB, PR, EM, PO}, []Status{no, no, may, no, may, no, no}},
		{[]Class{PO, ID, PO, EB, PO}, []Status{no, may, no, may, no}},
		{[]Class{PR, AL, PO, HL, PR}, []Status{no, no, no, no, no}},
		{[]Class{PR, OP, NU}, []Status{no, no, no}},
		{[]Class{PO, OP, NU}, []Status{no, no, no}},
		{[]Class{PR, OP, AL}, []Status{no, may, no}},
		{[]Class{PR, OP}, []Status{no, may}},
		{[]Class{PO, NU, PO, HY, NU}, []Status{no, no, no, no, no}},
		{[]Class{HY, NU, OP, NU}, []Status{no, no, no, no}},
		{[]Class{NU, IS, SY, NU, NU, CL, PO}, []Status{no, no, no, no, no, no, no}},
		{[]Class{NU, SY, CP, PR}, []Status{no, no, no, no}},
		{[]Class{NU, IS, PR}, []Status{no, no, no}},
		{[]Class{NU, CL, CL, PR}, []Status{no, no, no, may}},
		{[]Class{NU, CL, NU}, []Status{no, no, may}},
		{[]Class{NU, CP, NU}, []Status{no, no, no}},
		{[]Class{ID, IS, NU}, []Status{no, no, may}},
		{[]Class{ID, IS, PR, ID, CL, PO}, []Status{no, no, may, no, no, may}},
		{[]Class{NU, SP, PO}, []Status{no, no, may}},
		{[]Class{JL, JL, JV, JV, JT, JT, JL}, []Status{no, no, no, no, no, no, may}},
		{[]Class{JL, H2, JV, H2, JT, H3, JT, H2}, []Status{no, no, no, may, no, may, no, may}},
		{[]Class{JL, H3, JV, JL, JT}, []Status{no, no, may, may, may}},
		{[]Class{JL, PO, JL, PR, JL}, []Status{no, no, may, may, no}},
		{[]Class{JV, PO, PR, JV, PO, PR, JT, PO, PR, H2, PO, PR, H3, PO}, []Status{no, no, may, no, no, may, no, no, may, no, no, may, no, no}},
		{[]Class{AL, AL, HL, IS, AL}, []Status{no, no, no, no, no}},
		{[]Class{AL, OP, HL, OP, NU, OP, CP, AL, CP, HL}, []Status{no, no, no, no, no, no, no, no, no, no}},
		{[]Class{CL, AL}, []Status{no, may}},
		{[]Class{ID, OP}, []Status{no, may}},
		{[]Class{RI, RI, RI, RI, RI}, []Status{no, no, may, no, may}},
		{[]Class{AL, RI, RI, ID, RI, RI, RI}, []Status{no, may, no, may, may, no, may}},
		{[]Class{EB, EM, EM}, []Status{no, no, may}},
		{[]Class{ID, ID, EB, ID, EM}, []Status{no, may, may, may, may}},
	} {
		us := units(x.cs...)
		given := slices.Clone(us)
		if got := Between(us); !slices.Equal(got, x.want) {
			t.Errorf("%v: %v, not %v", x.cs, got, x.want)
		}
		if !slices.Equal(us, given) {
			t.Errorf("%v were changed", x.cs)
		}
	}
	if no != 0 || may != 1 || must != 2 {
		t.Error("the statuses have other numbers")
	}
}

// P20.1: rule 5, and those ahead of it.
func TestJoined(t *testing.T) {
	for _, x := range []struct {
		a, c Class
		want Status
	}{{ID, ID, no}, {SP, ID, no}, {CB, CB, no}, {ZW, ID, may}, {BK, ID, must}, {CR, LF, no}} {
		us := units(x.a, x.c)
		us[0].Joined = true
		if got := Between(us); got[1] != x.want {
			t.Error(x, got)
		}
		us[0].Joined, us[1].Joined = false, true
		if got := Between(us); got[1] != Between(units(x.a, x.c))[1] {
			t.Error(x, got)
		}
	}
}

// model is the units ahead of a boundary, and those behind it.
type model struct {
	past []lbone.Unit
	c    Class
	next []lbone.Unit
}

func is(c Class, some ...Class) bool { return slices.Contains(some, c) }

// a is the class of the unit before the boundary, or of one still further ahead; 255, if there is none.
func (m model) a(back int) Class {
	if at := len(m.past) - 1 - back; at >= 0 {
		return m.past[at].Class
	}
	return 255
}

// ends tells whether the past ends with one of some classes and then any number of others.
func (m model) ends(first, then []Class) bool {
	back := 0
	for is(m.a(back), then...) {
		if is(m.a(back), first...) {
			return true
		}
		back++
	}
	return is(m.a(back), first...)
}

func (m model) back() model {
	return model{past: m.past[:len(m.past)-1]}
}

// rules are the table's conditions, in its order.
func (m model) rules() []bool {
	a, c := m.a(0), m.c
	next := Class(255)
	if len(m.next) > 0 {
		next = m.next[0].Class
	}
	spaces := func(first ...Class) bool { return m.ends(first, []Class{SP}) }
	either := func(some, others []Class) bool {
		return is(a, some...) && is(c, others...) || is(c, some...) && is(a, others...)
	}
	letters, hangul, number := []Class{AL, HL}, []Class{JL, JV, JT, H2, H3}, []Class{NU, SY, IS}
	count := 0
	for m.a(count) == RI {
		count++
	}
	inNumber := m.ends([]Class{NU}, number)
	behindNumber := inNumber || is(a, CL, CP) && m.back().ends([]Class{NU}, number)
	return []bool{
		a == CR && c == LF,
		is(a, BK, CR, LF, NL),
		is(c, BK, CR, LF, NL, SP, ZW),
		spaces(ZW),
		m.past[len(m.past)-1].Joined,
		c == WJ || a == WJ || a == GL,
		c == GL && !is(a, SP, BA, HY),
		is(c, CL, CP, EX, IS, SY),
		spaces(OP),
		c == OP && spaces(QU),
		c == NS && spaces(CL, CP),
		c == B2 && spaces(B2),
		a == SP,
		c == QU || a == QU,
		c == CB || a == CB,
		is(c, BA, HY, NS, IN) || a == BB,
		is(a, HY, BA) && m.a(1) == HL || a == SY && c == HL,
		either(letters, []Class{NU}),
		a == PR && is(c, ID, EB, EM) || is(a, ID, EB, EM) && c == PO,
		either([]Class{PR, PO}, letters),
		is(a, PR, PO) && (c == NU || is(c, OP, HY) && next == NU),
		is(a, OP, HY) && c == NU,
		inNumber && c == NU || behindNumber && is(c, PR, PO),
		a == JL && is(c, JL, JV, H2, H3) || is(a, JV, H2) && is(c, JV, JT) || is(a, JT, H3) && c == JT,
		is(a, hangul...) && c == PO || a == PR && is(c, hangul...),
		is(a, AL, HL, IS) && is(c, letters...),
		is(a, AL, HL, NU) && c == OP || a == CP && is(c, AL, HL, NU),
		c == RI && count%2 == 1,
		a == EB && c == EM,
		true,
	}
}

// sought is the statuses as the table says them.
func sought(us []lbone.Unit) []Status {
	ss := make([]Status, len(us))
	for i := range us {
		if i == 0 {
			continue
		}
		switch slices.Index(model{us[:i], us[i].Class, us[i+1:]}.rules(), true) + 1 {
		case 2:
			ss[i] = Mandatory
		case 4, 13, 15, 30:
			ss[i] = Allowed
		}
	}
	return ss
}

func compare(t *testing.T, us []lbone.Unit) {
	t.Helper()
	if got, want := Between(us), sought(us); !slices.Equal(got, want) {
		t.Fatalf("%v: %v, not %v", us, got, want)
	}
}

// P20.1: any three classes, also those that no unit has.
func TestAllTriples(t *testing.T) {
	for a := range Class(44) {
		for b := range Class(44) {
			for c := range Class(44) {
				compare(t, units(a, b, c))
			}
		}
	}
}

// P20.1: many longer sequences, of all classes and of few.
func TestMany(t *testing.T) {
	sets := [][]Class{
		nil,
		{NU, SY, IS, CL, CP, PR, PO, OP, HY, AL},
		{SP, ZW, OP, QU, CL, NS, B2, AL, GL, WJ},
		{RI, SP, AL, ID, BB},
		{HL, HY, BA, SY, ID, NU, AL},
		{linec.CM, ZWJ, XX, linec.CJ, linec.SA, ID, PR, NU},
	}
	seed := uint32(3)
	next := func(n int) int {
		seed = seed*1664525 + 1013904223
		return int(seed>>8) % n
	}
	for range 200000 {
		set := sets[next(len(sets))]
		us := make([]lbone.Unit, next(9))
		for i := range us {
			us[i] = lbone.Unit{From: i, To: i + 1, Class: Class(next(45)), Joined: next(12) == 0}
			if set != nil {
				us[i].Class = set[next(len(set))]
			}
		}
		compare(t, us)
	}
}

// P20.1: many spaces, or many RIs, take no longer than other units.
func TestLong(t *testing.T) {
	for _, c := range []Class{SP, RI, NU, SY} {
		us := units(slices.Repeat([]Class{c}, 1<<20)...)
		if got := Between(us); len(got) != len(us) {
			t.Error(len(got))
		}
	}
}
