package weak_test

import (
	"slices"
	"testing"

	"boustrophedon/bidic"
	"boustrophedon/weak"
)

const (
	L   = bidic.L
	R   = bidic.R
	AL  = bidic.AL
	EN  = bidic.EN
	ES  = bidic.ES
	ET  = bidic.ET
	AN  = bidic.AN
	CS  = bidic.CS
	NSM = bidic.NSM
	ON  = bidic.ON
	WS  = bidic.WS
	LRI = bidic.LRI
	RLI = bidic.RLI
	FSI = bidic.FSI
	PDI = bidic.PDI
)

// P14.1: rule by rule.
func TestResolve(t *testing.T) {
	for _, x := range []struct {
		cs   []bidic.Class
		sos  bidic.Class
		want []bidic.Class
	}{
		{nil, L, nil},
		{[]bidic.Class{NSM, NSM}, R, []bidic.Class{R, R}},
		{[]bidic.Class{AL, NSM, EN}, R, []bidic.Class{R, R, AN}},
		{[]bidic.Class{ON, NSM, LRI, NSM, RLI, NSM, FSI, NSM, PDI, NSM, NSM}, L, []bidic.Class{ON, ON, LRI, ON, RLI, ON, FSI, ON, PDI, ON, ON}},
		{[]bidic.Class{EN, NSM, AN, NSM}, R, []bidic.Class{EN, EN, AN, AN}},
		{[]bidic.Class{AL, ON, EN, L, EN, AL, R, EN}, R, []bidic.Class{R, ON, AN, L, L, R, R, EN}},
		{[]bidic.Class{EN, CS, EN, ET}, L, []bidic.Class{L, L, L, L}},
		{[]bidic.Class{EN, ES, EN, CS, EN}, R, []bidic.Class{EN, EN, EN, EN, EN}},
		{[]bidic.Class{AN, CS, AN, ES, AN}, R, []bidic.Class{AN, AN, AN, ON, AN}},
		{[]bidic.Class{AN, CS, EN, CS, AN}, R, []bidic.Class{AN, ON, EN, ON, AN}},
		{[]bidic.Class{AL, EN, CS, EN, ES, EN}, R, []bidic.Class{R, AN, AN, AN, ON, AN}},
		{[]bidic.Class{EN, CS, CS, EN}, R, []bidic.Class{EN, ON, ON, EN}},
		{[]bidic.Class{CS, EN, CS}, R, []bidic.Class{ON, EN, ON}},
		{[]bidic.Class{EN, CS, NSM, EN}, R, []bidic.Class{EN, ON, ON, EN}},
		{[]bidic.Class{ET, ET, EN, ET, ET, ON}, R, []bidic.Class{EN, EN, EN, EN, EN, ON}},
		{[]bidic.Class{ET, AN}, R, []bidic.Class{ON, AN}},
		{[]bidic.Class{ET, NSM, EN}, R, []bidic.Class{EN, EN, EN}},
		{[]bidic.Class{AL, ET, EN}, R, []bidic.Class{R, ON, AN}},
		{[]bidic.Class{EN, CS, ET, EN}, R, []bidic.Class{EN, ON, EN, EN}},
		{[]bidic.Class{EN, WS, ET, WS, EN}, L, []bidic.Class{L, WS, ON, WS, L}},
		{[]bidic.Class{L, ON, EN, R, EN}, R, []bidic.Class{L, ON, L, R, EN}},
		{[]bidic.Class{EN, AN, EN}, L, []bidic.Class{L, AN, L}},
		{[]bidic.Class{255, NSM, 23}, L, []bidic.Class{255, 255, 23}},
	} {
		given := slices.Clone(x.cs)
		if got := weak.Resolve(x.cs, x.sos); !slices.Equal(got, x.want) {
			t.Errorf("%v, %v: %v, not %v", x.cs, x.sos, got, x.want)
		}
		if !slices.Equal(x.cs, given) {
			t.Errorf("%v was changed", given)
		}
	}
}

// at is the class at a place, if there is one: that before the first one is sos.
func at(cs []bidic.Class, i int, sos bidic.Class) bidic.Class {
	if i < 0 {
		return sos
	}
	if i >= len(cs) {
		return 255
	}
	return cs[i]
}

// strong is the last class before a place that is one of some.
func strong(cs []bidic.Class, i int, sos bidic.Class, some ...bidic.Class) bidic.Class {
	for i--; i >= 0; i-- {
		if slices.Contains(some, cs[i]) {
			return cs[i]
		}
	}
	return sos
}

// numeric tells whether the sequence of ETs around a place stands beside an EN.
func numeric(cs []bidic.Class, i int) bool {
	from, to := i, i
	for at(cs, from, L) == ET {
		from--
	}
	for at(cs, to, L) == ET {
		to++
	}
	return at(cs, from, L) == EN || at(cs, to, L) == EN
}

// sought is the classes as the promise's rules say them.
func sought(cs []bidic.Class, sos bidic.Class) []bidic.Class {
	rules := []func(cs []bidic.Class, i int) bidic.Class{
		func(cs []bidic.Class, i int) bidic.Class {
			if cs[i] != NSM {
				return cs[i]
			}
			if slices.Contains([]bidic.Class{LRI, RLI, FSI, PDI}, at(cs, i-1, sos)) {
				return ON
			}
			return at(cs, i-1, sos)
		},
		func(cs []bidic.Class, i int) bidic.Class {
			if cs[i] == EN && strong(cs, i, sos, L, R, AL) == AL {
				return AN
			}
			return cs[i]
		},
		func(cs []bidic.Class, i int) bidic.Class {
			if cs[i] == AL {
				return R
			}
			return cs[i]
		},
		func(cs []bidic.Class, i int) bidic.Class {
			a, b := at(cs, i-1, sos), at(cs, i+1, sos)
			if (cs[i] == ES || cs[i] == CS) && a == EN && b == EN {
				return EN
			}
			if cs[i] == CS && a == AN && b == AN {
				return AN
			}
			return cs[i]
		},
		func(cs []bidic.Class, i int) bidic.Class {
			if cs[i] == ET && numeric(cs, i) {
				return EN
			}
			return cs[i]
		},
		func(cs []bidic.Class, i int) bidic.Class {
			if cs[i] == ES || cs[i] == ET || cs[i] == CS {
				return ON
			}
			return cs[i]
		},
		func(cs []bidic.Class, i int) bidic.Class {
			if cs[i] == EN && strong(cs, i, sos, L, R) == L {
				return L
			}
			return cs[i]
		},
	}
	out := slices.Clone(cs)
	for _, rule := range rules {
		for i := range out {
			out[i] = rule(out, i)
		}
	}
	return out
}

// P14.1: every sequence of up to five.
func TestResolveAll(t *testing.T) {
	kinds := []bidic.Class{L, R, AL, EN, ES, ET, AN, CS, NSM, ON, PDI}
	count := 1
	for n := range 6 {
		for code := range count {
			cs := make([]bidic.Class, n)
			for i, rest := 0, code; i < n; i, rest = i+1, rest/len(kinds) {
				cs[i] = kinds[rest%len(kinds)]
			}
			for _, sos := range []bidic.Class{L, R} {
				if got, want := weak.Resolve(cs, sos), sought(cs, sos); !slices.Equal(got, want) {
					t.Fatalf("%v, %v: %v, not %v", cs, sos, got, want)
				}
			}
		}
		count *= len(kinds)
	}
}
