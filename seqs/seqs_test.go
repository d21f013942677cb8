package seqs_test

import (
	"slices"
	"testing"

	"boustrophedon/bidic"
	"boustrophedon/isolate"
	"boustrophedon/runs"
	"boustrophedon/seqs"
)

const (
	L   = bidic.L
	R   = bidic.R
	ON  = bidic.ON
	BN  = bidic.BN
	LRI = bidic.LRI
	RLI = bidic.RLI
	PDI = bidic.PDI
	X   = -1
)

func same(a, b seqs.Seq) bool {
	return slices.Equal(a.Places, b.Places) && a.Level == b.Level && a.Sos == b.Sos && a.Eos == b.Eos
}

// P13.1, P13.2
func TestOf(t *testing.T) {
	for _, x := range []struct {
		levels []int
		cs     []bidic.Class
		base   int
		want   []seqs.Seq
	}{
		{nil, nil, 0, nil},
		{[]int{X}, []bidic.Class{BN}, 1, nil},
		{[]int{0}, []bidic.Class{L}, 0, []seqs.Seq{{[]int{0}, 0, L, L}}},
		{[]int{0}, []bidic.Class{L}, 1, []seqs.Seq{{[]int{0}, 0, R, R}}},
		{[]int{0, 1, 0}, []bidic.Class{LRI, R, PDI}, 0, []seqs.Seq{{[]int{0, 2}, 0, L, L}, {[]int{1}, 1, R, R}}},
		{[]int{0, 1, 0, 1, 0}, []bidic.Class{RLI, R, PDI, R, L}, 0, []seqs.Seq{{[]int{0, 2}, 0, L, R}, {[]int{1}, 1, R, R}, {[]int{3}, 1, R, R}, {[]int{4}, 0, R, L}}},
		// an isolate that is not closed
		{[]int{1, 2}, []bidic.Class{LRI, L}, 1, []seqs.Seq{{[]int{0}, 1, R, R}, {[]int{1}, 2, L, L}}},
		{[]int{0, 1}, []bidic.Class{RLI, R}, 0, []seqs.Seq{{[]int{0}, 0, L, L}, {[]int{1}, 1, R, R}}},
		// an isolate that is closed, but by what begins no run
		{[]int{0, 1, 1}, []bidic.Class{RLI, R, PDI}, 0, []seqs.Seq{{[]int{0}, 0, L, L}, {[]int{1, 2}, 1, R, R}}},
		{[]int{0, 1, X}, []bidic.Class{RLI, R, PDI}, 0, []seqs.Seq{{[]int{0}, 0, L, L}, {[]int{1}, 1, R, R}}},
		// the nearest level is that of what is not taken out
		{[]int{X, 2, X, 1, X}, []bidic.Class{BN, L, BN, R, BN}, 0, []seqs.Seq{{[]int{1}, 2, L, L}, {[]int{3}, 1, L, R}}},
		{[]int{2, X, 0, X, 3}, []bidic.Class{L, BN, L, BN, R}, 1, []seqs.Seq{{[]int{0}, 2, L, L}, {[]int{2}, 0, L, R}, {[]int{4}, 3, R, R}}},
		// a PDI ends a run, an initiator stands within one
		{[]int{0, 0, 1, 0}, []bidic.Class{LRI, PDI, R, PDI}, 0, []seqs.Seq{{[]int{0, 1}, 0, L, R}, {[]int{2}, 1, R, R}, {[]int{3}, 0, R, L}}},
		// two isolates one behind the other, and one in the other
		{[]int{0, 2, 0, 1, 0}, []bidic.Class{LRI, L, PDI, R, L}, 0, []seqs.Seq{{[]int{0, 2}, 0, L, R}, {[]int{1}, 2, L, L}, {[]int{3}, 1, R, R}, {[]int{4}, 0, R, L}}},
		{[]int{0, 2, 4, 2, 0, 2, 0}, []bidic.Class{LRI, LRI, L, PDI, PDI, L, L}, 0, []seqs.Seq{{[]int{0, 4}, 0, L, L}, {[]int{1, 3}, 2, L, L}, {[]int{2}, 4, L, L}, {[]int{5}, 2, L, L}, {[]int{6}, 0, L, L}}},
		// levels that no paragraph has
		{[]int{-3, -2}, []bidic.Class{R, R}, -5, []seqs.Seq{{[]int{0}, -3, L, L}, {[]int{1}, -2, L, L}}},
		// other lengths
		{[]int{0}, nil, 0, nil},
		{[]int{0}, []bidic.Class{L, L}, 0, nil},
	} {
		if got := seqs.Of(x.levels, x.cs, x.base); !slices.EqualFunc(got, x.want, same) {
			t.Errorf("%v, %v, %d: %v", x.levels, x.cs, x.base, got)
		}
	}
}

func class(level int) bidic.Class {
	if level == 1 || level == 3 {
		return R
	}
	return L
}

// sought is the sequences as the promises say them.
func sought(levels []int, cs []bidic.Class, base int) []seqs.Seq {
	match := isolate.Match(cs)
	left := runs.Of(levels)
	var all []seqs.Seq
	for len(left) > 0 {
		places := left[0]
		left = left[1:]
		for again := true; again; {
			again = false
			last := places[len(places)-1]
			for k, run := range left {
				if bidic.Isolate(cs[last]) && match[last] == run[0] {
					places = slices.Concat(places, run)
					left = slices.Delete(slices.Clone(left), k, k+1)
					again = true
					break
				}
			}
		}
		s := seqs.Seq{Places: places, Level: levels[places[0]], Sos: class(max(levels[places[0]], base)), Eos: class(max(levels[places[0]], base))}
		for i := range places[0] {
			if levels[i] != X {
				s.Sos = class(max(s.Level, levels[i]))
			}
		}
		last := places[len(places)-1]
		for i := len(cs) - 1; i > last && !bidic.Isolate(cs[last]); i-- {
			if levels[i] != X {
				s.Eos = class(max(s.Level, levels[i]))
			}
		}
		all = append(all, s)
	}
	return all
}

// P13.1, P13.2: every sequence of up to five, of four classes and four levels.
func TestOfAll(t *testing.T) {
	kinds := []bidic.Class{ON, RLI, LRI, PDI}
	for n := range 6 {
		for code := range 1 << (4 * n) {
			cs := make([]bidic.Class, n)
			levels := make([]int, n)
			for i := range cs {
				cs[i] = kinds[code>>(4*i)&3]
				levels[i] = code>>(4*i+2)&3 - 1
			}
			base := code % 2
			if got, want := seqs.Of(levels, cs, base), sought(levels, cs, base); !slices.EqualFunc(got, want, same) {
				t.Fatalf("%v, %v, %d: %v, not %v", levels, cs, base, got, want)
			}
		}
	}
}
