package explicit_test

import (
	"slices"
	"testing"

	"boustrophedon/base"
	"boustrophedon/bidic"
	"boustrophedon/explicit"
)

const (
	L   = bidic.L
	R   = bidic.R
	AL  = bidic.AL
	EN  = bidic.EN
	BN  = bidic.BN
	B   = bidic.B
	S   = bidic.S
	ON  = bidic.ON
	LRE = bidic.LRE
	LRO = bidic.LRO
	RLE = bidic.RLE
	RLO = bidic.RLO
	PDF = bidic.PDF
	LRI = bidic.LRI
	RLI = bidic.RLI
	FSI = bidic.FSI
	PDI = bidic.PDI
	X   = -1
)

type example struct {
	cs      []bidic.Class
	level   int
	levels  []int
	classes []bidic.Class // nil: all their own
}

func check(t *testing.T, x example) {
	t.Helper()
	given := slices.Clone(x.cs)
	want := x.classes
	if want == nil {
		want = x.cs
	}
	levels, classes := explicit.Resolve(x.cs, x.level)
	if !slices.Equal(levels, x.levels) || !slices.Equal(classes, want) {
		t.Errorf("%v at %d: %v, %v", x.cs, x.level, levels, classes)
	}
	if !slices.Equal(x.cs, given) {
		t.Errorf("%v was changed", given)
	}
}

// P11.1: the table's rows, one by one.
func TestResolve(t *testing.T) {
	for _, x := range []example{
		{nil, 0, nil, nil},
		{[]bidic.Class{RLE, L, PDF, L}, 0, []int{X, 1, X, 0}, nil},
		{[]bidic.Class{RLO, L, RLI, PDI}, 0, []int{X, 1, 1, 1}, []bidic.Class{RLO, R, R, R}},
		{[]bidic.Class{RLE, L}, 1, []int{X, 3}, nil},
		{[]bidic.Class{LRE, R}, 0, []int{X, 2}, nil},
		{[]bidic.Class{LRE, R}, 1, []int{X, 2}, nil},
		{[]bidic.Class{LRO, R, ON, EN, BN, S, 200}, 1, []int{X, 2, 2, 2, X, 2, 2}, []bidic.Class{LRO, L, L, L, BN, L, L}},
		{[]bidic.Class{RLO, B, L}, 0, []int{X, 0, 1}, []bidic.Class{RLO, B, R}},
		{[]bidic.Class{RLO, LRE, L, PDF, L}, 0, []int{X, X, 2, X, 1}, []bidic.Class{RLO, LRE, L, PDF, R}},
		{[]bidic.Class{LRI, R, PDI, R}, 0, []int{0, 2, 0, 0}, nil},
		{[]bidic.Class{LRI, R, PDI, R}, 1, []int{1, 2, 1, 1}, nil},
		{[]bidic.Class{RLI, R, PDI, R}, 0, []int{0, 1, 0, 0}, nil},
		{[]bidic.Class{RLI, R, PDI, R}, 1, []int{1, 3, 1, 1}, nil},
		{[]bidic.Class{FSI, ON, AL, PDI, R}, 0, []int{0, 1, 1, 0, 0}, nil},
		{[]bidic.Class{FSI, ON, L, R, PDI, R}, 0, []int{0, 2, 2, 2, 0, 0}, nil},
		{[]bidic.Class{FSI, PDI, R}, 1, []int{1, 1, 1}, nil},
		{[]bidic.Class{FSI, ON, PDI, R}, 1, []int{1, 2, 1, 1}, nil},
		{[]bidic.Class{FSI, LRI, R, PDI, R}, 0, []int{0, 1, 2, 1, 1}, nil},
		{[]bidic.Class{FSI, R}, 0, []int{0, 1}, nil},
		{[]bidic.Class{LRO, LRI, R, PDI, R}, 0, []int{X, 2, 4, 2, 2}, []bidic.Class{LRO, L, R, L, L}},
		{[]bidic.Class{PDI, PDF, R}, 0, []int{0, X, 0}, nil},
		{[]bidic.Class{RLI, PDF, R, PDI, R}, 0, []int{0, X, 1, 0, 0}, nil},
		{[]bidic.Class{RLI, RLE, LRO, R, PDI, R}, 0, []int{0, X, X, 4, 0, 0}, []bidic.Class{RLI, RLE, LRO, L, PDI, R}},
		{[]bidic.Class{RLE, RLI, R, PDI, PDF, R}, 0, []int{X, 1, 3, 1, X, 0}, nil},
		{[]bidic.Class{RLE, PDI, PDI, R, PDF, PDF, R}, 0, []int{X, 1, 1, 1, X, X, 0}, nil},
	} {
		check(t, x)
	}
}

// deep is so many embeddings or isolates, and their levels.
func deep(c bidic.Class, n int) []bidic.Class {
	return slices.Repeat([]bidic.Class{c}, n)
}

// last is the level of the last class.
func last(cs ...[]bidic.Class) int {
	levels, _ := explicit.Resolve(slices.Concat(cs...), 0)
	return levels[len(levels)-1]
}

// P11.1: levels are at most 125, and what overflows is counted.
func TestDepth(t *testing.T) {
	end := []bidic.Class{ON}
	for _, x := range []struct {
		name      string
		got, want int
	}{
		{"63 RLE", last(deep(RLE, 63), end), 125},
		{"64 RLE", last(deep(RLE, 64), end), 125},
		{"62 LRE", last(deep(LRE, 62), end), 124},
		{"63 LRE", last(deep(LRE, 63), end), 124},
		{"62 LRE, RLE", last(deep(LRE, 62), deep(RLE, 1), end), 125},
		{"63 LRE, RLE: nothing fits while embeddings overflow", last(deep(LRE, 63), deep(RLE, 1), end), 124},
		{"64 RLE, PDF: the one that overflows is ended first", last(deep(RLE, 64), deep(PDF, 1), end), 125},
		{"64 RLE, 2 PDF", last(deep(RLE, 64), deep(PDF, 2), end), 123},
		{"64 RLE, 100 PDF", last(deep(RLE, 64), deep(PDF, 100), end), 0},
		{"63 RLI", last(deep(RLI, 63), end), 125},
		{"64 RLI", last(deep(RLI, 64), end), 125},
		{"64 RLI, PDI", last(deep(RLI, 64), deep(PDI, 1), end), 125},
		{"64 RLI, 2 PDI", last(deep(RLI, 64), deep(PDI, 2), end), 123},
		{"64 RLI, 65 PDI", last(deep(RLI, 64), deep(PDI, 65), end), 0},
		{"64 RLI, RLE, PDF: embeddings in isolates that overflow are not counted", last(deep(RLI, 64), deep(RLE, 3), deep(PDI, 2), deep(RLE, 1), end), 125},
		{"64 RLI, PDF", last(deep(RLI, 64), deep(PDF, 9), end), 125},
		{"RLI, 64 RLE, PDI: an isolate's end ends embeddings that overflow", last(deep(RLI, 1), deep(RLE, 70), deep(PDI, 1), deep(RLE, 1), end), 1},
		{"63 RLE, RLI, PDF, PDI, PDF", last(deep(RLE, 63), deep(RLI, 1), deep(PDF, 1), deep(PDI, 1), deep(PDF, 1), end), 123},
		{"64 RLE, LRI: an isolate overflows, if an embedding did", last(deep(RLE, 64), deep(LRI, 1), deep(PDF, 5), deep(PDI, 1), deep(PDF, 1), end), 125},
	} {
		if x.got != x.want {
			t.Errorf("%s: %d, not %d", x.name, x.got, x.want)
		}
	}
}

// P11.1: an isolate that overflows stands at the level around it.
func TestOverflowingIsolate(t *testing.T) {
	cs := slices.Concat(deep(RLO, 63), []bidic.Class{RLI, L, PDI})
	levels, classes := explicit.Resolve(cs, 0)
	if !slices.Equal(levels[63:], []int{125, 125, 125}) || !slices.Equal(classes[63:], []bidic.Class{R, R, R}) {
		t.Error(levels[63:], classes[63:])
	}
}

// P11.1: FSI is what base.First of all behind it says: every sequence of up to six.
func TestFirstStrong(t *testing.T) {
	kinds := []bidic.Class{ON, L, R, AL, LRI, RLI, FSI, PDI}
	for n := range 7 {
		for code := range 1 << (3 * n) {
			cs := make([]bidic.Class, n)
			for i := range cs {
				cs[i] = kinds[code>>(3*i)&7]
			}
			plain := slices.Clone(cs)
			for i, c := range cs {
				if c == FSI {
					plain[i] = []bidic.Class{LRI, RLI}[base.First(cs[i+1:], true, 0)]
				}
			}
			want, _ := explicit.Resolve(plain, 0)
			if got, classes := explicit.Resolve(cs, 0); !slices.Equal(got, want) || !slices.Equal(classes, cs) {
				t.Fatalf("%v: %v, not %v", cs, got, want)
			}
		}
	}
}

// P11.1: a text of isolates alone takes no more time than another one.
func TestManyIsolates(t *testing.T) {
	levels, _ := explicit.Resolve(deep(FSI, 1<<20), 0)
	if levels[1<<20-1] != 124 {
		t.Error(levels[1<<20-1])
	}
}

// W1: levels that no paragraph has.
func TestOddLevels(t *testing.T) {
	for _, level := range []int{-1 << 63, -2, -1, 2, 124, 125, 126, 1<<63 - 1} {
		cs := []bidic.Class{RLE, LRE, RLI, FSI, PDF, PDI, PDI, ON, B, 255}
		if levels, classes := explicit.Resolve(cs, level); len(levels) != len(cs) || len(classes) != len(cs) {
			t.Error(level, levels, classes)
		}
	}
}
