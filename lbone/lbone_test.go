package lbone_test

import (
	"slices"
	"testing"

	"boustrophedon/lbone"
	"boustrophedon/linec"
)

const (
	XX  = linec.XX
	AL  = linec.AL
	CM  = linec.CM
	ZWJ = linec.ZWJ
	SP  = linec.SP
	SA  = linec.SA
	ID  = linec.ID
)

// P19.1
func TestClass(t *testing.T) {
	other := map[linec.Class]linec.Class{linec.AI: AL, linec.SG: AL, XX: AL, SA: AL, linec.CJ: linec.NS}
	for i := range 256 {
		c := linec.Class(i)
		want, found := other[c]
		if !found {
			want = c
		}
		if got := lbone.Class(c); got != want {
			t.Errorf("Class(%d) = %d", c, got)
		}
	}
}

// P19.2
func TestUnits(t *testing.T) {
	for _, x := range []struct {
		cs     []linec.Class
		widths []int
		want   []lbone.Unit
	}{
		{nil, nil, nil},
		{nil, []int{1}, nil},
		{[]linec.Class{AL, CM, ZWJ, SP, CM}, nil, []lbone.Unit{{0, 3, AL, true}, {3, 4, SP, false}, {4, 5, AL, false}}},
		{[]linec.Class{ZWJ}, nil, []lbone.Unit{{0, 1, AL, true}}},
		{[]linec.Class{CM, CM, ID}, nil, []lbone.Unit{{0, 2, AL, false}, {2, 3, ID, false}}},
		{[]linec.Class{ID, ZWJ, CM}, nil, []lbone.Unit{{0, 3, ID, false}}},
		{[]linec.Class{ID, CM, ZWJ}, nil, []lbone.Unit{{0, 3, ID, true}}},
		{[]linec.Class{SP, ZWJ, ZWJ}, nil, []lbone.Unit{{0, 1, SP, false}, {1, 3, AL, true}}},
		{[]linec.Class{linec.AI, linec.CJ, XX, linec.SG, SA}, nil, []lbone.Unit{{0, 1, AL, false}, {1, 2, linec.NS, false}, {2, 3, AL, false}, {3, 4, AL, false}, {4, 5, AL, false}}},
		// SA that takes no cell is a mark, if its width is told
		{[]linec.Class{SA, SA, SA}, []int{1, 0, 1}, []lbone.Unit{{0, 2, AL, false}, {2, 3, AL, false}}},
		{[]linec.Class{SA, SA, SA}, []int{1, 0}, []lbone.Unit{{0, 2, AL, false}, {2, 3, AL, false}}},
		{[]linec.Class{SA, SA, SA}, []int{1}, []lbone.Unit{{0, 1, AL, false}, {1, 2, AL, false}, {2, 3, AL, false}}},
		{[]linec.Class{SP, SA, SA}, []int{1, 0, 0}, []lbone.Unit{{0, 1, SP, false}, {1, 3, AL, false}}},
		{[]linec.Class{ID, ZWJ, SA}, []int{2, 0, 0}, []lbone.Unit{{0, 3, ID, false}}},
		// other classes without cells are no marks, and marks with cells are
		{[]linec.Class{AL, AL, CM}, []int{0, 0, 1}, []lbone.Unit{{0, 1, AL, false}, {1, 3, AL, false}}},
		{[]linec.Class{250, CM, 43}, []int{-1, -1, 0, 9, 9}, []lbone.Unit{{0, 2, 250, false}, {2, 3, 43, false}}},
	} {
		given := slices.Clone(x.cs)
		if got := lbone.Units(x.cs, x.widths); !slices.Equal(got, x.want) {
			t.Errorf("%v, %v: %v", x.cs, x.widths, got)
		}
		if !slices.Equal(given, x.cs) {
			t.Errorf("%v was changed", given)
		}
	}
}

// P19.2: of which classes a mark is not joined to the unit before it.
func TestMarkBehindEveryClass(t *testing.T) {
	apart := []linec.Class{linec.BK, linec.CR, linec.LF, linec.NL, SP, linec.ZW}
	for i := range 256 {
		c := linec.Class(i)
		for _, mark := range []linec.Class{CM, ZWJ} {
			class := lbone.Class(c)
			if c == CM || c == ZWJ {
				class = AL
			}
			want := []lbone.Unit{{0, 2, class, mark == ZWJ}}
			if slices.Contains(apart, c) {
				want = []lbone.Unit{{0, 1, c, false}, {1, 2, AL, mark == ZWJ}}
			}
			if got := lbone.Units([]linec.Class{c, mark}, nil); !slices.Equal(got, want) {
				t.Errorf("%d, %d: %v", c, mark, got)
			}
		}
	}
}
