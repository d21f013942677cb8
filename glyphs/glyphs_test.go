package glyphs_test

import (
	"slices"
	"testing"

	"boustrophedon/glyphs"
	"boustrophedon/mirror"
)

// P27.1
func TestOf(t *testing.T) {
	for _, x := range []struct {
		text   string
		levels []int
		want   string
	}{
		{"", nil, ""},
		{"(a", []int{1, 1}, ")a"},
		{"(a", []int{2, 1}, "(a"},
		{"<>", []int{3, 125}, "><"},
		{"()()", []int{0, -1, -3, 2}, "()()"},
		{"()", []int{-1 << 63, 1<<63 - 1}, "(("},
		{"(((", []int{1}, ")(("},
		{"(", []int{1, 1, 1}, ")"},
		{"((", nil, "(("},
		{"\u2329\u232a", []int{1, 1}, "\u232a\u2329"},
	} {
		rs := []rune(x.text)
		if got := glyphs.Of(rs, x.levels); string(got) != x.want {
			t.Errorf("%q, %v: %q", x.text, x.levels, string(got))
		}
		if string(rs) != x.text {
			t.Errorf("%q was changed", x.text)
		}
	}
}

// P27.1: every rune, those that are no scalars among them.
func TestEveryRune(t *testing.T) {
	var rs, want []rune
	for r := rune(-3); r < 0x110003; r++ {
		other, _ := mirror.Of(r)
		rs, want = append(rs, r), append(want, other)
	}
	if got := glyphs.Of(rs, slices.Repeat([]int{1}, len(rs))); !slices.Equal(got, want) {
		t.Error("a rune is not mirrored as it should be")
	}
	if got := glyphs.Of(rs, slices.Repeat([]int{0}, len(rs))); !slices.Equal(got, rs) {
		t.Error("a rune is mirrored at level 0")
	}
}
