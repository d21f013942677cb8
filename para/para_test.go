package para_test

import (
	"slices"
	"testing"

	"boustrophedon/bidic"
	"boustrophedon/para"
)

// P8.1
func TestSplit(t *testing.T) {
	for _, x := range []struct {
		text string
		want []para.Para
	}{
		{"", nil},
		{"a", []para.Para{{0, 1, 0}}},
		{"a\r\nb", []para.Para{{0, 3, 2}, {3, 4, 0}}},
		{"\n\n", []para.Para{{0, 1, 1}, {1, 2, 1}}},
		{"\r\r\n\n\r", []para.Para{{0, 1, 1}, {1, 3, 2}, {3, 4, 1}, {4, 5, 1}}},
		{"\n\ra", []para.Para{{0, 1, 1}, {1, 2, 1}, {2, 3, 0}}},
		{"ab\u2029cd\u0085", []para.Para{{0, 3, 1}, {3, 6, 1}}},
		{"a\x1cb\x1dc\x1ed", []para.Para{{0, 2, 1}, {2, 4, 1}, {4, 6, 1}, {6, 7, 0}}},
		{"a\u2028b\tc", []para.Para{{0, 5, 0}}},
	} {
		rs := []rune(x.text)
		if got := para.Split(rs, bidic.Of(rs)); !slices.Equal(got, x.want) {
			t.Errorf("%q: %v", x.text, got)
		}
	}
}

// P8.1: the class of the return decides, and the rune behind it.
func TestSplitByClasses(t *testing.T) {
	const L, B = bidic.L, bidic.B
	for _, x := range []struct {
		rs   []rune
		cs   []bidic.Class
		want []para.Para
	}{
		{[]rune("\r\nb"), []bidic.Class{B, L, L}, []para.Para{{0, 2, 2}, {2, 3, 0}}},
		{[]rune("\r\nb"), []bidic.Class{L, B, L}, []para.Para{{0, 2, 1}, {2, 3, 0}}},
		{[]rune("abc"), []bidic.Class{B, B, L}, []para.Para{{0, 1, 1}, {1, 2, 1}, {2, 3, 0}}},
		{[]rune("abc"), []bidic.Class{200, 255, 23}, []para.Para{{0, 3, 0}}},
	} {
		if got := para.Split(x.rs, x.cs); !slices.Equal(got, x.want) {
			t.Errorf("%q: %v", x.rs, got)
		}
	}
}

// P8.1: only as many scalars count as there are of both.
func TestSplitOfDifferentLengths(t *testing.T) {
	const L, B = bidic.L, bidic.B
	if got := para.Split([]rune("\r\n"), []bidic.Class{B}); !slices.Equal(got, []para.Para{{0, 1, 1}}) {
		t.Error(got)
	}
	if got := para.Split([]rune("a"), []bidic.Class{L, B, L}); !slices.Equal(got, []para.Para{{0, 1, 0}}) {
		t.Error(got)
	}
	if got := para.Split([]rune("ab"), nil); len(got) != 0 {
		t.Error(got)
	}
	if got := para.Split(nil, []bidic.Class{B}); len(got) != 0 {
		t.Error(got)
	}
}
