package pairs_test

import (
	"slices"
	"strings"
	"testing"

	"boustrophedon/bidic"
	"boustrophedon/pairs"
)

// P15.1
func TestOf(t *testing.T) {
	for _, x := range []struct {
		text string
		want []pairs.Pair
	}{
		{"", nil},
		{"a", nil},
		{"a(b[c)d]", []pairs.Pair{{1, 5}}},
		{"(()", []pairs.Pair{{1, 2}}},
		{"[(])", []pairs.Pair{{0, 2}}},
		{"([{}])", []pairs.Pair{{0, 5}, {1, 4}, {2, 3}}},
		{"()[]{}", []pairs.Pair{{0, 1}, {2, 3}, {4, 5}}},
		{")(", nil},
		{"())", []pairs.Pair{{0, 1}}},
		{"(]()", []pairs.Pair{{2, 3}}},
		{"<>\u00ab\u00bb", nil},
		{"\u2329\u3009 \u3008\u232a \u2329\u232a \u3008\u3009", []pairs.Pair{{0, 1}, {3, 4}, {6, 7}, {9, 10}}},
		{"(a[b)c]d)", []pairs.Pair{{0, 4}}},
		{"[a(b]c)", []pairs.Pair{{0, 4}}},
	} {
		rs := []rune(x.text)
		if got := pairs.Of(rs, bidic.Of(rs)); !slices.Equal(got, x.want) {
			t.Errorf("%q: %v", x.text, got)
		}
	}
}

// P15.1: only those of class ON count, whatever their runes are.
func TestOfByClasses(t *testing.T) {
	const L, R, ON = bidic.L, bidic.R, bidic.ON
	for _, x := range []struct {
		text string
		cs   []bidic.Class
		want []pairs.Pair
	}{
		{"(())", []bidic.Class{ON, R, ON, ON}, []pairs.Pair{{0, 2}}},
		{"(())", []bidic.Class{L, ON, R, ON}, []pairs.Pair{{1, 3}}},
		{"(())", []bidic.Class{ON, ON, ON}, []pairs.Pair{{1, 2}}},
		{"((", []bidic.Class{ON, ON, ON, ON}, nil},
		{"()", nil, nil},
		{"()", []bidic.Class{255, ON}, nil},
	} {
		if got := pairs.Of([]rune(x.text), x.cs); !slices.Equal(got, x.want) {
			t.Errorf("%q, %v: %v", x.text, x.cs, got)
		}
	}
	if got := pairs.Of(nil, []bidic.Class{ON}); len(got) != 0 {
		t.Error(got)
	}
}

func of(text string) []pairs.Pair {
	rs := []rune(text)
	return pairs.Of(rs, bidic.Of(rs))
}

// P15.1: 63 brackets stand open, but not 64.
func TestDepth(t *testing.T) {
	var deepest []pairs.Pair
	for i := range 63 {
		deepest = append(deepest, pairs.Pair{Open: i, Close: 125 - i})
	}
	if got := of(strings.Repeat("(", 63) + strings.Repeat(")", 63)); !slices.Equal(got, deepest) {
		t.Error(got)
	}
	if got := of(strings.Repeat("[", 64) + strings.Repeat("]", 64)); len(got) != 0 {
		t.Error(got)
	}
	if got := of("()" + strings.Repeat("(", 64) + ")()"); !slices.Equal(got, []pairs.Pair{{0, 1}}) {
		t.Error("what was found ahead of the search's end is kept:", got)
	}
	if got := of(strings.Repeat("(", 63) + ")()"); !slices.Equal(got, []pairs.Pair{{62, 63}, {64, 65}}) {
		t.Error("what is closed stands open no more:", got)
	}
	if got := of("[" + strings.Repeat("(", 62) + "]" + strings.Repeat("(", 63) + ")"); !slices.Equal(got, []pairs.Pair{{0, 63}, {126, 127}}) {
		t.Error("what is removed above a pair stands open no more:", got)
	}
}
