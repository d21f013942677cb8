package levels_test

import (
	"errors"
	"reflect"
	"slices"
	"strings"
	"testing"

	"boustrophedon/api"
	"boustrophedon/base"
	"boustrophedon/bidic"
	"boustrophedon/explicit"
	"boustrophedon/implicit"
	"boustrophedon/levels"
	"boustrophedon/neutral"
	"boustrophedon/para"
	"boustrophedon/seqs"
	"boustrophedon/weak"
)

const X = -1

// P18.2: texts whose levels can be told by hand. In them A to Z stand for Hebrew letters, and some signs for what has no form.
func text(s string) []rune {
	signs := strings.NewReplacer("<", "\u202a", ">", "\u202b", "{", "\u2066", "}", "\u2067", "?", "\u2068", "=", "\u2069", "^", "\u202c", "@", "\u0627", "~", "\u0301", "!", "\u202e")
	rs := []rune(signs.Replace(s))
	for i, r := range rs {
		if 'A' <= r && r <= 'Z' {
			rs[i] = r - 'A' + 0x5d0
		}
	}
	return rs
}

// P18.1, P18.2
func TestOf(t *testing.T) {
	for _, x := range []struct {
		text  string
		d     api.Direction
		want  []int
		bases []int
	}{
		{"", api.Auto, nil, nil},
		{"aA1", api.Auto, []int{0, 1, 2}, []int{0}},
		{"A a", api.Auto, []int{1, 1, 2}, []int{1}},
		{"A a", api.LeftToRight, []int{1, 0, 0}, []int{0}},
		{"a A", api.RightToLeft, []int{2, 1, 1}, []int{1}},
		{"see (ABCD) 12", api.Auto, []int{0, 0, 0, 0, 0, 1, 1, 1, 1, 0, 0, 2, 2}, []int{0}},
		{"A (b) C", api.Auto, []int{1, 1, 1, 2, 1, 1, 1}, []int{1}},
		{"a~A~", api.Auto, []int{0, 0, 1, 1}, []int{0}},
		{"@ 1,2", api.Auto, []int{1, 1, 2, 2, 2}, []int{1}},
		{"A 1,2", api.LeftToRight, []int{1, 1, 2, 2, 2}, []int{0}},
		{"a 1,2", api.RightToLeft, []int{2, 2, 2, 2, 2}, []int{1}},
		{"a>b^c", api.Auto, []int{0, X, 2, X, 0}, []int{0}},
		{"a!b^c", api.Auto, []int{0, X, 1, X, 0}, []int{0}},
		{"a}b=c", api.Auto, []int{0, 0, 2, 0, 0}, []int{0}},
		{"a?B=c", api.Auto, []int{0, 0, 1, 0, 0}, []int{0}},
		{"A}b=C", api.LeftToRight, []int{1, 1, 2, 1, 1}, []int{0}},
		{"a{B", api.Auto, []int{0, 0, 3}, []int{0}},
		{"a\nB\r\nc", api.Auto, []int{0, 0, 1, 1, 1, 0}, []int{0, 1, 0}},
		{"a\nB\r\nc", api.RightToLeft, []int{2, 1, 1, 1, 1, 2}, []int{1, 1, 1}},
		{"a>\nB", api.LeftToRight, []int{0, X, 0, 1}, []int{0, 0}},
		{"A\tb", api.Auto, []int{1, 1, 2}, []int{1}},
	} {
		rs := text(x.text)
		got, err := levels.Of(rs, x.d)
		if err != nil || !slices.Equal(got.Levels, x.want) || !slices.Equal(got.Bases, x.bases) {
			t.Errorf("%q, %v: %v, %v, %v", x.text, x.d, got.Levels, got.Bases, err)
		}
		if !slices.Equal(got.Classes, bidic.Of(rs)) || !slices.Equal(got.Paras, para.Split(rs, got.Classes)) {
			t.Errorf("%q: %v, %v", x.text, got.Classes, got.Paras)
		}
	}
}

// P18.2
func TestNoDirection(t *testing.T) {
	for _, s := range []string{"", "a\nb"} {
		for _, d := range []api.Direction{-1, 3, 1<<63 - 1} {
			got, err := levels.Of([]rune(s), d)
			var f *api.Fault
			if !reflect.DeepEqual(got, levels.Text{}) || !errors.Is(err, api.ErrDirection) || !errors.As(err, &f) || f.Where != "direction" || f.At != int(d) {
				t.Errorf("%q, %d: %v, %v", s, d, got, err)
			}
		}
	}
}

// P18.1
func TestParagraphOfOtherLengths(t *testing.T) {
	if got := levels.Paragraph([]rune("ab"), []bidic.Class{bidic.L}, 0); len(got) != 0 {
		t.Error(got)
	}
	if got := levels.Paragraph(nil, []bidic.Class{bidic.L}, 1); len(got) != 0 {
		t.Error(got)
	}
	if got := levels.Paragraph(nil, nil, 1); len(got) != 0 {
		t.Error(got)
	}
}

// P18.1: by the classes that are given, not by those of the runes.
func TestParagraphByClasses(t *testing.T) {
	const L, R, B, BN, ON = bidic.L, bidic.R, bidic.B, bidic.BN, bidic.ON
	for _, x := range []struct {
		text  string
		cs    []bidic.Class
		level int
		want  []int
	}{
		{"ab", []bidic.Class{R, L}, 0, []int{1, 0}},
		{"abc", []bidic.Class{R, B, R}, 0, []int{1, 0, 1}},
		{"abc", []bidic.Class{R, B, R}, 1, []int{1, 1, 1}},
		{"abc", []bidic.Class{bidic.RLO, L, B}, 0, []int{X, 1, 0}},
		{"abcd", []bidic.Class{bidic.LRO, R, B, R}, 1, []int{X, 2, 1, 2}},
		{"abc", []bidic.Class{R, BN, R}, 0, []int{1, X, 1}},
		{"(b)", []bidic.Class{ON, R, ON}, 0, []int{0, 1, 0}},
		{"((b", []bidic.Class{ON, R, R}, 1, []int{1, 1, 1}},
	} {
		if got := levels.Paragraph([]rune(x.text), x.cs, x.level); !slices.Equal(got, x.want) {
			t.Errorf("%q, %v, %d: %v", x.text, x.cs, x.level, got)
		}
	}
}

// paragraph is Paragraph as the promise says it.
func paragraph(rs []rune, cs []bidic.Class, level int) []int {
	first, classes := explicit.Resolve(cs, level)
	out := slices.Clone(first)
	for _, s := range seqs.Of(first, cs, level) {
		var runes []rune
		var own []bidic.Class
		for _, i := range s.Places {
			runes, own = append(runes, rs[i]), append(own, classes[i])
		}
		after := neutral.Brackets(runes, own, weak.Resolve(own, s.Sos), s.Level, s.Sos)
		after = neutral.Rest(after, s.Level, s.Sos, s.Eos)
		for k, i := range s.Places {
			out[i] = implicit.Level(after[k], s.Level)
			if cs[i] == bidic.B {
				out[i] = first[i]
			}
		}
	}
	return out
}

// P18.1, P18.2: many texts.
func TestMany(t *testing.T) {
	runes := []rune{'a', 'b', 0x5d0, 0x5d1, 0x627, '1', 0x661, '+', '$', ',', 0x301, 0xad, '\n', '\r', '\t', ' ', '!', '(', ')', '[', ']', 0x202a, 0x202b, 0x202c, 0x202d, 0x202e, 0x2066, 0x2067, 0x2068, 0x2069}
	seed := uint32(7)
	next := func(n int) int {
		seed = seed*1664525 + 1013904223
		return int(seed>>8) % n
	}
	for range 100000 {
		rs := make([]rune, next(20))
		for i := range rs {
			rs[i] = runes[next(len(runes))]
		}
		d := api.Direction(next(3))
		got, err := levels.Of(rs, d)
		if err != nil {
			t.Fatal(err)
		}
		cs := bidic.Of(rs)
		var want, bases []int
		for _, p := range para.Split(rs, cs) {
			level, _ := base.Level(cs[p.From:p.To], d)
			bases = append(bases, level)
			want = append(want, paragraph(rs[p.From:p.To], cs[p.From:p.To], level)...)
		}
		if !slices.Equal(got.Levels, want) || !slices.Equal(got.Bases, bases) {
			t.Fatalf("%q, %v: %v, %v, not %v, %v", string(rs), d, got.Levels, got.Bases, want, bases)
		}
	}
}

// W1: levels and classes that no paragraph has.
func TestOddArguments(t *testing.T) {
	rs := []rune("(a)b[c]d")
	for _, level := range []int{-1 << 63, -3, -2, -1, 2, 3, 124, 125, 126, 1<<63 - 1} {
		cs := []bidic.Class{bidic.RLE, bidic.EN, bidic.RLI, 200, bidic.PDI, bidic.ON, bidic.ON, 255}
		if got := levels.Paragraph(rs, cs, level); len(got) != len(rs) {
			t.Error(level, got)
		}
	}
}
