package mirror_test

import (
	"slices"
	"strconv"
	"strings"
	"testing"

	"boustrophedon/mirror"
)

// The pairs, and the left glyphs of those that are no brackets, as the document writes them.
const (
	document = "28 29; 3C 3E; 5B 5D; 7B 7D; AB BB; 2039 203A; 2045 2046; 207D 207E; 208D 208E; 2208 220B; 2209 220C; 2264 2265; 2266 2267; 226A 226B; 2282 2283; 2286 2287; 2308 2309; 230A 230B; 2329 232A; 27E6 27E7; 27E8 27E9; 27EA 27EB; 2983 2984; 3008 3009; 300A 300B; 300C 300D; 300E 300F; 3010 3011; 3014 3015; 3016 3017; FF08 FF09; FF1C FF1E; FF3B FF3D; FF5B FF5D; FF62 FF63"
	others   = "3C AB 2039 2208 2209 2264 2266 226A 2282 2286 FF1C"
)

func number(t *testing.T, s string) rune {
	n, err := strconv.ParseInt(s, 16, 32)
	if err != nil {
		t.Fatal(err)
	}
	return rune(n)
}

func documented(t *testing.T) []mirror.Pair {
	var ps []mirror.Pair
	for _, entry := range strings.Split(document, ";") {
		words := strings.Fields(entry)
		ps = append(ps, mirror.Pair{Left: number(t, words[0]), Right: number(t, words[1])})
	}
	return ps
}

// P5.1
func TestPairs(t *testing.T) {
	if !slices.Equal(mirror.Pairs(), documented(t)) {
		t.Error(mirror.Pairs())
	}
	mirror.Pairs()[0].Left = 'x'
	if mirror.Pairs()[0].Left == 'x' {
		t.Error("pairs that were handed out are kept")
	}
}

// P5.1
func TestOfEveryRune(t *testing.T) {
	other := map[rune]rune{}
	for _, p := range documented(t) {
		other[p.Left], other[p.Right] = p.Right, p.Left
	}
	for r := rune(-2); r < 0x110002; r++ {
		want, found := other[r]
		if !found {
			want = r
		}
		if got, ok := mirror.Of(r); got != want || ok != found {
			t.Fatalf("Of(%x) = %x, %v", r, got, ok)
		}
	}
	for _, r := range []rune{-1 << 31, 1<<31 - 1} {
		if got, ok := mirror.Of(r); got != r || ok {
			t.Errorf("Of(%x) = %x, %v", r, got, ok)
		}
	}
}

// P5.2
func TestBracketEveryRune(t *testing.T) {
	type answer struct {
		side  mirror.Side
		known rune
	}
	want := map[rune]answer{}
	for _, p := range documented(t) {
		if slices.Contains(strings.Fields(others), strings.ToUpper(strconv.FormatInt(int64(p.Left), 16))) {
			continue
		}
		known := p.Left
		if known == 0x2329 {
			known = 0x3008
		}
		want[p.Left], want[p.Right] = answer{mirror.Open, known}, answer{mirror.Close, known}
	}
	if len(want) != 2*(len(documented(t))-11) {
		t.Fatal(len(want))
	}
	for r := rune(-2); r < 0x110002; r++ {
		if side, known := mirror.Bracket(r); (answer{side, known}) != want[r] {
			t.Fatalf("Bracket(%x) = %d, %x", r, side, known)
		}
	}
}

// P5.2
func TestBracketExamples(t *testing.T) {
	for _, x := range []struct {
		r     rune
		side  mirror.Side
		known rune
	}{{']', mirror.Close, '['}, {'[', mirror.Open, '['}, {0x232a, mirror.Close, 0x3008}, {0x2329, mirror.Open, 0x3008}, {0x3008, mirror.Open, 0x3008}, {0x3009, mirror.Close, 0x3008}, {'<', mirror.Neither, 0}, {0xbb, mirror.Neither, 0}, {'a', mirror.Neither, 0}, {-1, mirror.Neither, 0}, {0, mirror.Neither, 0}} {
		if side, known := mirror.Bracket(x.r); side != x.side || known != x.known {
			t.Errorf("Bracket(%x) = %d, %x", x.r, side, known)
		}
	}
	if mirror.Neither != 0 || mirror.Open != 1 || mirror.Close != 2 {
		t.Error("the sides have other numbers")
	}
}
