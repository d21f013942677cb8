package utf_test

import (
	"bytes"
	"slices"
	"testing"
	"unicode/utf8"

	"boustrophedon/utf"
)

// P1.1
func TestScalar(t *testing.T) {
	for _, x := range []struct {
		r    rune
		want bool
	}{{-1, false}, {-1 << 31, false}, {0, true}, {'a', true}, {0xd7ff, true}, {0xd800, false}, {0xdfff, false}, {0xe000, true}, {0x10ffff, true}, {0x110000, false}, {1<<31 - 1, false}} {
		if got := utf.Scalar(x.r); got != x.want {
			t.Errorf("Scalar(%x) = %v", x.r, got)
		}
	}
}

// P1.1
func TestPutEveryRune(t *testing.T) {
	for r := rune(-3); r < 0x110003; r++ {
		want := utf8.AppendRune(nil, r)
		if got := utf.Put(r); !bytes.Equal(got, want) {
			t.Fatalf("Put(%x) = %x, not %x", r, got, want)
		}
	}
}

// P1.1
func TestEncode(t *testing.T) {
	rs := []rune{'a', 0x7f, 0x80, 0x7ff, 0x800, 0xffff, 0x10000, 0x10ffff, 0xd800, -1, 0x110000}
	var want []byte
	for _, r := range rs {
		want = append(want, utf.Put(r)...)
	}
	if got := utf.Encode(rs); !bytes.Equal(got, want) {
		t.Errorf("%x", got)
	}
	if got := utf.Encode(nil); len(got) != 0 {
		t.Errorf("%x", got)
	}
}

// P1.2
func TestNextEdges(t *testing.T) {
	for _, x := range []struct {
		b  string
		at int
		r  rune
		n  int
	}{
		{"", 0, 0, 0}, {"a", -1, 0, 0}, {"a", 1, 0, 0}, {"a", -1 << 63, 0, 0}, {"a", 1<<63 - 1, 0, 0},
		{"\x00", 0, 0, 1}, {"a", 0, 'a', 1}, {"\xc3\xa9", 0, 0xe9, 2}, {"\xe2\x82\xac", 0, 0x20ac, 3}, {"\xf0\x9f\x98\x80x", 0, 0x1f600, 4},
		{"ab\xc3\xa9", 2, 0xe9, 2}, {"\xc3\xa9", 1, utf.Bad, 1},
		{"\xe2\x82A", 0, utf.Bad, 2}, {"\xe2\x82", 0, utf.Bad, 2}, {"\xe2", 0, utf.Bad, 1}, {"\xe2A", 0, utf.Bad, 1},
		{"\xf0\x80\x80\x80", 0, utf.Bad, 1}, {"\xed\xa0\x80", 0, utf.Bad, 1}, {"\xed\x9f\xbf", 0, 0xd7ff, 3}, {"\xee\x80\x80", 0, 0xe000, 3},
		{"\xf0\x9f\x98", 0, utf.Bad, 3}, {"\xf0\x9f\x98A", 0, utf.Bad, 3}, {"\xf0\x9f", 0, utf.Bad, 2}, {"\xf0\x8f\xbf\xbf", 0, utf.Bad, 1},
		{"\xc0\x80", 0, utf.Bad, 1}, {"\xc1\xbf", 0, utf.Bad, 1}, {"\xc2", 0, utf.Bad, 1}, {"\xc2\xc2", 0, utf.Bad, 1},
		{"\xe0\x9f\xbf", 0, utf.Bad, 1}, {"\xe0\xa0\x80", 0, 0x800, 3}, {"\xf4\x8f\xbf\xbf", 0, 0x10ffff, 4}, {"\xf4\x90\x80\x80", 0, utf.Bad, 1},
		{"\xf5\x80\x80\x80", 0, utf.Bad, 1}, {"\xff", 0, utf.Bad, 1}, {"\x80", 0, utf.Bad, 1}, {"\xef\xbf\xbd", 0, utf.Bad, 3},
	} {
		if r, n := utf.Next([]byte(x.b), x.at); r != x.r || n != x.n {
			t.Errorf("Next(%x, %d) = %x, %d", x.b, x.at, r, n)
		}
	}
}

// prefixes are all beginnings of encodings that are shorter than these.
func prefixes() map[string]bool {
	found := map[string]bool{}
	for r := rune(0); r <= utf8.MaxRune; r++ {
		b := string(utf8.AppendRune(nil, r))
		for i := 1; i < len(b); i++ {
			found[b[:i]] = true
		}
	}
	return found
}

// P1.2: against what the promise says, word by word.
func TestNextAllOfFourBytes(t *testing.T) {
	known := prefixes()
	edges := []byte{0, 'a', 0x7f, 0x80, 0x8f, 0x90, 0x9f, 0xa0, 0xbf, 0xc0, 0xc2, 0xe0, 0xff}
	for first := 0; first < 256; first++ {
		for _, second := range edges {
			for _, third := range edges {
				for _, fourth := range []byte{'a', 0x80, 0xbf, 0xc2} {
					b := []byte{byte(first), second, third, fourth}
					for n := 1; n <= 4; n++ {
						checkNext(t, known, b[:n])
					}
				}
			}
		}
	}
}

func checkNext(t *testing.T, known map[string]bool, b []byte) {
	t.Helper()
	wantRune, wantSize := utf8.DecodeRune(b)
	if wantRune == utf8.RuneError && wantSize == 1 {
		for i := 2; i <= 3 && i <= len(b); i++ {
			if known[string(b[:i])] {
				wantSize = i
			}
		}
	}
	if r, n := utf.Next(b, 0); r != wantRune || n != wantSize {
		t.Fatalf("Next(%x) = %x, %d, not %x, %d", b, r, n, wantRune, wantSize)
	}
}

// P1.3
func TestDecode(t *testing.T) {
	b := []byte{0x61, 0xc3, 0xa9, 0xff, 0xe2, 0x82, 0xac, 0xe2, 0x82}
	given := bytes.Clone(b)
	rs, at := utf.Decode(b)
	if !slices.Equal(rs, []rune{0x61, 0xe9, utf.Bad, 0x20ac, utf.Bad}) || !slices.Equal(at, []int{0, 1, 3, 4, 7}) {
		t.Errorf("%x %v", rs, at)
	}
	if !bytes.Equal(b, given) {
		t.Error("the text was changed")
	}
	if rs, at := utf.Decode(nil); len(rs) != 0 || len(at) != 0 {
		t.Error(rs, at)
	}
}

// P1.1, P1.3: what is encoded is decoded again.
func TestRoundTrip(t *testing.T) {
	var rs []rune
	for r := rune(0); r <= utf8.MaxRune; r++ {
		if utf.Scalar(r) {
			rs = append(rs, r)
		}
	}
	b := utf.Encode(rs)
	got, at := utf.Decode(b)
	if !slices.Equal(got, rs) || len(at) != len(rs) {
		t.Error("what was encoded is not decoded")
	}
	if !utf.Valid(b) {
		t.Error("what was encoded is not valid")
	}
}

// P1.3
func TestValid(t *testing.T) {
	for _, x := range []string{"", "a", "a\u00e9\u20ac\U0001F600", "\ufffd", "\x00", "\xc3", "\xff", "a\x80", "\xed\xa0\x80", "\xc0\x80", "\xf0\x9f\x98", "\xf4\x90\x80\x80", "\xef\xbf", "\xe0\x80\x80", "ok\xf0\x9f\x98"} {
		if got := utf.Valid([]byte(x)); got != utf8.ValidString(x) {
			t.Errorf("Valid(%x) = %v", x, got)
		}
	}
	if !utf.Valid(nil) {
		t.Error("nothing is valid")
	}
}
