package trie_test

import (
	"errors"
	"slices"
	"testing"

	"boustrophedon/api"
	"boustrophedon/trie"
)

func fails(err error, n api.Errno, where string, at int) bool {
	var f *api.Fault
	return errors.Is(err, n) && errors.As(err, &f) && f.Where == where && f.At == at
}

// P3.1
func TestCheck(t *testing.T) {
	for _, x := range []struct {
		rs []trie.Range
		n  api.Errno
		at int
	}{
		{nil, 0, 0},
		{[]trie.Range{{0, 0, 1}}, 0, 0},
		{[]trie.Range{{0, 0x10ffff, 1}}, 0, 0},
		{[]trie.Range{{1, 5, 1}, {6, 6, 1}, {0x10ffff, 0x10ffff, 2}}, 0, 0},
		{[]trie.Range{{5, 4, 1}}, api.ErrRange, 0},
		{[]trie.Range{{-1, 4, 1}}, api.ErrRange, 0},
		{[]trie.Range{{0, 0x110000, 1}}, api.ErrRange, 0},
		{[]trie.Range{{1, 5, 1}, {5, 6, 1}}, api.ErrOrder, 1},
		{[]trie.Range{{1, 5, 1}, {2, 3, 1}}, api.ErrOrder, 1},
		{[]trie.Range{{1, 5, 1}, {0, 0, 1}}, api.ErrOrder, 1},
		{[]trie.Range{{1, 5, 1}, {3, 2, 1}}, api.ErrRange, 1},
		{[]trie.Range{{1, 5, 1}, {8, 9, 1}, {9, 9, 1}, {7, 6, 1}}, api.ErrOrder, 2},
		{[]trie.Range{{1, 5, 1}, {8, 7, 1}, {0, 0, 1}}, api.ErrRange, 1},
		{[]trie.Range{{-5, -4, 1}}, api.ErrRange, 0},
		{[]trie.Range{{-1 << 31, 1<<31 - 1, 1}}, api.ErrRange, 0},
	} {
		given := slices.Clone(x.rs)
		err := trie.Check(x.rs)
		built, buildErr := trie.Build(x.rs, 7)
		if x.n == 0 {
			if err != nil || buildErr != nil || built == nil {
				t.Errorf("%x: %v, %v", x.rs, err, buildErr)
			}
		} else if !fails(err, x.n, "range", x.at) || !fails(buildErr, x.n, "range", x.at) || built != nil {
			t.Errorf("%x: %v, %v", x.rs, err, buildErr)
		}
		if !slices.Equal(x.rs, given) {
			t.Errorf("%x was changed", given)
		}
	}
}

// sought is a rune's value as the promise says it.
func sought(rs []trie.Range, other uint8, r rune) uint8 {
	if r < 0 || r > 0x10ffff {
		return 0
	}
	for _, x := range rs {
		if x.Lo <= r && r <= x.Hi {
			return x.Value
		}
	}
	return other
}

var tables = [][]trie.Range{
	nil,
	{{0x41, 0x5a, 1}},
	{{0, 0, 3}, {127, 128, 4}, {0x10ffff, 0x10ffff, 5}},
	{{0, 0x10ffff, 9}},
	{{0x80, 0xff, 1}, {0x180, 0x1ff, 1}, {0x280, 0x2ff, 2}, {0x300, 0x300, 0}},
	{{1, 2, 255}, {0x1001, 0x1002, 255}, {0x2001, 0x2002, 254}},
}

// P3.2
func TestGetEveryRune(t *testing.T) {
	for _, rs := range tables {
		for _, other := range []uint8{0, 1, 255} {
			x, err := trie.Build(rs, other)
			if err != nil {
				t.Fatal(err)
			}
			for r := rune(-2); r < 0x110002; r++ {
				if got := x.Get(r); got != sought(rs, other, r) {
					t.Fatalf("%x: Get(%x) = %d", rs, r, got)
				}
			}
			for _, r := range []rune{-1 << 31, 1<<31 - 1} {
				if got := x.Get(r); got != 0 {
					t.Fatalf("%x: Get(%x) = %d", rs, r, got)
				}
			}
		}
	}
}

// P3.3
func TestPages(t *testing.T) {
	for _, rs := range tables {
		for _, other := range []uint8{0, 1, 9} {
			x, err := trie.Build(rs, other)
			if err != nil {
				t.Fatal(err)
			}
			pages := map[[128]uint8]bool{}
			for at := rune(0); at < 0x110000; at += 128 {
				var page [128]uint8
				for i := range page {
					page[i] = sought(rs, other, at+rune(i))
				}
				pages[page] = true
			}
			if x.Pages() != len(pages) {
				t.Errorf("%x, %d: %d pages, not %d", rs, other, x.Pages(), len(pages))
			}
		}
	}
}

// P3.3
func TestPagesOfTheExample(t *testing.T) {
	x, _ := trie.Build([]trie.Range{{0x41, 0x5a, 1}}, 0)
	if x.Pages() != 2 || x.Get(0x42) != 1 || x.Get(0x5b) != 0 {
		t.Error(x.Pages(), x.Get(0x42), x.Get(0x5b))
	}
	if same, _ := trie.Build([]trie.Range{{0x41, 0x5a, 0}}, 0); same.Pages() != 1 {
		t.Error(same.Pages())
	}
}

// P3.3: as many different pages as there can be.
func TestManyPages(t *testing.T) {
	var rs []trie.Range
	for i := range rune(0x110000 / 128) {
		rs = append(rs, trie.Range{Lo: i * 128, Hi: i * 128, Value: uint8(i)}, trie.Range{Lo: i*128 + 1, Hi: i*128 + 1, Value: uint8(i >> 8)})
	}
	x, err := trie.Build(rs, 77)
	if err != nil || x.Pages() != 0x110000/128 || x.Get(0x10ff80) != uint8(0x21ff&0xff) || x.Get(0x10ff81) != 0x21 || x.Get(0x10ff82) != 77 {
		t.Error(err, x.Pages())
	}
}

// P3.2: a Trie that Build did not make has no values.
func TestEmptyTrie(t *testing.T) {
	var x trie.Trie
	if x.Get('a') != 0 || x.Get(-1) != 0 || x.Get(1<<31-1) != 0 {
		t.Error("an empty trie has values")
	}
}
