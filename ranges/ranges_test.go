package ranges_test

import (
	"testing"

	"boustrophedon/ranges"
	"boustrophedon/trie"
)

// What is found is what a trie of the same ranges has.
func TestFind(t *testing.T) {
	for _, rs := range [][]trie.Range{nil, {{Lo: 3, Hi: 3, Value: 1}}, {{Lo: 0, Hi: 4, Value: 1}, {Lo: 5, Hi: 9, Value: 2}}, {{Lo: 2, Hi: 4, Value: 1}, {Lo: 6, Hi: 6, Value: 2}, {Lo: 90, Hi: 0x10ffff, Value: 0}}} {
		x, err := trie.Build(rs, 7)
		if err != nil {
			t.Fatal(err)
		}
		for r := range rune(0x110000) {
			if got := ranges.Find(rs, r, 7); got != x.Get(r) {
				t.Fatalf("%v: Find(%x) = %d", rs, r, got)
			}
		}
		for _, r := range []rune{-1, -1 << 31, 0x110000, 1<<31 - 1} {
			if got := ranges.Find(rs, r, 7); got != 7 {
				t.Fatalf("%v: Find(%x) = %d", rs, r, got)
			}
		}
	}
}
