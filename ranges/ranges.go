// Package ranges finds the value of a rune among ranges that rise: the tables of characters are asked by it.
//
// A trie answers faster, but takes a walk over all scalars to be built, and nothing is kept from call to call: for any but very long texts a search in the ranges themselves is less work.
package ranges

import (
	"boustrophedon/trie"
)

// Find is the value of the range that has a rune; other, if none has it.
func Find(rs []trie.Range, r rune, other uint8) uint8 {
	from, to := 0, len(rs)
	for from < to {
		middle := (from + to) / 2
		switch {
		case r < rs[middle].Lo:
			to = middle
		case r > rs[middle].Hi:
			from = middle + 1
		default:
			return rs[middle].Value
		}
	}
	return other
}
