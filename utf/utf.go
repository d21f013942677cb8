// Package utf reads and writes UTF-8: layer 1.
package utf

// Bad stands for what is no scalar.
const Bad = '\uFFFD'

// Scalar tells whether a rune is one.
func Scalar(r rune) bool {
	return 0 <= r && r < 0xd800 || 0xdfff < r && r <= 0x10ffff
}

// Next is the scalar at a place, and how many bytes are its: of bytes that are none Bad, for as many as might have begun one; 0 and 0, if there is no byte.
func Next(b []byte, at int) (rune, int) {
	r, n, _ := read(b, at)
	return r, n
}

// Decode is a text's scalars, and the byte at which each begins.
func Decode(b []byte) ([]rune, []int) {
	var rs []rune
	var starts []int
	for at := 0; at < len(b); {
		r, n := Next(b, at)
		rs = append(rs, r)
		starts = append(starts, at)
		at += n
	}
	return rs, starts
}

// Put is a scalar's bytes; Bad's, if it is none.
func Put(r rune) []byte {
	return write(nil, r)
}

// Encode is the bytes of scalars.
func Encode(rs []rune) []byte {
	var b []byte
	for _, r := range rs {
		b = write(b, r)
	}
	return b
}

// Valid tells whether a text has scalars alone.
func Valid(b []byte) bool {
	for at := 0; at < len(b); {
		_, n, ok := read(b, at)
		if !ok {
			return false
		}
		at += n
	}
	return true
}

// read is Next, and whether a scalar is encoded there: Bad alone does not say so, since it is a scalar too.
func read(b []byte, at int) (rune, int, bool) {
	if at < 0 || at >= len(b) {
		return 0, 0, false
	}
	size, lo, hi := lead(b[at])
	if size == 0 {
		return Bad, 1, false
	}
	if size == 1 {
		return rune(b[at]), 1, true
	}
	r := rune(b[at] & (0x7f >> size))
	for i := 1; i < size; i++ {
		if i >= len(b)-at || b[at+i] < lo || b[at+i] > hi {
			return Bad, i, false
		}
		r = r<<6 | rune(b[at+i]&0x3f)
		lo, hi = 0x80, 0xbf
	}
	return r, size, true
}

// lead is how many bytes a scalar has whose first one this is, and the least and the greatest second one; 0 bytes, if no scalar begins so. The bounds of the second byte keep out overlong forms, surrogates and what lies beyond 10FFFF.
func lead(b byte) (size int, lo, hi byte) {
	switch {
	case b < 0x80:
		return 1, 0, 0
	case b < 0xc2:
		return 0, 0, 0
	case b < 0xe0:
		return 2, 0x80, 0xbf
	case b == 0xe0:
		return 3, 0xa0, 0xbf
	case b == 0xed:
		return 3, 0x80, 0x9f
	case b < 0xf0:
		return 3, 0x80, 0xbf
	case b == 0xf0:
		return 4, 0x90, 0xbf
	case b < 0xf4:
		return 4, 0x80, 0xbf
	case b == 0xf4:
		return 4, 0x80, 0x8f
	}
	return 0, 0, 0
}

// write appends a scalar's bytes to a slice that this package made.
func write(b []byte, r rune) []byte {
	if !Scalar(r) {
		r = Bad
	}
	switch {
	case r < 0x80:
		return append(b, byte(r))
	case r < 0x800:
		return append(b, 0xc0|byte(r>>6), tail(r))
	case r < 0x10000:
		return append(b, 0xe0|byte(r>>12), tail(r>>6), tail(r))
	}
	return append(b, 0xf0|byte(r>>18), tail(r>>12), tail(r>>6), tail(r))
}

// tail is a byte behind the first one: the six lowest bits.
func tail(r rune) byte {
	return 0x80 | byte(r&0x3f)
}
