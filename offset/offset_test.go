package offset_test

import (
	"errors"
	"testing"

	"boustrophedon/api"
	"boustrophedon/offset"
	"boustrophedon/utf"
)

// fails tells whether an error is this one, at this place.
func fails(err error, n api.Errno, where string, at int) bool {
	var f *api.Fault
	return errors.Is(err, n) && errors.As(err, &f) && f.Where == where && f.At == at
}

var texts = []string{"", "a", "a\u00e9\xff", "\u20ac\u20ac", "\xe2\x82A\xf0\x9f\x98", "\U0001F600x\xed\xa0\x80", "\x80\x80"}

// P2.1
func TestBytes(t *testing.T) {
	for _, s := range texts {
		b := []byte(s)
		x := offset.Of(b)
		_, starts := utf.Decode(b)
		if x.Count() != len(starts) || x.Size() != len(b) {
			t.Errorf("%x: %d scalars, %d bytes", s, x.Count(), x.Size())
		}
		for i, start := range append(starts, len(b)) {
			if got, err := x.Byte(i); got != start || err != nil {
				t.Errorf("%x: Byte(%d) = %d, %v", s, i, got, err)
			}
		}
		for _, i := range []int{-1, -1 << 63, x.Count() + 1, 1<<63 - 1} {
			if got, err := x.Byte(i); got != 0 || !fails(err, api.ErrIndex, "scalar", i) {
				t.Errorf("%x: Byte(%d) = %d, %v", s, i, got, err)
			}
		}
	}
}

// P2.1
func TestTextIsNotKept(t *testing.T) {
	b := []byte("\u00e9a")
	x := offset.Of(b)
	b[0], b[1] = 'x', 'y'
	if at, _ := x.Byte(1); x.Count() != 2 || at != 2 {
		t.Error(x.Count(), at)
	}
}

// P2.2
func TestScalars(t *testing.T) {
	for _, s := range texts {
		b := []byte(s)
		x := offset.Of(b)
		scalar := 0
		for at := range b {
			if next, _ := x.Byte(scalar + 1); at == next {
				scalar++
			}
			if got, err := x.Scalar(at); got != scalar || err != nil {
				t.Errorf("%x: Scalar(%d) = %d, %v", s, at, got, err)
			}
		}
		if got, err := x.Scalar(len(b)); got != x.Count() || err != nil {
			t.Errorf("%x: the end is %d, %v", s, got, err)
		}
		for _, at := range []int{-1, -1 << 63, len(b) + 1, 1<<63 - 1} {
			if got, err := x.Scalar(at); got != 0 || !fails(err, api.ErrIndex, "byte", at) {
				t.Errorf("%x: Scalar(%d) = %d, %v", s, at, got, err)
			}
		}
	}
}

// P2.2
func TestSpan(t *testing.T) {
	x := offset.Of([]byte("a\u00e9\xff"))
	for _, c := range []struct{ from, to, first, last int }{{0, 0, 0, 0}, {0, 3, 0, 4}, {1, 2, 1, 3}, {2, 3, 3, 4}, {3, 3, 4, 4}} {
		if first, last, err := x.Span(c.from, c.to); first != c.first || last != c.last || err != nil {
			t.Errorf("Span(%d, %d) = %d, %d, %v", c.from, c.to, first, last, err)
		}
	}
	for _, c := range []struct {
		from, to int
		n        api.Errno
		at       int
	}{{-1, 2, api.ErrIndex, -1}, {-1, 9, api.ErrIndex, -1}, {4, -1, api.ErrIndex, 4}, {2, 4, api.ErrIndex, 4}, {2, -3, api.ErrIndex, -3}, {2, 1, api.ErrOrder, 1}, {3, 0, api.ErrOrder, 0}} {
		if first, last, err := x.Span(c.from, c.to); first != 0 || last != 0 || !fails(err, c.n, "scalar", c.at) {
			t.Errorf("Span(%d, %d) = %d, %d, %v", c.from, c.to, first, last, err)
		}
	}
}

// P2.1, P2.2: an Index that Of did not make is that of no bytes.
func TestEmptyIndex(t *testing.T) {
	var x offset.Index
	if _, err := x.Byte(0); x.Count() != 0 || x.Size() != 0 || err != nil {
		t.Error(x.Count(), x.Size(), err)
	}
	if _, err := x.Scalar(1); !fails(err, api.ErrIndex, "byte", 1) {
		t.Error(err)
	}
}
