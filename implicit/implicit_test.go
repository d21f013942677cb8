package implicit_test

import (
	"testing"

	"boustrophedon/bidic"
	"boustrophedon/implicit"
)

// P17.1
func TestLevel(t *testing.T) {
	even := map[bidic.Class]int{bidic.R: 1, bidic.AN: 2, bidic.EN: 2}
	odd := map[bidic.Class]int{bidic.L: 1, bidic.AN: 1, bidic.EN: 1}
	for level := range 130 {
		for i := range 256 {
			c := bidic.Class(i)
			want := level + even[c]
			if level%2 == 1 {
				want = level + odd[c]
			}
			if got := implicit.Level(c, level); got != want {
				t.Fatal(c, level, got)
			}
		}
	}
}

// W5
func TestGreatestLevel(t *testing.T) {
	if got := implicit.Level(bidic.L, 1<<63-1); got != -1<<63 {
		t.Error(got)
	}
}
