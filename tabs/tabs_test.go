package tabs_test

import (
	"errors"
	"slices"
	"testing"

	"boustrophedon/api"
	"boustrophedon/tabs"
)

const most = 1<<63 - 1

// P33.1, P33.2
func TestOf(t *testing.T) {
	for _, x := range []struct {
		glyphs string
		widths []int
		stop   int
		want   []int
		stops  []int
	}{
		{"", nil, 1, nil, nil},
		{"ab", []int{1, 2}, 4, []int{1, 2}, nil},
		{"a\tb\t", []int{1, 0, 1, 0}, 4, []int{1, 3, 1, 3}, []int{4, 8}},
		{"\t\t", []int{0, 0}, 8, []int{8, 8}, []int{8, 16}},
		{"abcd\tx", []int{1, 1, 1, 1, 0, 1}, 4, []int{1, 1, 1, 1, 4, 1}, []int{8}},
		{"a\t\t", []int{1, 9, 7}, 1, []int{1, 1, 1}, []int{2, 3}},
		{"\u4e00\u0301\tb", []int{2, 0, 0, 1}, 3, []int{2, 0, 1, 1}, []int{3}},
		{"a\t", []int{5, 5}, 3, []int{5, 1}, []int{6}},
		{"\t", []int{0}, most, []int{most}, []int{most}},
		{"a\t", []int{1, 0}, most, []int{1, most - 1}, []int{most}},
		{" \v", []int{1, 0}, 4, []int{1, 0}, nil},
		// sums that wrap round
		{"ab\t", []int{most, 1, 0}, 8, []int{most, 1, 8}, []int{-1<<63 + 8}},
		{"ab\t", []int{most, 3, 0}, 8, []int{most, 3, 6}, []int{-1<<63 + 8}},
	} {
		given := slices.Clone(x.widths)
		got, err := tabs.Of([]rune(x.glyphs), x.widths, x.stop)
		if err != nil || !slices.Equal(got, x.want) {
			t.Errorf("%q, %v, %d: %v, %v", x.glyphs, x.widths, x.stop, got, err)
		}
		stops, err := tabs.Stops([]rune(x.glyphs), x.widths, x.stop)
		if err != nil || !slices.Equal(stops, x.stops) {
			t.Errorf("%q, %v, %d: stops %v, %v", x.glyphs, x.widths, x.stop, stops, err)
		}
		if !slices.Equal(given, x.widths) {
			t.Errorf("%v were changed", given)
		}
	}
	if tabs.Tab != 9 {
		t.Error(tabs.Tab)
	}
}

// P33.1, P33.2
func TestErrors(t *testing.T) {
	for _, x := range []struct {
		glyphs string
		widths int
		stop   int
		n      api.Errno
		where  string
		at     int
	}{
		{"a", 1, 0, api.ErrWidth, "stop", 0},
		{"a", 2, -4, api.ErrWidth, "stop", -4},
		{"", 0, -1 << 63, api.ErrWidth, "stop", -1 << 63},
		{"ab", 1, 4, api.ErrIndex, "glyph", 2},
		{"", 1, 4, api.ErrIndex, "glyph", 0},
	} {
		for _, f := range []func([]rune, []int, int) ([]int, error){tabs.Of, tabs.Stops} {
			got, err := f([]rune(x.glyphs), make([]int, x.widths), x.stop)
			var fault *api.Fault
			if len(got) != 0 || !errors.Is(err, x.n) || !errors.As(err, &fault) || fault.Where != x.where || fault.At != x.at {
				t.Errorf("%v: %v, %v", x, got, err)
			}
		}
	}
}

// P33.1: the least number of cells that leads to a stop, in every line of up to five.
func TestAll(t *testing.T) {
	for code := range 1 << 10 {
		glyphs, widths := []rune("abcde"), make([]int, 5)
		for i := range widths {
			widths[i] = code >> (2 * i) & 3
			if widths[i] == 3 {
				glyphs[i] = tabs.Tab
			}
		}
		for stop := 1; stop < 7; stop++ {
			got, err := tabs.Of(glyphs, widths, stop)
			if err != nil {
				t.Fatal(err)
			}
			cell := 0
			var stops []int
			for i, g := range glyphs {
				want := widths[i]
				if g == tabs.Tab {
					want = 1
					for (cell+want)%stop != 0 {
						want++
					}
					stops = append(stops, cell+want)
				}
				if got[i] != want {
					t.Fatalf("%q, %v, %d: %v", string(glyphs), widths, stop, got)
				}
				cell += want
			}
			if got, _ := tabs.Stops(glyphs, widths, stop); !slices.Equal(got, stops) {
				t.Fatalf("%q, %v, %d: %v", string(glyphs), widths, stop, got)
			}
		}
	}
}
