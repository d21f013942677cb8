package linebreak_test

import (
	"slices"
	"testing"

	"boustrophedon/cellw"
	"boustrophedon/lbone"
	"boustrophedon/lbrule"
	"boustrophedon/linebreak"
	"boustrophedon/linec"
)

const (
	no   = lbrule.Prohibited
	may  = lbrule.Allowed
	must = lbrule.Mandatory
)

// P21.1
func TestOf(t *testing.T) {
	for _, x := range []struct {
		text string
		want []lbrule.Status
	}{
		{"", []lbrule.Status{no}},
		{"a", []lbrule.Status{no, must}},
		{"a b", []lbrule.Status{no, no, may, must}},
		{"a\u0301 \u0301b", []lbrule.Status{no, no, no, may, no, must}},
		{"a\r\nb", []lbrule.Status{no, no, no, must, must}},
		{"\n", []lbrule.Status{no, must}},
		{"\u4e00\u3041\u4e00\u3002", []lbrule.Status{no, no, may, no, must}},
		{"\U0001F468\u200d\U0001F469\U0001F469", []lbrule.Status{no, no, no, may, must}},
		{"\u0e01\u0e34\u4e00", []lbrule.Status{no, no, may, must}},
		{" \u0e34\u4e00", []lbrule.Status{no, may, may, must}},
		{"$(12.35%) x", []lbrule.Status{no, no, no, no, no, no, no, no, no, no, may, must}},
		{"\u05d0-\u05d1", []lbrule.Status{no, no, no, must}},
		{"\uac00\u11a8\uac01", []lbrule.Status{no, no, may, must}},
	} {
		if got := linebreak.Of([]rune(x.text)); !slices.Equal(got, x.want) {
			t.Errorf("%q: %v", x.text, got)
		}
	}
	if got := linebreak.Of([]rune{-1, 1 << 30, 0xd800}); !slices.Equal(got, []lbrule.Status{no, no, no, must}) {
		t.Error(got)
	}
}

// P21.1: many texts. A marks' width is asked where its class is SA.
func TestMany(t *testing.T) {
	runes := []rune{'a', '1', ' ', '-', '(', ')', '$', '\n', '\r', 0x301, 0x200d, 0x200b, 0x4e00, 0xe01, 0xe34, 0x1f1e6, 0xac00, 0x11a8}
	seed := uint32(5)
	next := func(n int) int {
		seed = seed*1664525 + 1013904223
		return int(seed>>8) % n
	}
	for range 50000 {
		rs := make([]rune, 1+next(12))
		for i := range rs {
			rs[i] = runes[next(len(runes))]
		}
		us := lbone.Units(linec.Of(rs), cellw.Of(rs))
		want := make([]lbrule.Status, len(rs), len(rs)+1)
		for k, s := range lbrule.Between(us) {
			want[us[k].From] = s
		}
		want = append(want, must)
		if got := linebreak.Of(rs); !slices.Equal(got, want) {
			t.Fatalf("%q: %v, not %v", string(rs), got, want)
		}
	}
}
