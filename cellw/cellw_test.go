package cellw_test

import (
	"slices"
	"strconv"
	"strings"
	"testing"

	"boustrophedon/cellw"
	"boustrophedon/trie"
)

// The table as the document writes it.
const document = `
0000-001F 0; 007F-009F 0; 00AD 0; 0300-036F 0; 0483-0489 0; 0591-05BD 0; 05BF 0; 05C1-05C2 0; 05C4-05C5 0;
05C7 0; 0600-0605 0; 0610-061A 0; 061C 0; 064B-065F 0; 0670 0; 06D6-06DD 0; 06DF-06E4 0; 06E7-06E8 0;
06EA-06ED 0; 0711 0; 0730-074A 0; 07A6-07B0 0; 07EB-07F3 0; 08CA-0902 0; 093A 0; 093C 0; 0941-0948 0;
094D 0; 0E31 0; 0E34-0E3A 0; 0E47-0E4E 0; 1100-115F 2; 1160-11FF 0; 200B-200F 0; 2028-202E 0; 2060-206F 0;
20D0-20F0 0; 231A-231B 2; 2329-232A 2; 23F0 2; 23F3 2; 2614-2615 2; 2E80-2FFF 2; 3000-3029 2; 302A-302D 0;
302E-303E 2; 3041-3098 2; 3099-309A 0; 309B-33FF 2; 3400-4DBF 2; 4E00-A4CF 2; A960-A97F 2; AC00-D7A3 2; F900-FAFF 2;
FB1E 0; FE00-FE0F 0; FE10-FE19 2; FE20-FE2F 0; FE30-FE6F 2; FEFF 0; FF01-FF60 2; FFE0-FFE6 2; 1F1E6-1F1FF 1;
1F300-1F64F 2; 1F680-1F6FF 2; 1F900-1FAFF 2; 20000-3FFFD 2; E0001-E007F 0; E0100-E01EF 0
`

func number(t *testing.T, s string) rune {
	n, err := strconv.ParseInt(s, 16, 32)
	if err != nil {
		t.Fatal(err)
	}
	return rune(n)
}

// documented is the table that the document's words make.
func documented(t *testing.T) []trie.Range {
	var rs []trie.Range
	for _, entry := range strings.Split(document, ";") {
		words := strings.Fields(entry)
		lo, hi, isRange := strings.Cut(words[0], "-")
		if !isRange {
			hi = lo
		}
		rs = append(rs, trie.Range{Lo: number(t, lo), Hi: number(t, hi), Value: uint8(number(t, words[1]))})
	}
	return rs
}

// P7.1
func TestTable(t *testing.T) {
	if !slices.Equal(cellw.Table(), documented(t)) {
		t.Error("the table is not the document's")
	}
	if err := trie.Check(cellw.Table()); err != nil {
		t.Error(err)
	}
	cellw.Table()[0].Value = 1
	if cellw.Table()[0].Value == 1 {
		t.Error("a table that was handed out is kept")
	}
}

// P7.1
func TestOfEveryRune(t *testing.T) {
	known, err := trie.Build(documented(t), 1)
	if err != nil {
		t.Fatal(err)
	}
	var rs []rune
	for r := rune(-3); r < 0x110003; r++ {
		rs = append(rs, r)
	}
	ws := cellw.Of(rs)
	if len(ws) != len(rs) {
		t.Fatal(len(ws))
	}
	for i, r := range rs {
		if ws[i] != int(known.Get(r)) {
			t.Fatalf("%x takes %d cells", r, ws[i])
		}
	}
}

// P7.1
func TestOf(t *testing.T) {
	rs := []rune{'a', 0x300, 0x4e00, 9, 0x1f1e6, 0xd800, 0x10ffff, -1, -1 << 31, 0x110000, 1<<31 - 1}
	if got := cellw.Of(rs); !slices.Equal(got, []int{1, 0, 2, 0, 1, 1, 1, 0, 0, 0, 0}) {
		t.Error(got)
	}
	if got := cellw.Of(nil); len(got) != 0 {
		t.Error(got)
	}
}

// P7.1
func TestSum(t *testing.T) {
	for _, x := range []struct {
		ws   []int
		want int
	}{{nil, 0}, {[]int{3}, 3}, {[]int{1, 0, 2}, 3}, {[]int{5, -7}, -2}, {[]int{1<<63 - 1, 1}, -1 << 63}} {
		if got := cellw.Sum(x.ws); got != x.want {
			t.Error(x.ws, got)
		}
	}
}
