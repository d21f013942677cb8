package bidic_test

import (
	"slices"
	"strconv"
	"strings"
	"testing"

	"boustrophedon/bidic"
	"boustrophedon/trie"
)

// The table as the document writes it.
const document = `
0000-0008 BN; 0009 S; 000A B; 000B S; 000C WS; 000D B; 000E-001B BN; 001C-001E B; 001F S;
0020 WS; 0021-0022 ON; 0023-0025 ET; 0026-002A ON; 002B ES; 002C CS; 002D ES; 002E-002F CS; 0030-0039 EN;
003A CS; 003B-0040 ON; 005B-0060 ON; 007B-007E ON; 007F-0084 BN; 0085 B; 0086-009F BN; 00A0 CS; 00A1 ON;
00A2-00A5 ET; 00A6-00A9 ON; 00AB-00AC ON; 00AD BN; 00AE-00AF ON; 00B0-00B1 ET; 00B2-00B3 EN; 00B4 ON; 00B6-00B8 ON;
00B9 EN; 00BB-00BF ON; 00D7 ON; 00F7 ON; 0300-036F NSM; 0483-0489 NSM; 0590 R; 0591-05BD NSM; 05BE R;
05BF NSM; 05C0 R; 05C1-05C2 NSM; 05C3 R; 05C4-05C5 NSM; 05C6 R; 05C7 NSM; 05C8-05FF R; 0600-0605 AN;
0606-0607 ON; 0608 AL; 0609-060A ET; 060B AL; 060C CS; 060D AL; 060E-060F ON; 0610-061A NSM; 061B-064A AL;
064B-065F NSM; 0660-0669 AN; 066A ET; 066B-066C AN; 066D-066F AL; 0670 NSM; 0671-06D5 AL; 06D6-06DC NSM; 06DD AN;
06DE ON; 06DF-06E4 NSM; 06E5-06E6 AL; 06E7-06E8 NSM; 06E9 ON; 06EA-06ED NSM; 06EE-06EF AL; 06F0-06F9 EN; 06FA-0710 AL;
0711 NSM; 0712-072F AL; 0730-074A NSM; 074B-07A5 AL; 07A6-07B0 NSM; 07B1-07BF AL; 07C0-07EA R; 07EB-07F3 NSM; 07F4-07F5 R;
07F6-07F9 ON; 07FA-085F R; 0860-08C9 AL; 08CA-08E1 NSM; 08E2 AN; 08E3-0902 NSM; 093C NSM; 0941-0948 NSM; 094D NSM;
0E31 NSM; 0E34-0E3A NSM; 0E3F ET; 0E47-0E4E NSM; 2000-200A WS; 200B-200D BN; 200F R; 2010-2027 ON; 2028 WS;
2029 B; 202A LRE; 202B RLE; 202C PDF; 202D LRO; 202E RLO; 202F CS; 2030-2034 ET; 2035-2043 ON;
2044 CS; 2045-205E ON; 205F WS; 2060-2065 BN; 2066 LRI; 2067 RLI; 2068 FSI; 2069 PDI; 206A-206F BN;
2070 EN; 2074-2079 EN; 207A-207B ES; 207C-207E ON; 2080-2089 EN; 208A-208B ES; 208C-208E ON; 20A0-20CF ET; 20D0-20F0 NSM;
2190-2211 ON; 2212 ES; 2213 ET; 2214-2335 ON; 237B-2394 ON; 2460-2487 ON; 2488-249B EN; 2500-27FF ON; 2900-2BFF ON;
3000 WS; 3001-3004 ON; 3008-3020 ON; 302A-302D NSM; 3030 ON; FB1D R; FB1E NSM; FB1F-FB28 R; FB29 ES;
FB2A-FB4F R; FB50-FDCF AL; FDD0-FDEF BN; FDF0-FDFF AL; FE00-FE0F NSM; FE20-FE2F NSM; FE50 CS; FE52 CS; FE55 CS;
FE59-FE5E ON; FE70-FEFE AL; FEFF BN; FF01-FF02 ON; FF03-FF05 ET; FF06-FF0A ON; FF0B ES; FF0C CS; FF0D ES;
FF0E-FF0F CS; FF10-FF19 EN; FF1A CS; FF1B-FF20 ON; FF3B-FF40 ON; FF5B-FF65 ON; 10800-10FFF R; 1D7CE-1D7FF EN; 1E800-1E8CF R;
1E8D0-1E8D6 NSM; 1E8D7-1EC6F R; 1EC70-1EEFF AL; 1EF00-1EFFF R; 1F300-1FAFF ON; E0000-E00FF BN; E0100-E01EF NSM; E01F0-E0FFF BN
`

const names = "L R AL EN ES ET AN CS NSM BN B S WS ON LRE LRO RLE RLO PDF LRI RLI FSI PDI"

func number(t *testing.T, s string) rune {
	n, err := strconv.ParseInt(s, 16, 32)
	if err != nil {
		t.Fatal(err)
	}
	return rune(n)
}

// documented is the table that the document's words make.
func documented(t *testing.T) []trie.Range {
	var rs []trie.Range
	for _, entry := range strings.Split(document, ";") {
		words := strings.Fields(entry)
		lo, hi, isRange := strings.Cut(words[0], "-")
		if !isRange {
			hi = lo
		}
		class := slices.Index(strings.Fields(names), words[1])
		if class < 0 {
			t.Fatal(entry)
		}
		rs = append(rs, trie.Range{Lo: number(t, lo), Hi: number(t, hi), Value: uint8(class)})
	}
	return rs
}

// P4.1
func TestTable(t *testing.T) {
	if !slices.Equal(bidic.Table(), documented(t)) {
		t.Error("the table is not the document's")
	}
	if err := trie.Check(bidic.Table()); err != nil {
		t.Error(err)
	}
	bidic.Table()[0].Value = 1
	if bidic.Table()[0].Value == 1 {
		t.Error("a table that was handed out is kept")
	}
}

// P4.1
func TestOfEveryRune(t *testing.T) {
	known, err := trie.Build(documented(t), 0)
	if err != nil {
		t.Fatal(err)
	}
	var rs []rune
	for r := rune(-3); r < 0x110003; r++ {
		rs = append(rs, r)
	}
	cs := bidic.Of(rs)
	if len(cs) != len(rs) {
		t.Fatal(len(cs))
	}
	for i, r := range rs {
		if cs[i] != bidic.Class(known.Get(r)) {
			t.Fatalf("%x is of class %d", r, cs[i])
		}
	}
}

// P4.1
func TestOf(t *testing.T) {
	rs := []rune{'a', 0x5d0, 0x661, '1', 0x2067, -1, -1 << 31, 0x110000, 1<<31 - 1, 0xd800}
	want := []bidic.Class{bidic.L, bidic.R, bidic.AN, bidic.EN, bidic.RLI, bidic.L, bidic.L, bidic.L, bidic.L, bidic.L}
	if got := bidic.Of(rs); !slices.Equal(got, want) {
		t.Error(got)
	}
	if got := bidic.Of(nil); len(got) != 0 {
		t.Error(got)
	}
}

// P4.2
func TestGroups(t *testing.T) {
	for i := range 256 {
		c := bidic.Class(i)
		strong := c == 0 || c == 1 || c == 2
		isolate := c == 19 || c == 20 || c == 21
		embedding := 14 <= c && c <= 17
		taken := embedding || c == 18 || c == 9
		if bidic.Strong(c) != strong || bidic.Isolate(c) != isolate || bidic.Embedding(c) != embedding || bidic.Taken(c) != taken {
			t.Error(c, bidic.Strong(c), bidic.Isolate(c), bidic.Embedding(c), bidic.Taken(c))
		}
	}
}

// P4.2: the numbers that the groups are asked by above.
func TestNumbers(t *testing.T) {
	all := []bidic.Class{bidic.L, bidic.R, bidic.AL, bidic.EN, bidic.ES, bidic.ET, bidic.AN, bidic.CS, bidic.NSM, bidic.BN, bidic.B, bidic.S, bidic.WS, bidic.ON, bidic.LRE, bidic.LRO, bidic.RLE, bidic.RLO, bidic.PDF, bidic.LRI, bidic.RLI, bidic.FSI, bidic.PDI}
	for i, c := range all {
		if int(c) != i {
			t.Error(i, c)
		}
	}
	if len(all) != len(strings.Fields(names)) {
		t.Error(len(all))
	}
}
