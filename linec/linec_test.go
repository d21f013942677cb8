package linec_test

import (
	"slices"
	"strconv"
	"strings"
	"testing"

	"boustrophedon/linec"
	"boustrophedon/trie"
)

// The table as the document writes it.
const document = `
0000-0008 CM; 0009 BA; 000A LF; 000B-000C BK; 000D CR; 000E-001F CM; 0020 SP; 0021 EX; 0022 QU;
0023 AL; 0024 PR; 0025 PO; 0026 AL; 0027 QU; 0028 OP; 0029 CP; 002A AL; 002B PR;
002C IS; 002D HY; 002E IS; 002F SY; 0030-0039 NU; 003A-003B IS; 003C-003E AL; 003F EX; 0040-005A AL;
005B OP; 005C PR; 005D CP; 005E-007A AL; 007B OP; 007C BA; 007D CL; 007E AL; 007F-0084 CM;
0085 NL; 0086-009F CM; 00A0 GL; 00A1 OP; 00A2 PO; 00A3-00A5 PR; 00A6 AL; 00A7-00A8 AI; 00A9 AL;
00AA AI; 00AB QU; 00AC AL; 00AD BA; 00AE-00AF AL; 00B0 PO; 00B1 PR; 00B2-00B3 AI; 00B4 BB;
00B5 AL; 00B6-00BA AI; 00BB QU; 00BC-00BE AI; 00BF OP; 00C0-00D6 AL; 00D7 AI; 00D8-00F6 AL; 00F7 AI;
00F8-02C6 AL; 02C8 BB; 02CC BB; 02DF BB; 0300-034E CM; 034F GL; 0350-035B CM; 035C-0362 GL; 0363-036F CM;
0370-0482 AL; 0483-0489 CM; 048A-0588 AL; 0589 IS; 058A BA; 0591-05BD CM; 05BE BA; 05BF CM; 05C1-05C2 CM;
05C4-05C5 CM; 05C6 EX; 05C7 CM; 05D0-05F2 HL; 0600-0608 AL; 0609-060B PO; 060C-060D IS; 060E-060F AL; 0610-061A CM;
061B EX; 061C CM; 061D-061F EX; 0620-064A AL; 064B-065F CM; 0660-0669 NU; 066A PO; 066B-066C NU; 066D-066F AL;
0670 CM; 0671-06D3 AL; 06D4 EX; 06D5 AL; 06D6-06DC CM; 06DD NU; 06DE AL; 06DF-06E4 CM; 06E5-06E6 AL;
06E7-06E8 CM; 06E9 AL; 06EA-06ED CM; 06EE-06EF AL; 06F0-06F9 NU; 06FA-0710 AL; 0711 CM; 0712-072F AL; 0730-074A CM;
074B-07A5 AL; 07A6-07B0 CM; 0900-0903 CM; 0904-0939 AL; 093A-093C CM; 093D AL; 093E-094F CM; 0958-0961 AL; 0964-0965 BA;
0966-096F NU; 0E01-0E30 SA; 0E31 SA; 0E32-0E33 SA; 0E34-0E3A SA; 0E3F PR; 0E40-0E4E SA; 0E50-0E59 NU; 0E5A-0E5B BA;
1100-115F JL; 1160-11A7 JV; 11A8-11FF JT; 1680 BA; 2000-2006 BA; 2007 GL; 2008-200A BA; 200B ZW; 200C CM;
200D ZWJ; 200E-200F CM; 2010 BA; 2011 GL; 2012-2013 BA; 2014 B2; 2015-2016 AI; 2018-2019 QU; 201A OP;
201B-201D QU; 201E OP; 201F QU; 2020-2021 AI; 2024-2026 IN; 2027 BA; 2028-2029 BK; 202A-202E CM; 202F GL;
2030-2037 PO; 2038 AL; 2039-203A QU; 203B AI; 203C-203D NS; 2044 IS; 2045 OP; 2046 CL; 2047-2049 NS;
2056 BA; 2058-205B BA; 205D-205F BA; 2060 WJ; 2066-206F CM; 207D OP; 207E CL; 208D OP; 208E CL;
20A0-20A6 PR; 20A7 PO; 20A8-20B5 PR; 20B6 PO; 20B7-20CF PR; 20D0-20F0 CM; 2103 PO; 2109 PO; 2116 PR;
2190-2199 AI; 2212-2213 PR; 2308 OP; 2309 CL; 230A OP; 230B CL; 231A-231B ID; 2329 OP; 232A CL;
23F0-23F3 ID; 2460-24FE AI; 2500-254B AI; 2600-2603 ID; 2614-2615 ID; 261D EB; 2639-263B ID; 26F9 EB; 270A-270D EB;
2762-2763 EX; 2764 ID; 27E6 OP; 27E7 CL; 27E8 OP; 27E9 CL; 27EA OP; 27EB CL; 2983 OP;
2984 CL; 2E80-2FFF ID; 3000 BA; 3001-3002 CL; 3003-3004 ID; 3005 NS; 3006-3007 ID; 3008 OP; 3009 CL;
300A OP; 300B CL; 300C OP; 300D CL; 300E OP; 300F CL; 3010 OP; 3011 CL; 3012-3013 ID;
3014 OP; 3015 CL; 3016 OP; 3017 CL; 301C NS; 301D OP; 301E-301F CL; 3020-3029 ID; 302A-302F CM;
3030-303A ID; 303B-303C NS; 3041 CJ; 3042 ID; 3043 CJ; 3044 ID; 3045 CJ; 3046 ID; 3047 CJ;
3048 ID; 3049 CJ; 304A-3062 ID; 3063 CJ; 3064-3082 ID; 3083 CJ; 3084 ID; 3085 CJ; 3086 ID;
3087 CJ; 3088-3098 ID; 3099-309A CM; 309B-309E NS; 309F ID; 30A0 NS; 30A1 CJ; 30A2-30C2 ID; 30C3 CJ;
30C4-30FA ID; 30FB NS; 30FC CJ; 30FD-30FE NS; 30FF ID; 3105-4DBF ID; 4E00-A014 ID; A015 NS; A016-A4CF ID;
D800-DFFF SG; F900-FAFF ID; FB1D HL; FB1E CM; FB1F-FB28 HL; FB29 AL; FB2A-FB4F HL; FB50-FDFB AL; FDFC PO;
FE00-FE0F CM; FE10 IS; FE13-FE14 IS; FE20-FE2F CM; FE70-FEFC AL; FEFF WJ; FF01 EX; FF02-FF03 ID; FF04 PR;
FF05 PO; FF08 OP; FF09 CL; FF0C CL; FF0E CL; FF10-FF19 ID; FF1A-FF1B NS; FF1F EX; FF21-FF3A ID;
FF3B OP; FF3D CL; FF41-FF5A ID; FF5B OP; FF5D CL; FF61 CL; FF62 OP; FF63-FF64 CL; FFFC CB;
FFFD AI; 1F1E6-1F1FF RI; 1F300-1F384 ID; 1F385 EB; 1F386-1F3FA ID; 1F3FB-1F3FF EM; 1F400-1F441 ID; 1F442-1F443 EB; 1F444-1F445 ID;
1F446-1F450 EB; 1F451-1F465 ID; 1F466-1F478 EB; 1F479-1FAFF ID; 20000-3FFFD ID; E0001-E007F CM; E0100-E01EF CM
`

const names = "XX AL HL CM ZWJ BK CR LF NL SP ZW WJ GL CB BA BB B2 HY NS CL CP OP QU EX IN IS SY NU PO PR ID EB EM RI JL JV JT H2 H3 AI SA SG CJ"

func number(t *testing.T, s string) rune {
	n, err := strconv.ParseInt(s, 16, 32)
	if err != nil {
		t.Fatal(err)
	}
	return rune(n)
}

// documented is the table that the document's words make.
func documented(t *testing.T) []trie.Range {
	var rs []trie.Range
	for _, entry := range strings.Split(document, ";") {
		words := strings.Fields(entry)
		lo, hi, isRange := strings.Cut(words[0], "-")
		if !isRange {
			hi = lo
		}
		class := slices.Index(strings.Fields(names), words[1])
		if class < 0 {
			t.Fatal(entry)
		}
		rs = append(rs, trie.Range{Lo: number(t, lo), Hi: number(t, hi), Value: uint8(class)})
	}
	return rs
}

// P6.1
func TestTable(t *testing.T) {
	if !slices.Equal(linec.Table(), documented(t)) {
		t.Error("the table is not the document's")
	}
	if err := trie.Check(linec.Table()); err != nil {
		t.Error(err)
	}
	linec.Table()[0].Value = 1
	if linec.Table()[0].Value == 1 {
		t.Error("a table that was handed out is kept")
	}
}

// P6.1
func TestOfEveryRune(t *testing.T) {
	known, err := trie.Build(documented(t), 0)
	if err != nil {
		t.Fatal(err)
	}
	var rs []rune
	for r := rune(-3); r < 0x110003; r++ {
		rs = append(rs, r)
	}
	cs := linec.Of(rs)
	if len(cs) != len(rs) {
		t.Fatal(len(cs))
	}
	for i, r := range rs {
		want := linec.Class(known.Get(r))
		if 0xac00 <= r && r <= 0xd7a3 {
			want = linec.H3
			if (r-0xac00)%28 == 0 {
				want = linec.H2
			}
		}
		if cs[i] != want {
			t.Fatalf("%x is of class %d", r, cs[i])
		}
	}
}

// P6.1
func TestOf(t *testing.T) {
	rs := []rune{'a', ' ', '(', 0xac00, 0xac01, 0xac1b, 0xac1c, 0xabff, 0xd7a3, 0xd7a4, 0x3041, 0xe01, 0xd800, -1, -1 << 31, 0x110000, 1<<31 - 1}
	want := []linec.Class{linec.AL, linec.SP, linec.OP, linec.H2, linec.H3, linec.H3, linec.H2, linec.XX, linec.H3, linec.XX, linec.CJ, linec.SA, linec.SG, linec.XX, linec.XX, linec.XX, linec.XX}
	if got := linec.Of(rs); !slices.Equal(got, want) {
		t.Error(got)
	}
	if got := linec.Of(nil); len(got) != 0 {
		t.Error(got)
	}
}

// P6.1: the numbers by which the table above names the classes.
func TestNumbers(t *testing.T) {
	all := []linec.Class{linec.XX, linec.AL, linec.HL, linec.CM, linec.ZWJ, linec.BK, linec.CR, linec.LF, linec.NL, linec.SP, linec.ZW, linec.WJ, linec.GL, linec.CB, linec.BA, linec.BB, linec.B2, linec.HY, linec.NS, linec.CL, linec.CP, linec.OP, linec.QU, linec.EX, linec.IN, linec.IS, linec.SY, linec.NU, linec.PO, linec.PR, linec.ID, linec.EB, linec.EM, linec.RI, linec.JL, linec.JV, linec.JT, linec.H2, linec.H3, linec.AI, linec.SA, linec.SG, linec.CJ}
	for i, c := range all {
		if int(c) != i {
			t.Error(i, c)
		}
	}
	if len(all) != len(strings.Fields(names)) {
		t.Error(len(all))
	}
}
