// Package rules holds all layers against the rules that hold everywhere: none of them panics (W1), the same arguments get the same answer (W2), nothing comes with an error (W3), and arguments stay as they are (W6).
package rules

import (
	"reflect"
	"testing"

	"boustrophedon/align"
	"boustrophedon/api"
	"boustrophedon/base"
	"boustrophedon/bidic"
	"boustrophedon/caret"
	"boustrophedon/cells"
	"boustrophedon/cellw"
	"boustrophedon/cluster"
	"boustrophedon/explicit"
	"boustrophedon/fill"
	"boustrophedon/glyphs"
	"boustrophedon/implicit"
	"boustrophedon/isolate"
	"boustrophedon/layout"
	"boustrophedon/lbone"
	"boustrophedon/lbrule"
	"boustrophedon/levels"
	"boustrophedon/linebreak"
	"boustrophedon/linec"
	"boustrophedon/marks"
	"boustrophedon/measure"
	"boustrophedon/mirror"
	"boustrophedon/neutral"
	"boustrophedon/offset"
	"boustrophedon/order"
	"boustrophedon/pairs"
	"boustrophedon/para"
	"boustrophedon/relevel"
	"boustrophedon/runs"
	"boustrophedon/selects"
	"boustrophedon/seqs"
	"boustrophedon/tabs"
	"boustrophedon/trie"
	"boustrophedon/utf"
	"boustrophedon/view"
	"boustrophedon/weak"
	"boustrophedon/words"
)

// The methods, as functions of all that they hang on.
var methods = []any{
	func(b []byte, i, k int) (int, error) { return offset.Of(b).Byte(i) },
	func(b []byte, i, k int) (int, error) { return offset.Of(b).Scalar(i) },
	func(b []byte, i, k int) (int, int, error) { return offset.Of(b).Span(i, k) },
	func(b []byte) (int, int) { return offset.Of(b).Count(), offset.Of(b).Size() },
	func(widths []int, cs []linec.Class, i, k int) (int, int, bool, int) {
		r := measure.Of(widths, cs)
		return r.Cells(i, k), r.Shown(i, k), r.Whole(i), r.Count()
	},
	func(widths []int, cs []linec.Class, ss []lbrule.Status, width int) ([]fill.Line, error) {
		return fill.Lines(measure.Of(widths, cs), ss, width)
	},
	func(widths []int, cs []linec.Class, width int) ([]fill.Line, error) {
		r := measure.Of(widths, cs)
		return fill.Lines(r, make([]lbrule.Status, r.Count()+1), width)
	},
	func(b []byte, d api.Direction, width, cell int) []int {
		l, err := layout.Of(b, d, max(width, 1))
		var all []int
		for i := range l.Lines {
			at, hitErr := l.Lines[i].Hit(cell)
			_, _, refused := layout.Refused(hitErr)
			if refused || err != nil {
				return nil
			}
			all = append(all, at, len(l.Lines[i].Text()))
		}
		return all
	},
}

// The functions of the layers, but those that build a trie of all scalars each time.
var functions = []any{
	utf.Scalar, utf.Next, utf.Decode, utf.Put, utf.Encode, utf.Valid, trie.Check,
	bidic.Of, bidic.Strong, bidic.Isolate, bidic.Embedding, bidic.Taken,
	mirror.Pairs, mirror.Of, mirror.Bracket, linec.Of, cellw.Of, cellw.Sum, para.Split, isolate.Match,
	base.First, base.Level, explicit.Resolve, runs.Of, seqs.Of, weak.Resolve, pairs.Of,
	neutral.Level, neutral.Brackets, neutral.Rest, implicit.Level, levels.Paragraph, levels.Of,
	lbone.Class, lbone.Units, lbrule.Between, linebreak.Of, relevel.Of, order.Visual, order.Back,
	marks.Fix, glyphs.Of, cells.Starts, cells.Hit, caret.Stops, caret.Right, caret.Left,
	layout.Check, layout.Of, cluster.Breaks, cluster.Of, cluster.Next, cluster.Prev,
	words.Kinds, words.Breaks, words.Of, tabs.Of, tabs.Stops, align.Indent, align.Justify,
	selects.Bands, selects.Places, selects.Cells, view.Row, view.Text,
}

// maker makes arguments: many ordinary ones, and the ends of all numbers.
type maker struct{ seed uint64 }

func (m *maker) next(n int) int {
	m.seed = m.seed*6364136223846793005 + 1442695040888963407
	return int(m.seed>>33) % n
}

func (m *maker) number() int64 {
	switch m.next(12) {
	case 0:
		return -1 << 63
	case 1:
		return 1<<63 - 1
	case 2:
		return int64(m.next(1<<20)) - 1<<19
	}
	return int64(m.next(9)) - 2
}

func (m *maker) rune() int64 {
	known := []rune("ab1 .'()[]<>\t\r\n\u00e9\u05d0\u05d1\u05b8\u0627\u0661\u0301\u200d\u4e00\uac00\u11a8\u202a\u202b\u202c\u202e\u2067\u2068\u2069\U0001F1E6\U0001F468")
	switch m.next(12) {
	case 0:
		return int64(int32(m.number()))
	case 1:
		return int64(m.next(0x110000))
	}
	return int64(known[m.next(len(known))])
}

// value is an argument of a type.
func (m *maker) value(t reflect.Type, n int) reflect.Value {
	v := reflect.New(t).Elem()
	switch t.Kind() {
	case reflect.Bool:
		v.SetBool(m.next(2) == 0)
	case reflect.Uint8:
		v.SetUint(uint64(m.next(256)))
		if t.PkgPath() != "" && m.next(8) > 0 {
			v.SetUint(uint64(m.next(24)))
		}
	case reflect.Int32:
		v.SetInt(m.rune())
	case reflect.Int:
		v.SetInt(m.number())
	case reflect.Struct:
		for i := range t.NumField() {
			v.Field(i).Set(m.value(t.Field(i).Type, n))
		}
	case reflect.Slice:
		if m.next(9) == 0 {
			n = m.next(7)
		}
		if n > 0 || m.next(2) == 0 {
			v.Set(reflect.MakeSlice(t, n, n+m.next(3)))
		}
		for i := range n {
			v.Index(i).Set(m.value(t.Elem(), m.next(3)))
		}
	default:
		panic(t.String())
	}
	return v
}

// arguments are a function's: its slices mostly have one length, or the one for the end more.
func (m *maker) arguments(f reflect.Type) []reflect.Value {
	n := m.next(9)
	var in []reflect.Value
	for i := range f.NumIn() {
		in = append(in, m.value(f.In(i), n))
	}
	return in
}

func call(f any, in []reflect.Value) []any {
	var out []any
	for _, v := range reflect.ValueOf(f).Call(in) {
		out = append(out, v.Interface())
	}
	return out
}

// empty tells whether a result is its zero value, or a slice without elements.
func empty(x any) bool {
	v := reflect.ValueOf(x)
	return v.IsZero() || v.Kind() == reflect.Slice && v.Len() == 0
}

// W1, W2, W3, W6
func TestRules(t *testing.T) {
	for k, f := range append(functions, methods...) {
		for round := range 3000 {
			first := &maker{uint64(round)}
			again := &maker{uint64(round)}
			in := first.arguments(reflect.TypeOf(f))
			given := again.arguments(reflect.TypeOf(f))
			out := call(f, in)
			for i := range in {
				if !reflect.DeepEqual(in[i].Interface(), given[i].Interface()) {
					t.Fatalf("function %d, %v: an argument was changed", k, reflect.TypeOf(f))
				}
			}
			if second := call(f, given); !reflect.DeepEqual(out, second) {
				t.Fatalf("function %d, %v: %v, then %v", k, reflect.TypeOf(f), out, second)
			}
			if err, ok := out[len(out)-1].(error); ok {
				checkError(t, err, out[:len(out)-1])
			}
		}
	}
}

// checkError holds what comes with an error against W3, and the error against the section Errors.
func checkError(t *testing.T, err error, others []any) {
	t.Helper()
	if where, _ := api.Place(err); api.Number(err) == 0 || where == "" {
		t.Fatalf("%v has no place, or no number", err)
	}
	for _, x := range others {
		if !empty(x) {
			t.Fatalf("%v comes with %v", err, x)
		}
	}
}

// W1, W2: trie.Build, which walks over all scalars.
func TestTrie(t *testing.T) {
	for round := range 50 {
		m := &maker{uint64(round)}
		rs := m.value(reflect.TypeFor[[]trie.Range](), 1+round%3).Interface().([]trie.Range)
		if round%2 == 0 {
			for i := range rs {
				rs[i].Lo, rs[i].Hi = rune(i*1000), rune(i*1000+m.next(1000))
			}
		}
		x, err := trie.Build(rs, 3)
		if err != nil {
			checkError(t, err, []any{x})
			continue
		}
		for range 1000 {
			r := rune(m.rune())
			if (r < 0 || r > api.Most) && x.Get(r) != 0 {
				t.Errorf("Get(%x) = %d", r, x.Get(r))
			}
		}
	}
}
