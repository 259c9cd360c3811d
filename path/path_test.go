package path

import (
	"fmt"
	"math"
	"math/rand"
	"reflect"
	"regexp"
	"slices"
	"strconv"
	"strings"
	"testing"
	"unsafe"

	"broadsheet/api"
	"broadsheet/fits"
	"broadsheet/types"
	"broadsheet/value"
)

// minus is a number below 0, by its widest two's complement.
func minus(n uint64) uint64 { return -n }

// Places in good.
const (
	octet  = 0
	text   = 1 // up to 3 bytes
	colour = 2
	some   = 3 // up to 12 octets
	pair   = 4 // 2 texts
	point  = 5 // an octet, octets, a colour and a text
	choice = 6 // by an octet: a point, or octets, or else an octet
	hue    = 7 // by a colour: texts, or a choice, or nothing
	hues   = 8 // 3 of them
	points = 9 // up to 2
)

// good is a valid list. Some names are those of items of several types, at other places there.
func good() []api.Type {
	return []api.Type{
		{Kind: api.TOctet},
		{Kind: api.TString, Bound: 3},
		{Kind: api.TEnum, Name: "Colour", Items: []api.Item{{Name: "red", Num: 7}, {Name: "x", Num: minus(5)}, {Name: "green"}}},
		{Kind: api.TSeq, Bound: 12, Of: octet},
		{Kind: api.TArray, Bound: 2, Of: text},
		{Kind: api.TStruct, Name: "Point", Items: []api.Item{{Name: "x", Key: true}, {Name: "l", Type: some}, {Name: "c", Type: colour}, {Name: "xl", Type: text, Key: true}}},
		{Kind: api.TUnion, Name: "Choice", Tag: octet, Items: []api.Item{{Name: "p", Num: 1, Type: point}, {Name: "x", Num: 9, Type: some}, {Name: "q", Type: octet, Rest: true}}},
		{Kind: api.TUnion, Name: "Hue", Tag: colour, Items: []api.Item{{Name: "l", Num: minus(5), Type: pair}, {Name: "p", Num: 7, Type: choice}}},
		{Kind: api.TArray, Bound: 3, Of: hue},
		{Kind: api.TSeq, Bound: 2, Of: point},
	}
}

func num(kind int, n uint64) api.Value { return api.Value{Kind: kind, Num: n} }

func str(s string) api.Value { return api.Value{Kind: api.TString, Text: s} }

func node(kind int, items ...api.Value) api.Value { return api.Value{Kind: kind, Items: items} }

func union(tag uint64, items ...api.Value) api.Value {
	return api.Value{Kind: api.TUnion, Num: tag, Items: items}
}

func byteOf(n uint64) api.Value { return num(api.TOctet, n) }

func someOf(octets ...uint64) api.Value {
	v := node(api.TSeq)
	for _, n := range octets {
		v.Items = append(v.Items, byteOf(n))
	}
	return v
}

func pairOf(a, b string) api.Value { return node(api.TArray, str(a), str(b)) }

func pointOf(x uint64, l api.Value, s string) api.Value {
	return node(api.TStruct, byteOf(x), l, num(api.TEnum, 7), str(s))
}

// samples has a value for each type of good.
func samples() []api.Value {
	return []api.Value{
		byteOf(5), str("ab"), num(api.TEnum, minus(5)), someOf(1, 2, 3), pairOf("a", "bc"),
		pointOf(4, someOf(6, 7), "d"), union(1, pointOf(8, someOf(), "e")), union(minus(5), pairOf("f", "")),
		node(api.TArray, union(7, union(1, pointOf(9, someOf(10, 11), "g"))), union(0), union(7, union(2, byteOf(12)))),
		node(api.TSeq, pointOf(13, someOf(14), "h")),
	}
}

// it is the step to an item.
func it(n int) api.Step { return api.Step{N: n} }

// el is the step to an element.
func el(n int) api.Step { return api.Step{Elem: true, N: n} }

func steps(p ...api.Step) []api.Step { return p }

// brief is what a failed test says of something.
func brief(x any) string {
	s := fmt.Sprint(x)
	return s[:min(len(s), 300)]
}

func isZero(v api.Value) bool {
	return v.Kind == 0 && v.Num == 0 && v.Text == "" && len(v.Items) == 0
}

func wantFind(t *testing.T, l []api.Type, x int, s string, want []api.Step, to int) {
	t.Helper()
	if p, at, e := Find(l, x, s); e != api.OK || at != to || !slices.Equal(p, want) {
		t.Errorf("Find from type %d of %q: %s, %d, %v, want %s, %d: %s", x, brief(s), brief(p), at, e, brief(want), to, brief(l))
	}
}

func wantNoFind(t *testing.T, l []api.Type, x int, s string, want api.Errno) {
	t.Helper()
	if p, at, e := Find(l, x, s); e != want || at != 0 || len(p) != 0 {
		t.Errorf("Find from type %d of %q: %s, %d, %v, want %v: %s", x, brief(s), brief(p), at, e, want, brief(l))
	}
}

func wantText(t *testing.T, l []api.Type, x int, p []api.Step, want string, to int) {
	t.Helper()
	if s, at, ok := Text(l, x, p); !ok || at != to || s != want {
		t.Errorf("Text from type %d of %s: %q, %d, %v, want %q, %d: %s", x, brief(p), s, at, ok, want, to, brief(l))
	}
}

func wantNoText(t *testing.T, l []api.Type, x int, p []api.Step) {
	t.Helper()
	if s, at, ok := Text(l, x, p); ok || at != 0 || s != "" {
		t.Errorf("Text from type %d of %s: %q, %d, %v: %s", x, brief(p), s, at, ok, brief(l))
	}
}

// wantBoth wants of a path and its text that each is the other's.
func wantBoth(t *testing.T, l []api.Type, x int, s string, p []api.Step, to int) {
	t.Helper()
	wantFind(t, l, x, s, p, to)
	wantText(t, l, x, p, s, to)
}

func wantAt(t *testing.T, l []api.Type, x int, p []api.Step, v, want api.Value) {
	t.Helper()
	if got, ok := At(l, x, p, v); !ok || !value.Same(got, want) {
		t.Errorf("At from type %d at %s in %s: %s, %v, want %s: %s", x, brief(p), brief(v), brief(got), ok, brief(want), brief(l))
	}
}

func wantNothing(t *testing.T, l []api.Type, x int, p []api.Step, v api.Value) {
	t.Helper()
	if got, ok := At(l, x, p, v); ok || !isZero(got) {
		t.Errorf("At from type %d at %s in %s: %s, %v: %s", x, brief(p), brief(v), brief(got), ok, brief(l))
	}
}

// wantNoPath wants that something is no path: it has no text, and nothing is there.
func wantNoPath(t *testing.T, l []api.Type, x int, p []api.Step, v api.Value) {
	t.Helper()
	wantNoText(t, l, x, p)
	wantNothing(t, l, x, p, v)
}

// Promises 12.1 and 12.2, paths and their texts.

func TestSamplesFit(t *testing.T) {
	for x, v := range samples() {
		if e := fits.Fits(good(), x, v); e != api.OK {
			t.Errorf("type %d: %v", x, e)
		}
	}
}

func TestPaths(t *testing.T) {
	for _, c := range []struct {
		x    int
		text string
		p    []api.Step
		to   int
	}{
		{point, "x", steps(it(0)), octet}, {point, "l", steps(it(1)), some}, {point, "c", steps(it(2)), colour}, {point, "xl", steps(it(3)), text},
		{point, "l[0]", steps(it(1), el(0)), octet}, {point, "l[11]", steps(it(1), el(11)), octet},
		{some, "[9]", steps(el(9)), octet}, {some, "[10]", steps(el(10)), octet}, {pair, "[1]", steps(el(1)), text},
		{choice, "p", steps(it(0)), point}, {choice, "x", steps(it(1)), some}, {choice, "q", steps(it(2)), octet},
		{choice, "p.x", steps(it(0), it(0)), octet}, {choice, "x[3]", steps(it(1), el(3)), octet}, {choice, "p.l[3]", steps(it(0), it(1), el(3)), octet},
		{hue, "l[0]", steps(it(0), el(0)), text}, {hue, "p.x", steps(it(1), it(1)), some}, {hue, "p.p.x", steps(it(1), it(0), it(0)), octet},
		{hues, "[2]", steps(el(2)), hue}, {hues, "[0].l", steps(el(0), it(0)), pair}, {hues, "[1].l[1]", steps(el(1), it(0), el(1)), text},
		{hues, "[2].p.p.l[7]", steps(el(2), it(1), it(0), it(1), el(7)), octet}, {hues, "[2].p.p.c", steps(el(2), it(1), it(0), it(2)), colour},
		{points, "[1].xl", steps(el(1), it(3)), text}, {points, "[0].l[0]", steps(el(0), it(1), el(0)), octet},
	} {
		wantBoth(t, good(), c.x, c.text, c.p, c.to)
	}
}

// The types of the document's example: an a with a b with elements.
func TestExample(t *testing.T) {
	l := []api.Type{
		{Kind: api.TOctet}, {Kind: api.TSeq, Bound: 3},
		{Kind: api.TStruct, Name: "In", Items: []api.Item{{Name: "b", Type: 1}}},
		{Kind: api.TStruct, Name: "Out", Items: []api.Item{{Name: "c"}, {Name: "a", Type: 2}}},
	}
	wantBoth(t, l, 3, "a.b[2]", steps(it(1), it(0), el(2)), 0)
	wantNoFind(t, l, 3, "a.b[3]", api.ErrRange)
	wantNoFind(t, l, 3, "a.b.2", api.ErrForm)
}

func TestElementsWithinElements(t *testing.T) {
	l := []api.Type{{Kind: api.TBool}, {Kind: api.TArray, Bound: 11}, {Kind: api.TSeq, Bound: 2, Of: 1}, {Kind: api.TArray, Bound: 64, Of: 2}}
	wantBoth(t, l, 3, "[63][1][10]", steps(el(63), el(1), el(10)), 0)
	wantBoth(t, l, 3, "[0][0]", steps(el(0), el(0)), 1)
	wantNoFind(t, l, 3, "[63].[1]", api.ErrForm)
	wantNoFind(t, l, 3, "[63][2][10]", api.ErrRange)
	wantNoFind(t, l, 3, "[63][1][11]", api.ErrRange)
	wantNoFind(t, l, 3, "[63][1][10][0]", api.ErrKind)
}

func TestEachNumber(t *testing.T) {
	for bound := 1; bound <= api.MaxBound; bound++ {
		for _, kind := range []int{api.TSeq, api.TArray} {
			l := []api.Type{{Kind: api.TOctet}, {Kind: api.TInt16}, {Kind: kind, Bound: bound, Of: 1}}
			for n := range 100 {
				s := "[" + strconv.Itoa(n) + "]"
				if n < bound {
					wantBoth(t, l, 2, s, steps(el(n)), 1)
					continue
				}
				wantNoFind(t, l, 2, s, api.ErrRange)
				wantNoText(t, l, 2, steps(el(n)))
			}
		}
	}
}

func TestEachItem(t *testing.T) {
	for _, kind := range []int{api.TStruct, api.TUnion} {
		l := []api.Type{{Kind: api.TOctet}, {Kind: api.TInt16}, {Kind: api.TSeq, Bound: 1, Of: 1}, {Kind: kind, Name: "N"}}
		for i := range api.MaxItems {
			m := api.Item{Name: "i" + strconv.Itoa(i), Type: i % 3}
			if kind == api.TUnion {
				m.Num = uint64(100 - i)
			}
			l[3].Items = append(l[3].Items, m)
		}
		for i, m := range l[3].Items {
			wantBoth(t, l, 3, m.Name, steps(it(i)), i%3)
		}
		wantNoFind(t, l, 3, "i16", api.ErrName)
		wantNoText(t, l, 3, steps(it(16)))
	}
}

// Promise 12.1, the form.

// badForms are not texts of paths, wherever they begin.
func badForms() []string {
	return []string{
		"", ".", "..", "[", "]", "[]", "[.]", "[x]", "[1", "1]", "1", "12", "_", "_x", "1x", "[1]]", "[[1]", "[[1]]", "[1][", "[1].", "[1]x", "[1]_", "[1]1", "[1]..x",
		"[00]", "[01]", "[09]", "[000]", "[001]", "[010]", "[100]", "[123]", "[0x]", "[1x]", "[x1]", "[1.]", "[-1]", "[+1]", "[-0]", "[ 1]", "[1 ]", "[1_]", "[_1]", "[0b1]", "[1e1]", "[:]", "[/]", "[1:]", "[/1]",
		"[4294967296]", "[18446744073709551616]", "[" + strings.Repeat("0", 70) + "]", "(1)", "{1}", "[1)", "<1>",
		".x", ".[1]", "x.", "x..l", "x.1", "x._", "x.[1]", "x.]", "x[", "x]", "x[]", "x[1", "x[1]l", "x[1]..l", "x[1].[1]", "x[1].", "x.l.", "x.l..", "x.l.1",
		"x ", " x", "x l", "x .l", "x. l", "x[1] ", "x [1]", "x[1].l ", "x\n", "\nx", "x\t", "x\x00", "\x00", "x-l", "x->l", "x/l", "x,l", "x:l", "x'", "'x'", "%0", "x=1", "x@", "`x", "x{", "x[1]@",
		"\xff", "x\xff", "\u00e9", "x\u00e9", "\uff11", "[\uff11]", "[\u0661]", "x\u2024l", "x\xc2\xb7l", "x.\u00e9",
	}
}

func TestForm(t *testing.T) {
	for x := range good() {
		for _, s := range badForms() {
			wantNoFind(t, good(), x, s, api.ErrForm)
		}
	}
}

// The form of all steps counts before what is wrong with the first.
func TestFormBeforeSteps(t *testing.T) {
	for _, first := range []string{"z", "AND", "x", "p.z", "[2]", "[99]", "[0].z", "l", "q.x", "c.red"} {
		for _, s := range badForms() {
			if isStep := strings.HasPrefix(s, "[") || strings.HasPrefix(s, "."); s == "" || !isStep {
				s = "." + s
			}
			for x := range good() {
				if !formed(first + s) {
					wantNoFind(t, good(), x, first+s, api.ErrForm)
				}
			}
		}
	}
}

// A name may be of any length, and a word of the language, by its form: there is only no item with it.
func TestNamesOfNoItem(t *testing.T) {
	for _, s := range []string{"z", "X", "L", "xx", "xL", "x_", "x0", "lx", "Point", "Choice", "red", "green", "p", "q", "AND", "OR", "NOT", "BETWEEN", "LIKE", "TRUE", "FALSE", "and", strings.Repeat("x", 16), strings.Repeat("x", 17), strings.Repeat("x", 1<<16)} {
		wantNoFind(t, good(), point, s, api.ErrName)
		wantNoFind(t, good(), points, "[1]."+s, api.ErrName)
		wantNoFind(t, good(), points, "[1]."+s+".x[1]", api.ErrName)
	}
	wantNoFind(t, good(), choice, "l", api.ErrName)
	wantNoFind(t, good(), hue, "q", api.ErrName)
	wantNoFind(t, good(), hue, "x", api.ErrName)
}

func TestLongestNames(t *testing.T) {
	long := strings.Repeat("n", api.MaxName)
	l := []api.Type{{Kind: api.TOctet}, {Kind: api.TStruct, Name: long, Items: []api.Item{{Name: "n"}, {Name: long}, {Name: "and"}, {Name: "Z_9"}, {Name: long[1:]}}}}
	wantBoth(t, l, 1, "n", steps(it(0)), 0)
	wantBoth(t, l, 1, long, steps(it(1)), 0)
	wantBoth(t, l, 1, "and", steps(it(2)), 0)
	wantBoth(t, l, 1, "Z_9", steps(it(3)), 0)
	wantBoth(t, l, 1, long[1:], steps(it(4)), 0)
	for _, s := range []string{"nn", long + "n", long[2:], "Z_", "Z", "z_9", "And", "an", "andn"} {
		wantNoFind(t, l, 1, s, api.ErrName)
	}
}

// Promise 12.1, kinds and the order of the errors.

func TestTypesWithoutSuchSteps(t *testing.T) {
	for kind := api.TBool; kind <= api.TEnum; kind++ {
		x := api.Type{Kind: kind}
		if kind == api.TEnum {
			x.Name, x.Items = "E", []api.Item{{Name: "a"}, {Name: "b", Num: 1}}
		}
		for _, s := range []string{"a", "b", "z", "E", "[0]", "[1]", "[99]", "a.b", "a[0]", "[0].a"} {
			wantNoFind(t, []api.Type{x}, 0, s, api.ErrKind)
		}
		for _, p := range [][]api.Step{{it(0)}, {it(1)}, {el(0)}, {el(1)}} {
			wantNoPath(t, []api.Type{x}, 0, p, api.Value{Kind: kind, Items: someOf(0, 0).Items})
		}
	}
	for _, s := range []string{"[0]", "[2]", "[3]", "[99]", "a", "x.l"} {
		wantNoFind(t, good(), text, s, api.ErrKind)
	}
	for _, x := range []int{some, pair, hues, points} {
		for _, s := range []string{"x", "l", "p", "z", "AND", "x[0]", "x.l"} {
			wantNoFind(t, good(), x, s, api.ErrKind)
		}
	}
	for _, x := range []int{point, choice, hue} {
		for _, s := range []string{"[0]", "[1]", "[63]", "[64]", "[99]", "[0].x", "[0][0]"} {
			wantNoFind(t, good(), x, s, api.ErrKind)
		}
	}
}

func TestTheFirstErrorCounts(t *testing.T) {
	for _, c := range []struct {
		x    int
		s    string
		want api.Errno
	}{
		{hues, "x", api.ErrKind}, {hues, "[3]", api.ErrRange}, {hues, "[3].z", api.ErrRange}, {hues, "[3][0]", api.ErrRange}, {hues, "[2][0]", api.ErrKind}, {hues, "[2].z", api.ErrName},
		{hues, "[2].z[99]", api.ErrName}, {hues, "[2].z.z.z", api.ErrName}, {hues, "[2].l.z", api.ErrKind}, {hues, "[2].l[2]", api.ErrRange}, {hues, "[2].l[2].z", api.ErrRange},
		{hues, "[2].l[1].z", api.ErrKind}, {hues, "[2].l[1][0]", api.ErrKind}, {hues, "[0].p.p.l[12]", api.ErrRange}, {hues, "[0].p.p.l[11][0]", api.ErrKind}, {hues, "[0].p.q.x", api.ErrKind},
		{hues, "[0].p.p.c.red", api.ErrKind}, {hues, "[0].p.p.xl[0]", api.ErrKind}, {hues, "[0].p.l", api.ErrName}, {hues, "[0].p.p.p", api.ErrName}, {hues, "[0].p[0]", api.ErrKind},
		{point, "z", api.ErrName}, {point, "z[99]", api.ErrName}, {point, "l[12]", api.ErrRange}, {point, "l[12].z", api.ErrRange}, {point, "l.z[99]", api.ErrKind}, {point, "x[99]", api.ErrKind},
		{some, "[12]", api.ErrRange}, {some, "[12][12]", api.ErrRange}, {some, "[11][12]", api.ErrKind}, {some, "z[12]", api.ErrKind},
	} {
		wantNoFind(t, good(), c.x, c.s, c.want)
	}
}

// A text's length alone makes no error, and is gone through once.
func TestLongTexts(t *testing.T) {
	const n = 1 << 20
	for _, c := range []struct {
		x    int
		s    string
		want api.Errno
	}{
		{point, "x" + strings.Repeat(".x", n), api.ErrKind}, {point, strings.Repeat("x.", n), api.ErrForm}, {point, strings.Repeat("x", n), api.ErrName}, {octet, strings.Repeat("x", n), api.ErrKind},
		{some, strings.Repeat("[1]", n), api.ErrKind}, {some, strings.Repeat("[1]", n) + "[", api.ErrForm}, {some, "[" + strings.Repeat("1", n) + "]", api.ErrForm}, {some, "[" + strings.Repeat("1", n), api.ErrForm},
		{some, strings.Repeat("[", n), api.ErrForm}, {some, strings.Repeat("[12]", n), api.ErrRange}, {some, strings.Repeat("[1].x", n), api.ErrKind}, {some, strings.Repeat("[1]x", n), api.ErrForm},
	} {
		wantNoFind(t, good(), c.x, c.s, c.want)
	}
}

// Promise 12.1, without a pattern.

const (
	namePart = `[A-Za-z][A-Za-z0-9_]*`
	elemPart = `\[(?:[0-9]|[1-9][0-9])\]`
)

// form is a path's, told in another way; stepForm is a step's.
var (
	form     = regexp.MustCompile(`\A(?:` + namePart + `|` + elemPart + `)(?:\.` + namePart + `|` + elemPart + `)*\z`)
	stepForm = regexp.MustCompile(namePart + `|` + elemPart)
)

func formed(s string) bool { return form.MatchString(s) }

// found goes through the types by a rule of its own.
func found(l []api.Type, x int, s string) ([]api.Step, int, api.Errno) {
	if !formed(s) {
		return nil, 0, api.ErrForm
	}
	var p []api.Step
	for _, part := range stepForm.FindAllString(s, -1) {
		number, isElem := strings.CutPrefix(part, "[")
		if k := l[x].Kind; isElem != (k == api.TSeq || k == api.TArray) || k < api.TSeq {
			return nil, 0, api.ErrKind
		}
		if isElem {
			n, _ := strconv.Atoi(strings.TrimSuffix(number, "]"))
			if n >= l[x].Bound {
				return nil, 0, api.ErrRange
			}
			p, x = append(p, el(n)), l[x].Of
			continue
		}
		i := slices.IndexFunc(l[x].Items, func(m api.Item) bool { return m.Name == part })
		if i < 0 {
			return nil, 0, api.ErrName
		}
		p, x = append(p, it(i)), l[x].Items[i].Type
	}
	return p, x, api.OK
}

// wantFound wants what is found by the other rule.
func wantFound(t *testing.T, l []api.Type, x int, s string) api.Errno {
	t.Helper()
	p, to, e := found(l, x, s)
	if e == api.OK {
		wantBoth(t, l, x, s, p, to)
	} else {
		wantNoFind(t, l, x, s, e)
	}
	return e
}

// eachText calls with all texts of some bytes, up to some length.
func eachText(alphabet string, most int, f func(s string)) {
	texts := []string{""}
	for len(texts) > 0 {
		s := texts[0]
		texts = texts[1:]
		f(s)
		for i := 0; i < len(alphabet) && len(s) < most; i++ {
			texts = append(texts, s+alphabet[i:i+1])
		}
	}
}

func TestEachText(t *testing.T) {
	l := []api.Type{
		{Kind: api.TOctet}, {Kind: api.TArray, Bound: 11}, {Kind: api.TStruct, Name: "S", Items: []api.Item{{Name: "x"}, {Name: "x1", Type: 1}}},
		{Kind: api.TSeq, Bound: 1, Of: 2}, {Kind: api.TUnion, Name: "U", Tag: 0, Items: []api.Item{{Name: "x", Num: 3, Type: 3}, {Name: "x0", Num: 4, Type: 1}}},
	}
	errs := map[api.Errno]int{}
	eachText("x01[].", 6, func(s string) {
		for x := 1; x < len(l); x++ {
			errs[wantFound(t, l, x, s)]++
		}
	})
	for _, e := range []api.Errno{api.OK, api.ErrForm, api.ErrKind, api.ErrName, api.ErrRange} {
		if errs[e] < 10 {
			t.Errorf("%v only %d times", e, errs[e])
		}
	}
}

// goodTexts are texts of paths, of one type or another.
func goodTexts() []string {
	return []string{"x", "xl", "l[11]", "[1]", "[10]", "p.l[3]", "[2].p.p.l[7]", "[1].l[1]"}
}

func TestEachByte(t *testing.T) {
	for _, s := range goodTexts() {
		for at := range len(s) + 1 {
			for c := range 256 {
				b := string([]byte{byte(c)})
				for _, x := range []int{some, point, choice, hue, hues} {
					wantFound(t, good(), x, s[:at]+b+s[at:])
					if at < len(s) {
						wantFound(t, good(), x, s[:at]+b+s[at+1:])
					}
				}
			}
		}
	}
}

func TestEachCut(t *testing.T) {
	for _, s := range goodTexts() {
		for from := range len(s) {
			for to := from; to <= len(s); to++ {
				for x := range good() {
					wantFound(t, good(), x, s[from:to])
					wantFound(t, good(), x, s[:from]+s[to:])
				}
			}
		}
	}
}

// Promises 12.1 to 12.3, what is not valid, or not there.

func badLists() [][]api.Type {
	with := func(change func(l []api.Type)) []api.Type {
		l := good()
		change(l)
		return l
	}
	return [][]api.Type{
		nil,
		{},
		with(func(l []api.Type) { l[octet].Kind = 0 }),
		with(func(l []api.Type) { l[octet].Kind = 15 }),
		with(func(l []api.Type) { l[points].Kind = -1 }),
		with(func(l []api.Type) { l[octet].Name = "N" }),
		with(func(l []api.Type) { l[text].Of = 1 }),
		with(func(l []api.Type) { l[text].Bound = -1 }),
		with(func(l []api.Type) { l[some].Bound = api.MaxBound + 1 }),
		with(func(l []api.Type) { l[some].Of = some }),
		with(func(l []api.Type) { l[points].Bound = 0 }),
		with(func(l []api.Type) { l[points].Of = math.MaxInt }),
		with(func(l []api.Type) { l[pair].Of = -1 }),
		with(func(l []api.Type) { l[point].Items[0].Type = len(l) }),
		with(func(l []api.Type) { l[point].Items[3].Type = -1 }),
		with(func(l []api.Type) { l[point].Items[1].Name = "x" }),
		with(func(l []api.Type) { l[point].Items[1].Name = "AND" }),
		with(func(l []api.Type) { l[point].Items[1].Name = "" }),
		with(func(l []api.Type) { l[point].Name = "Colour" }),
		with(func(l []api.Type) { l[choice].Tag = hue }),
		with(func(l []api.Type) { l[choice].Items[0].Rest = true }),
		with(func(l []api.Type) { l[hue].Items[0].Num = 8 }),
		with(func(l []api.Type) { l[hue].Items = nil }),
		append(good(), api.Type{}),
		append(good(), api.Type{Kind: api.TSeq, Bound: 1, Of: hues}),
		append(good(), slices.Repeat([]api.Type{{Kind: api.TOctet}}, api.MaxTypes+1-len(good()))...),
	}
}

func noPlaces(n int) []int {
	return []int{math.MinInt, math.MinInt + 1, -n, -2, -1, n, n + 1, n + 2, 1 << 32, math.MaxInt}
}

// wantNoType wants of each call that there is no such type.
func wantNoType(t *testing.T, l []api.Type, x int, v api.Value) {
	t.Helper()
	for _, s := range []string{"x", "[0]", "p.x", "[0].p", "z", "AND", "[99]", "", ".", "[1]x", "\xff"} {
		wantNoFind(t, l, x, s, api.ErrType)
	}
	for _, p := range [][]api.Step{nil, {}, {it(0)}, {el(0)}, {it(0), it(0)}, {el(0), it(0)}, {it(1), el(0)}, {it(-1)}, {el(-1)}, {it(99)}} {
		wantNoPath(t, l, x, p, v)
	}
}

func TestNotValid(t *testing.T) {
	for _, l := range badLists() {
		if f := types.Check(l); f == (api.Fault{}) && len(l) > 0 {
			t.Fatalf("valid: %s", brief(l))
		}
		for x := range max(len(l), 1) {
			for _, v := range append(samples(), api.Value{}) {
				wantNoType(t, l, x, v)
			}
		}
	}
	for _, l := range append(badLists(), good()) {
		for _, x := range noPlaces(max(len(l), 1)) {
			for _, v := range append(samples(), api.Value{}) {
				wantNoType(t, l, x, v)
			}
		}
	}
}

// As many types as may be are not too many.
func TestMostTypes(t *testing.T) {
	l := slices.Repeat([]api.Type{{Kind: api.TOctet}}, api.MaxTypes-1)
	l = append(l, api.Type{Kind: api.TArray, Bound: 2, Of: api.MaxTypes - 2})
	wantBoth(t, l, api.MaxTypes-1, "[1]", steps(el(1)), api.MaxTypes-2)
	wantAt(t, l, api.MaxTypes-1, steps(el(1)), node(api.TArray, byteOf(3), byteOf(4)), byteOf(4))
}

func TestNoSteps(t *testing.T) {
	for x, v := range samples() {
		for _, p := range [][]api.Step{nil, {}, steps(it(0))[:0]} {
			wantNoText(t, good(), x, p)
			wantAt(t, good(), x, p, v, v)
		}
		wantNoFind(t, good(), x, "", api.ErrForm)
	}
}

// eachPath calls with each path of a type, its text, and the type to which it leads; first with that of no steps.
func eachPath(l []api.Type, x int, p []api.Step, s string, f func(p []api.Step, s string, to int)) {
	f(p, s, x)
	longer := func(n api.Step) []api.Step { return append(slices.Clone(p), n) }
	switch k := l[x].Kind; k {
	case api.TStruct, api.TUnion:
		for i, m := range l[x].Items {
			dot := "."
			if len(p) == 0 {
				dot = ""
			}
			eachPath(l, m.Type, longer(it(i)), s+dot+m.Name, f)
		}
	case api.TSeq, api.TArray:
		for i := range l[x].Bound {
			eachPath(l, l[x].Of, longer(el(i)), fmt.Sprintf("%s[%d]", s, i), f)
		}
	}
}

// pathSet has the paths of a type, as they are printed.
func pathSet(l []api.Type, x int) map[string]bool {
	set := map[string]bool{}
	eachPath(l, x, nil, "", func(p []api.Step, _ string, _ int) { set[fmt.Sprint(p)] = true })
	return set
}

// others are lists of steps that differ in one step, or have one more.
func others(p []api.Step, numbers []int) [][]api.Step {
	var l [][]api.Step
	for i := range len(p) + 1 {
		for _, n := range numbers {
			for _, s := range steps(it(n), el(n)) {
				c := slices.Clone(p)
				if i < len(p) {
					c[i] = s
				} else {
					c = append(c, s)
				}
				l = append(l, c)
			}
		}
	}
	return l
}

// numbersAbout are those of the steps of good, and what lies about them.
func numbersAbout() []int {
	return append(noPlaces(12), 0, 1, 2, 3, 4, 11, 63, 64, 99, 100, 256, 1<<32+1, math.MinInt+2, math.MaxInt-1)
}

func TestNoPaths(t *testing.T) {
	for x, v := range samples() {
		set := pathSet(good(), x)
		eachPath(good(), x, nil, "", func(p []api.Step, _ string, _ int) {
			for _, q := range others(p, numbersAbout()) {
				if !set[fmt.Sprint(q)] {
					wantNoPath(t, good(), x, q, v)
				}
			}
		})
	}
}

func TestPathsThatAreTooLong(t *testing.T) {
	for x, v := range samples() {
		for _, n := range []int{6, 7, 100, 1 << 20} {
			wantNoPath(t, good(), x, slices.Repeat(steps(it(0)), n), v)
			wantNoPath(t, good(), x, slices.Repeat(steps(el(0)), n), v)
			wantNoPath(t, good(), x, slices.Repeat(steps(el(0), it(1)), n), v)
		}
	}
}

// Promise 12.3, what is at a path.

func TestAt(t *testing.T) {
	v := samples()
	wantAt(t, good(), point, steps(it(0)), v[point], byteOf(4))
	wantAt(t, good(), point, steps(it(1)), v[point], someOf(6, 7))
	wantAt(t, good(), point, steps(it(1), el(1)), v[point], byteOf(7))
	wantAt(t, good(), point, steps(it(2)), v[point], num(api.TEnum, 7))
	wantAt(t, good(), point, steps(it(3)), v[point], str("d"))
	wantAt(t, good(), pair, steps(el(1)), v[pair], str("bc"))
	wantAt(t, good(), choice, steps(it(0)), v[choice], pointOf(8, someOf(), "e"))
	wantAt(t, good(), choice, steps(it(0), it(3)), v[choice], str("e"))
	wantAt(t, good(), hue, steps(it(0), el(0)), v[hue], str("f"))
	wantAt(t, good(), hues, steps(el(0), it(1), it(0), it(1), el(1)), v[hues], byteOf(11))
	wantAt(t, good(), hues, steps(el(1)), v[hues], union(0))
	wantAt(t, good(), hues, steps(el(2), it(1), it(2)), v[hues], byteOf(12))
	wantAt(t, good(), points, steps(el(0), it(1), el(0)), v[points], byteOf(14))
}

func TestElementsThatThereAreNot(t *testing.T) {
	for n := range 13 {
		v := node(api.TSeq)
		for i := range uint64(n) {
			v.Items = append(v.Items, byteOf(i+20))
		}
		for i := range 12 {
			if i < n {
				wantAt(t, good(), some, steps(el(i)), v, byteOf(uint64(i+20)))
			} else {
				wantNothing(t, good(), some, steps(el(i)), v)
			}
		}
		wantNothing(t, good(), some, steps(el(12)), v)
	}
	v := samples()[points]
	wantNothing(t, good(), points, steps(el(1)), v)
	wantNothing(t, good(), points, steps(el(1), it(0)), v)
	wantNothing(t, good(), points, steps(el(0), it(1), el(1)), v)
}

func TestBranches(t *testing.T) {
	p, x, q := pointOf(1, someOf(2), "a"), someOf(3, 4), byteOf(5)
	for tag := range uint64(256) {
		branch, m := 2, q
		switch tag {
		case 1:
			branch, m = 0, p
		case 9:
			branch, m = 1, x
		}
		v := union(tag, m)
		for i := range 3 {
			if i == branch {
				wantAt(t, good(), choice, steps(it(i)), v, m)
			} else {
				wantNothing(t, good(), choice, steps(it(i)), v)
			}
		}
	}
	// What another branch has at such a path is not there: neither a field nor an element.
	wantNothing(t, good(), choice, steps(it(0), it(1)), union(9, x))
	wantNothing(t, good(), choice, steps(it(1), el(0)), union(1, p))
	wantNothing(t, good(), choice, steps(it(0), it(0)), union(0, q))
}

func TestTagsWithoutABranch(t *testing.T) {
	for i := range 2 {
		wantNothing(t, good(), hue, steps(it(i)), union(0))
	}
	wantNothing(t, good(), hue, steps(it(0), el(0)), union(0))
	wantNothing(t, good(), hue, steps(it(1), it(2)), union(0))
	wantAt(t, good(), hue, nil, union(0), union(0))
	wantNothing(t, good(), hues, steps(el(1), it(0)), samples()[hues])
	l := []api.Type{{Kind: api.TBool}, {Kind: api.TUnion, Name: "U", Tag: 0, Items: []api.Item{{Name: "a", Num: 1}}}}
	wantAt(t, l, 1, steps(it(0)), union(1, num(api.TBool, 0)), num(api.TBool, 0))
	wantNothing(t, l, 1, steps(it(0)), union(0))
}

// The branch of a tag counts wherever it stands, and its tag may be below 0.
func TestTagsBelowZero(t *testing.T) {
	l := []api.Type{{Kind: api.TInt16}, {Kind: api.TOctet}, {Kind: api.TUnion, Name: "U", Tag: 0, Items: []api.Item{
		{Name: "a", Num: 5, Type: 1}, {Name: "b", Num: minus(5), Type: 1}, {Name: "c", Num: 0, Type: 1}, {Name: "z", Type: 1, Rest: true}}}}
	for i, tags := range [][]uint64{{5}, {minus(5)}, {0}, {1, minus(1), minus(1 << 15), 1<<15 - 1}} {
		for _, tag := range tags {
			for j := range 4 {
				if i == j {
					wantAt(t, l, 2, steps(it(j)), union(tag, byteOf(6)), byteOf(6))
				} else {
					wantNothing(t, l, 2, steps(it(j)), union(tag, byteOf(6)))
				}
			}
		}
	}
}

// within calls with each path of a value at which something is, and with what is there.
func within(l []api.Type, x int, v api.Value, p []api.Step, f func(p []api.Step, v api.Value)) {
	f(p, v)
	for i, m := range v.Items {
		s, of := it(i), 0
		switch l[x].Kind {
		case api.TStruct:
			of = l[x].Items[i].Type
		case api.TUnion:
			s = it(branchOf(l[x], v.Num))
			of = l[x].Items[s.N].Type
		default:
			s, of = el(i), l[x].Of
		}
		within(l, of, m, append(slices.Clone(p), s), f)
	}
}

// branchOf is the place of the branch of a tag, or -1.
func branchOf(x api.Type, tag uint64) int {
	rest := -1
	for i, m := range x.Items {
		switch {
		case m.Rest:
			rest = i
		case m.Num == tag:
			return i
		}
	}
	return rest
}

// wantAll wants what is within a value at each path of its type, and nothing at the paths at which there is nothing: with the types to which they lead.
func wantAll(t *testing.T, l []api.Type, x int, v api.Value) {
	t.Helper()
	there := map[string]api.Value{}
	within(l, x, v, nil, func(p []api.Step, m api.Value) { there[fmt.Sprint(p)] = m })
	eachPath(l, x, nil, "", func(p []api.Step, s string, to int) {
		m, ok := there[fmt.Sprint(p)]
		if !ok {
			wantNothing(t, l, x, p, v)
			return
		}
		wantAt(t, l, x, p, v, m)
		got, _ := At(l, x, p, v)
		if e := fits.Fits(l, to, got); e != api.OK {
			t.Errorf("At %q: %s is not of type %d: %v", s, brief(got), to, e)
		}
		delete(there, fmt.Sprint(p))
	})
	if len(there) > 0 {
		t.Errorf("no paths: %s", brief(there))
	}
}

func TestAllThatIsThere(t *testing.T) {
	for x, v := range samples() {
		wantAll(t, good(), x, v)
	}
}

// Promise 12.3, values that have not the type: At returns.

// tower is a value of so many within one another.
func tower(kind, deep int) api.Value {
	v := byteOf(7)
	for range deep {
		v = api.Value{Kind: kind, Items: []api.Value{v}}
	}
	return v
}

// wantReturn wants no more than that At returns, and a zero value with a false.
func wantReturn(t *testing.T, l []api.Type, x int, p []api.Step, v api.Value) {
	t.Helper()
	if got, ok := At(l, x, p, v); !ok && !isZero(got) {
		t.Errorf("At from type %d at %s in %s: %s", x, brief(p), brief(v), brief(got))
	}
}

func TestOtherValues(t *testing.T) {
	l := append(samples(), api.Value{}, tower(api.TStruct, 3), tower(99, 8), union(1), union(9), union(7), union(minus(5)), union(1, byteOf(1), byteOf(2)),
		node(api.TStruct), node(api.TStruct, byteOf(1)), node(api.TArray), node(api.TArray, union(7), union(7, union(1)), union(7, union(1, node(api.TStruct)))), num(-1, math.MaxUint64))
	for x := range good() {
		for _, v := range l {
			eachPath(good(), x, nil, "", func(p []api.Step, _ string, _ int) { wantReturn(t, good(), x, p, v) })
			for _, p := range [][]api.Step{{it(99)}, {el(99)}, {it(-1)}, {el(-1)}, {it(0), it(0), it(0), it(0), it(0), it(0), it(0)}} {
				wantNothing(t, good(), x, p, v)
			}
		}
	}
}

func TestDeepValues(t *testing.T) {
	v := tower(api.TStruct, 1<<16-2)
	for x := range good() {
		wantReturn(t, good(), x, nil, v)
		wantReturn(t, good(), x, steps(it(0)), v)
		wantReturn(t, good(), x, steps(el(0)), v)
	}
}

// Rule R4.

// texts are those within a value.
func texts(v api.Value) []string {
	l := []string{v.Text}
	for _, m := range v.Items {
		l = append(l, texts(m)...)
	}
	return l
}

// change makes another value of one, wherever it lies in memory.
func change(v *api.Value) {
	for i := range v.Items {
		change(&v.Items[i])
	}
	*v = api.Value{Kind: -1}
}

func TestAtIsNewMemory(t *testing.T) {
	for x := range samples() {
		eachPath(good(), x, nil, "", func(p []api.Step, _ string, _ int) {
			v := samples()[x]
			got, ok := At(good(), x, p, v)
			if !ok {
				return
			}
			had := texts(v)
			for _, s := range texts(got) {
				for _, h := range had {
					if s != "" && unsafe.StringData(s) == unsafe.StringData(h) {
						t.Errorf("type %d: the text %q is the same memory", x, s)
					}
				}
			}
			for i := range got.Items {
				change(&got.Items[i])
			}
			if !value.Same(v, samples()[x]) {
				t.Errorf("type %d at %s: the value is now %s", x, brief(p), brief(v))
			}
		})
	}
}

// What lies behind the end of a value's Items is neither there nor changed.
func TestBehindTheItems(t *testing.T) {
	whole := []api.Value{byteOf(1), byteOf(2), byteOf(3)}
	v := node(api.TSeq, whole[:2]...)
	wantNothing(t, good(), some, steps(el(2)), v)
	got, _ := At(good(), some, nil, v)
	got.Items = append(got.Items, byteOf(9))
	change(&got)
	if whole[0].Num != 1 || whole[1].Num != 2 || whole[2].Num != 3 {
		t.Errorf("now %s", brief(whole))
	}
}

func TestFindIsNewMemory(t *testing.T) {
	const s = "[2].p.p.l[7]"
	p, _, _ := Find(good(), hues, s)
	q, _, _ := Find(good(), hues, s)
	for i := range p {
		p[i] = api.Step{Elem: true, N: -9}
	}
	wantText(t, good(), hues, q, s, octet)
	wantFind(t, good(), hues, s, q, octet)
}

func TestArgumentsStay(t *testing.T) {
	list := func() []api.Type {
		return append(good(), api.Type{Kind: -7, Name: "behind", Items: []api.Item{{Name: "a", Num: 9}}})
	}
	path := func() []api.Step { return steps(el(0), it(1), it(0), it(1), el(1), it(-5), el(99)) }
	whole, p, v := list(), path(), samples()
	l := whole[:len(whole)-1]
	for x := range l {
		for n := range len(p) + 1 {
			Text(l, x, p[:n])
			At(l, x, p[:n], v[x])
		}
		for _, s := range append(goodTexts(), "", "z", "[12]", "x.x") {
			Find(l, x, s)
		}
	}
	if !reflect.DeepEqual(whole, list()) || !reflect.DeepEqual(p, path()) || !reflect.DeepEqual(v, samples()) {
		t.Errorf("now %s, %s, %s", brief(whole), brief(p), brief(v))
	}
}

// Promise 12.4.

func randomItem(r *rand.Rand, kind, t, i int) api.Item {
	m := api.Item{Name: "i" + strconv.Itoa(i)}
	if kind != api.TStruct {
		m.Num = uint64(r.Intn(8))
	}
	if kind == api.TEnum {
		m.Num -= 4
	} else {
		m.Type = max(r.Intn(t), r.Intn(t))
	}
	return m
}

func randomType(r *rand.Rand, t int) api.Type {
	kinds := []int{1 + r.Intn(api.TString), api.TString, api.TEnum, api.TSeq, api.TArray, api.TStruct, api.TStruct, api.TUnion, api.TUnion}
	x := api.Type{Kind: kinds[r.Intn(len(kinds))]}
	switch x.Kind {
	case api.TString:
		x.Bound = r.Intn(5)
	case api.TSeq, api.TArray:
		x.Bound, x.Of = 1+r.Intn(4), r.Intn(t)
	case api.TUnion:
		x.Tag = r.Intn(t)
	}
	if x.Kind == api.TEnum || x.Kind >= api.TStruct {
		x.Name = "t" + strconv.Itoa(t)
		for i := range 1 + r.Intn(4) {
			x.Items = append(x.Items, randomItem(r, x.Kind, t, i))
		}
	}
	if n := len(x.Items); x.Kind == api.TUnion && r.Intn(3) == 0 {
		x.Items[n-1].Num, x.Items[n-1].Rest = 0, true
	}
	return x
}

// randomList is valid: a type that would not be is drawn again.
func randomList(r *rand.Rand) []api.Type {
	l := []api.Type{{Kind: 1 + r.Intn(api.TUint64)}}
	for n := r.Intn(20); len(l) <= n; {
		if longer := append(l, randomType(r, len(l))); types.Check(longer).Err == api.OK {
			l = longer
		}
	}
	return l
}

// randomNum is a number of a type, for a TUnion often that of a branch.
func randomNum(r *rand.Rand, l []api.Type, x int, items []api.Item) uint64 {
	n := uint64(r.Intn(2))
	if i := r.Intn(len(items) + 1); i < len(items) {
		n = items[i].Num
	}
	if e := l[x].Items; l[x].Kind == api.TEnum && !slices.ContainsFunc(e, func(m api.Item) bool { return m.Num == n }) {
		n = e[r.Intn(len(e))].Num
	}
	return n
}

func randomValue(r *rand.Rand, l []api.Type, x int) api.Value {
	v := api.Value{Kind: l[x].Kind}
	var of []int
	switch v.Kind {
	case api.TString:
		v.Text = strings.Repeat("y", r.Intn(l[x].Bound+1))
	case api.TSeq:
		of = slices.Repeat([]int{l[x].Of}, r.Intn(l[x].Bound+1))
	case api.TArray:
		of = slices.Repeat([]int{l[x].Of}, l[x].Bound)
	case api.TStruct:
		for _, m := range l[x].Items {
			of = append(of, m.Type)
		}
	case api.TUnion:
		v.Num = randomNum(r, l, l[x].Tag, l[x].Items)
		if i := branchOf(l[x], v.Num); i >= 0 {
			of = append(of, l[x].Items[i].Type)
		}
	default:
		v.Num = randomNum(r, l, x, l[x].Items)
	}
	for _, o := range of {
		v.Items = append(v.Items, randomValue(r, l, o))
	}
	return v
}

// countPaths is how many paths a type has.
func countPaths(l []api.Type, x int) int {
	n := 1
	switch l[x].Kind {
	case api.TSeq, api.TArray:
		n += l[x].Bound * countPaths(l, l[x].Of)
	case api.TStruct, api.TUnion:
		for _, m := range l[x].Items {
			n += countPaths(l, m.Type)
		}
	}
	return n
}

// eachType calls with the types of random lists, but for those with very many paths.
func eachType(seed int64, lists int, f func(r *rand.Rand, l []api.Type, x int)) {
	r := rand.New(rand.NewSource(seed))
	for range lists {
		l := randomList(r)
		for x := range l {
			if countPaths(l, x) < 300 {
				f(r, l, x)
			}
		}
	}
}

func TestTextAndFindAreInverse(t *testing.T) {
	paths := 0
	eachType(12, 150, func(_ *rand.Rand, l []api.Type, x int) {
		eachPath(l, x, nil, "", func(p []api.Step, s string, to int) {
			if len(p) > 0 {
				wantBoth(t, l, x, s, p, to)
				paths++
			}
		})
	})
	if paths < 10000 {
		t.Errorf("only %d paths", paths)
	}
}

func TestPathsOfOtherTypes(t *testing.T) {
	errs := map[api.Errno]int{}
	eachType(121, 60, func(r *rand.Rand, l []api.Type, x int) {
		eachPath(l, x, nil, "", func(_ []api.Step, s string, _ int) {
			errs[wantFound(t, l, r.Intn(len(l)), s)]++
		})
	})
	for _, e := range []api.Errno{api.OK, api.ErrKind, api.ErrName, api.ErrRange} {
		if errs[e] < 50 {
			t.Errorf("%v only %d times", e, errs[e])
		}
	}
}

func TestNoPathsOfRandomTypes(t *testing.T) {
	eachType(123, 12, func(r *rand.Rand, l []api.Type, x int) {
		set := pathSet(l, x)
		v := randomValue(r, l, x)
		eachPath(l, x, nil, "", func(p []api.Step, _ string, _ int) {
			for _, q := range others(p, []int{-1, 0, 1, 3, 4, 5}) {
				if !set[fmt.Sprint(q)] {
					wantNoPath(t, l, x, q, v)
				}
			}
		})
	})
}

func TestWhatIsAtAPathHasItsType(t *testing.T) {
	eachType(124, 60, func(r *rand.Rand, l []api.Type, x int) {
		for range 3 {
			v := randomValue(r, l, x)
			if e := fits.Fits(l, x, v); e != api.OK {
				t.Fatalf("%v: %s", e, brief(v))
			}
			wantAll(t, l, x, v)
		}
	})
}

// Values of one type asked about at the paths of another.
func TestRandomOtherValues(t *testing.T) {
	eachType(125, 40, func(r *rand.Rand, l []api.Type, x int) {
		v := randomValue(r, l, r.Intn(len(l)))
		eachPath(l, x, nil, "", func(p []api.Step, _ string, _ int) { wantReturn(t, l, x, p, v) })
	})
}
