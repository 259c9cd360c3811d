package fits

import (
	"cmp"
	"fmt"
	"math"
	"math/rand"
	"reflect"
	"slices"
	"strconv"
	"strings"
	"testing"

	"broadsheet/api"
	"broadsheet/types"
	"broadsheet/value"
)

// minus is a number below 0, by its widest two's complement.
func minus(n uint64) uint64 { return -n }

// Places in good.
const (
	truth  = api.TBool - 1
	octet  = api.TOctet - 1
	short  = api.TInt16 - 1
	colour = api.TEnum - 1
	text   = 9  // up to 3 bytes
	none   = 10 // a text without bytes
	some   = 11 // up to 2 octets
	fixed  = 12 // 2 texts
	point  = 13 // an octet and a text
	choice = 14 // by an octet: a point, or a short
	rest   = 15 // by a truth: a text, or else octets
	hue    = 16 // by a colour: an octet, or texts, or nothing
	nest   = 17 // up to 3 choices
)

// good is a valid list: the numeric kinds stand at the places one below their numbers.
func good() []api.Type {
	return []api.Type{
		{Kind: api.TBool}, {Kind: api.TOctet}, {Kind: api.TInt16}, {Kind: api.TUint16},
		{Kind: api.TInt32}, {Kind: api.TUint32}, {Kind: api.TInt64}, {Kind: api.TUint64},
		{Kind: api.TEnum, Name: "Colour", Items: []api.Item{{Name: "red", Num: 7}, {Name: "blue", Num: minus(5)}, {Name: "green"}}},
		{Kind: api.TString, Bound: 3}, {Kind: api.TString},
		{Kind: api.TSeq, Bound: 2, Of: octet}, {Kind: api.TArray, Bound: 2, Of: text},
		{Kind: api.TStruct, Name: "Point", Items: []api.Item{{Name: "a", Type: octet, Key: true}, {Name: "b", Type: text}}},
		{Kind: api.TUnion, Name: "Choice", Tag: octet, Items: []api.Item{{Name: "a", Num: 7, Type: point}, {Name: "b", Num: 9, Type: short}}},
		{Kind: api.TUnion, Name: "Rest", Tag: truth, Items: []api.Item{{Name: "a", Num: 1, Type: text}, {Name: "z", Type: some, Rest: true}}},
		{Kind: api.TUnion, Name: "Hue", Tag: colour, Items: []api.Item{{Name: "a", Num: minus(5), Type: octet}, {Name: "b", Num: 7, Type: fixed}}},
		{Kind: api.TSeq, Bound: 3, Of: choice},
	}
}

func num(kind int, n uint64) api.Value { return api.Value{Kind: kind, Num: n} }

func str(s string) api.Value { return api.Value{Kind: api.TString, Text: s} }

func node(kind int, items ...api.Value) api.Value { return api.Value{Kind: kind, Items: items} }

func union(tag uint64, items ...api.Value) api.Value {
	return api.Value{Kind: api.TUnion, Num: tag, Items: items}
}

func byteOf(n uint64) api.Value { return num(api.TOctet, n) }

func pointOf(n uint64, s string) api.Value { return node(api.TStruct, byteOf(n), str(s)) }

// samples has a value of each type of good.
func samples() []api.Value {
	l := []api.Value{
		num(api.TBool, 1), byteOf(255), num(api.TInt16, minus(3)), num(api.TUint16, 65535),
		num(api.TInt32, minus(1<<31)), num(api.TUint32, 1<<32-1), num(api.TInt64, minus(1)), num(api.TUint64, math.MaxUint64),
		num(api.TEnum, minus(5)), str("abc"), str(""),
		node(api.TSeq, byteOf(1), byteOf(2)), node(api.TArray, str("a"), str("bc")),
		pointOf(3, "x"), union(7, pointOf(3, "x")), union(0, node(api.TSeq, byteOf(1))), union(minus(5), byteOf(2)),
		node(api.TSeq, union(7, pointOf(3, "x")), union(9, num(api.TInt16, 5)), union(8)),
	}
	for i := range l {
		l[i] = roomy(l[i])
	}
	return l
}

// roomy is a value with a marked one behind the end of each list of Items.
func roomy(v api.Value) api.Value {
	l := make([]api.Value, 0, len(v.Items)+2)
	for _, m := range v.Items {
		l = append(l, roomy(m))
	}
	mark := str("behind the end")
	copy(l[len(l):cap(l)], []api.Value{mark, mark})
	v.Items = l
	return v
}

// noKinds are numbers that are no kinds.
func noKinds() []int {
	return []int{0, -1, -2, -9, -10, -14, 15, 16, 255, 257, 266, 1 << 32, 1<<32 + 1, 1<<32 + 10, 1<<32 + 14, math.MinInt, math.MinInt + 1, math.MaxInt}
}

func noPlaces(n int) []int {
	return []int{math.MinInt, math.MinInt + 1, -n, -2, -1, n, n + 1, n + 2, 1 << 32, math.MaxInt}
}

// brief is what a failed test says of something.
func brief(x any) string {
	s := fmt.Sprint(x)
	return s[:min(len(s), 300)]
}

func wantFits(t *testing.T, l []api.Type, x int, v api.Value, want api.Errno) {
	t.Helper()
	if e := Fits(l, x, v); e != want {
		t.Errorf("Fits of type %d: %v, want %v: %s, %s", x, e, want, brief(v), brief(l))
	}
}

// wantGood asks about a type of good.
func wantGood(t *testing.T, x int, v api.Value, want api.Errno) {
	t.Helper()
	wantFits(t, good(), x, v, want)
}

// wantBehind asks about a type behind good.
func wantBehind(t *testing.T, x api.Type, v api.Value, want api.Errno) {
	t.Helper()
	l := append(good(), x)
	if f := types.Check(l); f != (api.Fault{}) {
		t.Fatalf("%v at %d: %v", f.Err, f.At, x)
	}
	wantFits(t, l, len(l)-1, v, want)
}

// Promise 9.1, what each kind allows.

func TestSamplesFit(t *testing.T) {
	for x, v := range samples() {
		wantGood(t, x, v, api.OK)
	}
}

func TestNumbers(t *testing.T) {
	top := uint64(math.MaxUint64)
	for kind, c := range [][2][]uint64{
		api.TBool:   {{0, 1}, {2, 3, 255, 256, 257, 1 << 32, 1 << 63, top}},
		api.TOctet:  {{0, 1, 127, 128, 255}, {256, 257, 511, 1 << 16, 1 << 63, minus(128), top}},
		api.TInt16:  {{0, 1<<15 - 1, minus(1), minus(1 << 15)}, {1 << 15, 1<<16 - 1, 1 << 16, 1<<32 - 1, minus(1<<15 + 1), 1 << 63}},
		api.TUint16: {{0, 1 << 15, 1<<16 - 1}, {1 << 16, 1<<16 + 1, 1 << 32, minus(1 << 15), top}},
		api.TInt32:  {{0, 1<<31 - 1, minus(1), minus(1 << 31)}, {1 << 31, 1<<32 - 1, 1 << 32, minus(1<<31 + 1), 1 << 63}},
		api.TUint32: {{0, 1 << 31, 1<<32 - 1}, {1 << 32, 1<<32 + 1, minus(1 << 31), top}},
		api.TInt64:  {{0, 1<<63 - 1, 1 << 63, minus(1), top}, nil},
		api.TUint64: {{0, 1 << 31, 1<<63 - 1, 1 << 63, top}, nil},
	} {
		for _, n := range c[0] {
			wantGood(t, kind-1, num(kind, n), api.OK)
		}
		for _, n := range c[1] {
			wantGood(t, kind-1, num(kind, n), api.ErrRange)
		}
	}
}

func TestEnums(t *testing.T) {
	for _, n := range []uint64{7, minus(5), 0} {
		wantGood(t, colour, num(api.TEnum, n), api.OK)
	}
	for _, n := range []uint64{1, 2, 3, 5, 6, 8, 1<<32 - 5, 1 << 32, 1<<32 + 7, minus(7), minus(4), minus(6), 1<<31 - 1, 1 << 31, minus(1 << 31), math.MaxUint64} {
		wantGood(t, colour, num(api.TEnum, n), api.ErrRange)
	}
	all := api.Type{Kind: api.TEnum, Name: "New", Items: named(api.MaxItems, 0)}
	for n := range uint64(api.MaxItems + 4) {
		want := api.OK
		if n >= api.MaxItems {
			want = api.ErrRange
		}
		wantBehind(t, all, num(api.TEnum, n), want)
	}
}

func TestTexts(t *testing.T) {
	for _, s := range []string{"", "a", "abc", "\x01\x7f\xff", "é", "é1", "'\\\n"} {
		wantGood(t, text, str(s), api.OK)
	}
	for _, s := range []string{"abcd", "éé", strings.Repeat("x", 1<<18)} {
		wantGood(t, text, str(s), api.ErrLong)
	}
	for _, s := range []string{"\x00", "\x00a", "a\x00", "\x00ab", "a\x00b", "ab\x00", "\x00\x00\x00"} {
		wantGood(t, text, str(s), api.ErrText)
	}
	for c := 1; c < 256; c++ {
		wantGood(t, text, str(string([]byte{'a', byte(c)})), api.OK)
	}
	wantGood(t, none, str(""), api.OK)
	wantGood(t, none, str("a"), api.ErrLong)
	wantGood(t, none, str("\x00"), api.ErrLong)
	for n := range api.MaxBound + 1 {
		x := api.Type{Kind: api.TString, Bound: n}
		wantBehind(t, x, str(strings.Repeat("x", n)), api.OK)
		wantBehind(t, x, str(strings.Repeat("x", n+1)), api.ErrLong)
	}
}

func TestSequences(t *testing.T) {
	wantGood(t, some, node(api.TSeq), api.OK)
	wantGood(t, some, node(api.TSeq, byteOf(255)), api.OK)
	wantGood(t, some, node(api.TSeq, byteOf(255), byteOf(0)), api.OK)
	wantGood(t, some, node(api.TSeq, byteOf(1), byteOf(2), byteOf(3)), api.ErrLong)
	wantGood(t, some, node(api.TSeq, byteOf(256)), api.ErrRange)
	wantGood(t, some, node(api.TSeq, byteOf(1), str("a")), api.ErrKind)
	for _, n := range []int{1, 2, 63, 64} {
		x := api.Type{Kind: api.TSeq, Bound: n, Of: octet}
		for k := range n + 1 {
			wantBehind(t, x, node(api.TSeq, slices.Repeat([]api.Value{byteOf(1)}, k)...), api.OK)
		}
		for _, k := range []int{n + 1, n + 2, 1 << 16} {
			wantBehind(t, x, node(api.TSeq, slices.Repeat([]api.Value{byteOf(1)}, k)...), api.ErrLong)
		}
	}
}

func TestArrays(t *testing.T) {
	wantGood(t, fixed, node(api.TArray, str(""), str("abc")), api.OK)
	wantGood(t, fixed, node(api.TArray, str(""), str("abcd")), api.ErrLong)
	wantGood(t, fixed, node(api.TArray, str("\x00"), str("")), api.ErrText)
	wantGood(t, fixed, node(api.TArray, str(""), byteOf(1)), api.ErrKind)
	for _, n := range []int{1, 2, 63, 64} {
		x := api.Type{Kind: api.TArray, Bound: n, Of: octet}
		for k := range n + 3 {
			want := api.ErrNone
			if k == n {
				want = api.OK
			}
			wantBehind(t, x, node(api.TArray, slices.Repeat([]api.Value{byteOf(1)}, k)...), want)
		}
		wantBehind(t, x, node(api.TArray, make([]api.Value, 1<<16)...), api.ErrNone)
	}
}

func TestEachElement(t *testing.T) {
	for _, kind := range []int{api.TSeq, api.TArray} {
		for i := range api.MaxBound {
			v := node(kind, slices.Repeat([]api.Value{byteOf(1)}, api.MaxBound)...)
			v.Items[i].Num = 256
			wantBehind(t, api.Type{Kind: kind, Bound: api.MaxBound, Of: octet}, v, api.ErrRange)
		}
	}
}

func TestStructs(t *testing.T) {
	wantGood(t, point, pointOf(255, "abc"), api.OK)
	wantGood(t, point, pointOf(256, "abc"), api.ErrRange)
	wantGood(t, point, pointOf(1, "abcd"), api.ErrLong)
	wantGood(t, point, node(api.TStruct, str("abc"), byteOf(1)), api.ErrKind)
	wantGood(t, point, node(api.TStruct), api.ErrNone)
	wantGood(t, point, node(api.TStruct, byteOf(1)), api.ErrNone)
	wantGood(t, point, node(api.TStruct, byteOf(1), str("a"), str("b")), api.ErrNone)
	for n := 1; n <= api.MaxItems; n++ {
		x := api.Type{Kind: api.TStruct, Name: "New", Items: named(n, octet)}
		for i := range x.Items {
			x.Items[i].Num = 0
			x.Items[i].Type = i
		}
		l := slices.Clone(samples()[:n])
		wantBehind(t, x, node(api.TStruct, l...), api.OK)
		wantBehind(t, x, node(api.TStruct, l[:n-1]...), api.ErrNone)
		wantBehind(t, x, node(api.TStruct, append(l[:n:n], l[0])...), api.ErrNone)
		for i := range l {
			wrong := slices.Clone(l)
			wrong[i] = api.Value{Kind: l[i].Kind%api.TUnion + 1}
			wantBehind(t, x, node(api.TStruct, wrong...), api.ErrKind)
		}
	}
}

func TestUnions(t *testing.T) {
	p, s := pointOf(1, "a"), num(api.TInt16, minus(1))
	for _, c := range []struct {
		v    api.Value
		want api.Errno
	}{
		{union(7, p), api.OK}, {union(9, s), api.OK}, {union(0), api.OK}, {union(8), api.OK}, {union(255), api.OK},
		{union(7), api.ErrNone}, {union(7, p, p), api.ErrNone}, {union(9), api.ErrNone}, {union(9, s, s), api.ErrNone},
		{union(0, p), api.ErrNone}, {union(8, s), api.ErrNone}, {union(255, api.Value{}), api.ErrNone},
		{union(7, s), api.ErrKind}, {union(9, p), api.ErrKind}, {union(7, pointOf(256, "")), api.ErrRange}, {union(7, pointOf(1, "\x00")), api.ErrText},
		{union(256), api.ErrRange}, {union(256+7, p), api.ErrRange}, {union(minus(1)), api.ErrRange}, {union(1<<32+9, s), api.ErrRange},
	} {
		wantGood(t, choice, c.v, c.want)
	}
}

func TestUnionsWithRest(t *testing.T) {
	octets := node(api.TSeq, byteOf(1), byteOf(2))
	for _, c := range []struct {
		v    api.Value
		want api.Errno
	}{
		{union(1, str("a")), api.OK}, {union(0, octets), api.OK}, {union(1, octets), api.ErrKind}, {union(0, str("a")), api.ErrKind},
		{union(0), api.ErrNone}, {union(1), api.ErrNone}, {union(0, octets, octets), api.ErrNone},
		{union(2, octets), api.ErrRange}, {union(2), api.ErrRange}, {union(256, octets), api.ErrRange}, {union(math.MaxUint64, octets), api.ErrRange},
	} {
		wantGood(t, rest, c.v, c.want)
	}
	signed := api.Type{Kind: api.TUnion, Name: "New", Tag: short, Items: []api.Item{{Name: "a", Type: text}, {Name: "z", Type: octet, Rest: true}}}
	for _, n := range []uint64{1, 1<<15 - 1, minus(1), minus(1 << 15)} {
		wantBehind(t, signed, union(n, byteOf(1)), api.OK)
	}
	for _, n := range []uint64{1 << 15, 1<<16 - 1, 1 << 16, minus(1<<15 + 1)} {
		wantBehind(t, signed, union(n, byteOf(1)), api.ErrRange)
	}
	wantBehind(t, signed, union(0, str("")), api.OK)
	wantBehind(t, signed, union(0, byteOf(1)), api.ErrKind)
}

func TestUnionsByEnum(t *testing.T) {
	texts := node(api.TArray, str("a"), str("b"))
	for _, c := range []struct {
		v    api.Value
		want api.Errno
	}{
		{union(7, texts), api.OK}, {union(minus(5), byteOf(1)), api.OK}, {union(0), api.OK},
		{union(7, byteOf(1)), api.ErrKind}, {union(minus(5), texts), api.ErrKind}, {union(0, texts), api.ErrNone}, {union(7), api.ErrNone},
		{union(1), api.ErrRange}, {union(8), api.ErrRange}, {union(minus(4)), api.ErrRange}, {union(1<<32-5, byteOf(1)), api.ErrRange},
	} {
		wantGood(t, hue, c.v, c.want)
	}
	// Values of the enum without a branch of their own have that of all others; other numbers are no tags.
	others := good()[hue]
	others.Name, others.Items = "New", []api.Item{{Name: "z", Type: octet, Rest: true}}
	for n := range uint64(10) {
		want := api.ErrRange
		if n == 0 || n == 7 {
			want = api.OK
		}
		wantBehind(t, others, union(n, byteOf(1)), want)
	}
}

func TestUnionTagsOfEachKind(t *testing.T) {
	for tag := truth; tag <= colour; tag++ {
		x := api.Type{Kind: api.TUnion, Name: "New", Tag: tag, Items: []api.Item{{Name: "a", Type: text}}}
		for _, n := range []uint64{1, 2, 7, 127, 128, 255, 256, 1<<15 - 1, 1 << 15, 1<<16 - 1, 1 << 16, 1<<31 - 1, 1 << 31, 1 << 32, 1 << 63, minus(1), minus(5), minus(1 << 15), minus(1 << 31), minus(1<<31 + 1)} {
			wantBehind(t, x, union(n), Fits(good(), tag, num(tag+1, n)))
		}
		wantBehind(t, x, union(0, str("a")), api.OK)
		wantBehind(t, x, union(0, byteOf(1)), api.ErrKind)
		wantBehind(t, x, union(0), api.ErrNone)
	}
}

// Promise 9.1, kinds and forms.

func TestOtherKinds(t *testing.T) {
	for x, v := range samples() {
		own := v.Kind
		for kind := api.TBool; kind <= api.TUnion; kind++ {
			v.Kind = kind
			want := api.ErrKind
			if kind == own {
				want = api.OK
			}
			wantGood(t, x, v, want)
		}
		for _, kind := range noKinds() {
			v.Kind = kind
			wantGood(t, x, v, api.ErrKind)
		}
		wantGood(t, x, api.Value{}, api.ErrKind)
	}
}

func TestFieldsThatMustBeZero(t *testing.T) {
	for x, v := range samples() {
		isNum, isText := x <= colour, x == text || x == none
		isUnion := v.Kind == api.TUnion
		if !isNum && !isUnion {
			for _, n := range []uint64{1, 256, 1 << 63, math.MaxUint64} {
				w := v
				w.Num = n
				wantGood(t, x, w, api.ErrForm)
			}
		}
		if !isText {
			for _, s := range []string{"a", "\x00", "abcd"} {
				w := v
				w.Text = s
				wantGood(t, x, w, api.ErrForm)
			}
		}
		if isNum || isText {
			for _, items := range [][]api.Value{{{}}, {v}, {byteOf(1), byteOf(2)}} {
				w := v
				w.Items = items
				wantGood(t, x, w, api.ErrForm)
			}
		}
	}
}

// emptyLists are one and the same, whatever lies behind their ends.
func emptyLists() [][]api.Value {
	return [][]api.Value{nil, {}, []api.Value{byteOf(1), str("a")}[:0]}
}

func TestEmptyListsAreTheSame(t *testing.T) {
	for x, v := range samples() {
		if len(v.Items) > 0 {
			continue
		}
		for _, items := range emptyLists() {
			v.Items = items
			wantGood(t, x, v, api.OK)
		}
	}
	for _, items := range emptyLists() {
		wantGood(t, some, node(api.TSeq, items...), api.OK)
		wantGood(t, choice, union(8, items...), api.OK)
		wantGood(t, choice, union(7, items...), api.ErrNone)
		wantGood(t, point, node(api.TStruct, items...), api.ErrNone)
	}
}

// Promise 9.1, several reasons at once.

func TestTheFirstReasonCounts(t *testing.T) {
	bad := api.Value{Kind: -1}
	for _, c := range []struct {
		x    int
		v    api.Value
		want api.Errno
	}{
		{octet, api.Value{Kind: api.TBool, Num: 256, Text: "a", Items: []api.Value{bad}}, api.ErrKind},
		{octet, api.Value{Kind: api.TOctet, Num: 256, Text: "a"}, api.ErrForm},
		{octet, api.Value{Kind: api.TOctet, Num: 256, Items: []api.Value{bad}}, api.ErrForm},
		{colour, api.Value{Kind: api.TEnum, Num: 1, Text: "a"}, api.ErrForm},
		{text, api.Value{Kind: api.TString, Num: 1, Text: "abcd"}, api.ErrForm},
		{text, api.Value{Kind: api.TString, Text: "\x00", Items: []api.Value{bad}}, api.ErrForm},
		{text, str("\x00abc"), api.ErrLong},
		{text, str("abc\x00"), api.ErrLong},
		{some, api.Value{Kind: api.TSeq, Num: 1, Items: []api.Value{bad, bad, bad}}, api.ErrForm},
		{some, node(api.TSeq, bad, bad, bad), api.ErrLong},
		{fixed, api.Value{Kind: api.TArray, Text: "a"}, api.ErrForm},
		{fixed, node(api.TArray, bad), api.ErrNone},
		{fixed, node(api.TArray, bad, bad, bad), api.ErrNone},
		{point, api.Value{Kind: api.TStruct, Num: 1, Items: []api.Value{bad}}, api.ErrForm},
		{point, node(api.TStruct, bad), api.ErrNone},
		{point, node(api.TStruct, bad, bad, bad), api.ErrNone},
		{choice, api.Value{Kind: api.TUnion, Num: 256, Text: "a"}, api.ErrForm},
		{choice, api.Value{Kind: api.TUnion, Num: 7, Text: "a"}, api.ErrForm},
		{choice, union(256, bad, bad), api.ErrRange},
		{choice, union(7, bad, bad), api.ErrNone},
		{choice, union(8, bad), api.ErrNone},
		{hue, union(1, bad), api.ErrRange},
	} {
		wantGood(t, c.x, c.v, c.want)
	}
}

// An Item's reasons, however deep, count before those of the Item behind it.
func TestItemByItem(t *testing.T) {
	inside, bad := union(7, pointOf(1, "\x00")), api.Value{Kind: -1}
	wantGood(t, nest, node(api.TSeq, inside, bad), api.ErrText)
	wantGood(t, nest, node(api.TSeq, bad, inside), api.ErrKind)
	wantGood(t, nest, node(api.TSeq, union(8), inside, bad), api.ErrText)
	wantGood(t, nest, node(api.TSeq, inside, bad, bad, bad), api.ErrLong)
	wantGood(t, nest, node(api.TSeq, union(9), union(256)), api.ErrNone)
	wantGood(t, nest, node(api.TSeq, union(256), union(9)), api.ErrRange)
	wantGood(t, nest, node(api.TSeq, union(7, node(api.TStruct, str("\x00"))), bad), api.ErrNone)
	wantGood(t, point, pointOf(256, "abcd"), api.ErrRange)
	wantGood(t, point, node(api.TStruct, byteOf(1), api.Value{Kind: api.TString, Num: 1, Text: "\x00"}), api.ErrForm)
	wantGood(t, fixed, node(api.TArray, str("\x00"), str("abcd")), api.ErrText)
	wantGood(t, fixed, node(api.TArray, str("abcd"), str("\x00")), api.ErrLong)
}

// Promise 9.1, no valid list, or no such type.

// badLists are not valid, each in another way: in most of them, all types but the last are sound.
func badLists() [][]api.Type {
	with := func(change func(l []api.Type)) []api.Type {
		l := good()
		change(l)
		return l
	}
	return [][]api.Type{
		append(good(), api.Type{}),
		append(good(), api.Type{Kind: api.TUnion + 1}),
		append(good(), api.Type{Kind: -1}),
		append(good(), api.Type{Kind: api.TSeq, Bound: 2, Of: nest + 1}),
		append(good(), api.Type{Kind: api.TArray, Bound: 2, Of: -1}),
		append(good(), api.Type{Kind: api.TArray, Bound: 2, Of: math.MinInt}),
		append(good(), api.Type{Kind: api.TArray, Of: octet}),
		append(good(), api.Type{Kind: api.TArray, Bound: math.MaxInt, Of: octet}),
		append(good(), api.Type{Kind: api.TString, Bound: -1}),
		append(good(), api.Type{Kind: api.TEnum, Name: "New"}),
		append(good(), api.Type{Kind: api.TStruct, Name: "New"}),
		append(good(), api.Type{Kind: api.TStruct, Name: "New", Items: []api.Item{{Name: "a", Type: math.MaxInt}}}),
		append(good(), api.Type{Kind: api.TUnion, Name: "New", Tag: text, Items: named(1, octet)}),
		append(good(), api.Type{Kind: api.TUnion, Name: "New", Tag: -1, Items: named(1, octet)}),
		append(good(), api.Type{Kind: api.TUnion, Name: "New", Tag: nest + 1, Items: named(1, octet)}),
		append(good(), api.Type{Kind: api.TUnion, Name: "New", Tag: truth, Items: named(3, octet)}),
		append(good(), api.Type{Kind: api.TBool}, api.Type{Kind: api.TBool, Bound: 1}),
		with(func(l []api.Type) { l[0].Name = "a" }),
		with(func(l []api.Type) { l[point].Items[1].Type = point }),
		with(func(l []api.Type) { l[choice].Items[1].Num = 7 }),
		with(func(l []api.Type) { l[fixed].Of = fixed }),
		slices.Repeat([]api.Type{{Kind: api.TOctet}}, api.MaxTypes+1),
		append(within(api.TArray, 1, api.MaxDeep), api.Type{Kind: api.TSeq, Bound: 1, Of: api.MaxDeep - 1}),
		{{}},
		{{Kind: api.TSeq, Bound: 1}},
	}
}

func TestNotValid(t *testing.T) {
	for i, l := range badLists() {
		if types.Check(l).Err == api.OK {
			t.Errorf("list %d is valid", i)
		}
		for x := range l {
			for _, v := range samples() {
				wantFits(t, l, x, v, api.ErrType)
			}
			wantFits(t, l, x, api.Value{}, api.ErrType)
			wantNoBlank(t, l, x)
		}
		for _, x := range noPlaces(len(l)) {
			wantFits(t, l, x, byteOf(1), api.ErrType)
			wantNoBlank(t, l, x)
		}
	}
}

func TestNoSuchType(t *testing.T) {
	for _, v := range append(samples(), api.Value{}) {
		for _, x := range noPlaces(len(good())) {
			wantGood(t, x, v, api.ErrType)
		}
		for _, x := range noPlaces(0) {
			wantFits(t, nil, x, v, api.ErrType)
			wantFits(t, []api.Type{}, x, v, api.ErrType)
			wantFits(t, good()[:0], x, v, api.ErrType)
			wantNoBlank(t, nil, x)
			wantNoBlank(t, good()[:0], x)
		}
	}
	for _, x := range noPlaces(len(good())) {
		wantNoBlank(t, good(), x)
	}
	wantFits(t, good()[:point], point, pointOf(1, "a"), api.ErrType)
}

func TestMostTypes(t *testing.T) {
	l := slices.Repeat([]api.Type{{Kind: api.TOctet}}, api.MaxTypes)
	wantFits(t, l, api.MaxTypes-1, byteOf(1), api.OK)
	wantFits(t, l, api.MaxTypes, byteOf(1), api.ErrType)
}

// Promise 9.1, what is deep or large.

// named are so many items with names of their own, with numbers from 0 on.
func named(n, of int) []api.Item {
	l := make([]api.Item, n)
	for i := range l {
		l[i] = api.Item{Name: "i" + strconv.Itoa(i), Num: uint64(i), Type: of}
	}
	return l
}

// within are types of which each one is within the next, from the one of octets on.
func within(kind, bound, deep int) []api.Type {
	l := []api.Type{{Kind: api.TOctet}}
	for len(l) < deep {
		l = append(l, api.Type{Kind: kind, Bound: bound, Of: len(l) - 1})
	}
	return l
}

// tower is a value with a leaf within so many others.
func tower(kind, deep int, leaf api.Value) api.Value {
	for range deep - 1 {
		leaf = node(kind, leaf)
	}
	return leaf
}

func TestDeepValues(t *testing.T) {
	for _, kind := range []int{api.TSeq, api.TArray} {
		l := within(kind, 1, api.MaxDeep)
		x := len(l) - 1
		wantFits(t, l, x, tower(kind, api.MaxDeep, byteOf(1)), api.OK)
		wantFits(t, l, x, tower(kind, api.MaxDeep, byteOf(256)), api.ErrRange)
		wantFits(t, l, x, tower(kind, api.MaxDeep-1, byteOf(1)), api.ErrKind)
		wantFits(t, l, x, tower(kind, api.MaxDeep+1, byteOf(1)), api.ErrKind)
		wantFits(t, l, x, tower(kind, 1<<16, byteOf(1)), api.ErrKind)
		wantFits(t, l, 0, tower(kind, 1<<16, byteOf(1)), api.ErrKind)
	}
}

func TestLargeValues(t *testing.T) {
	l := within(api.TArray, 32, 4)
	v := byteOf(9)
	for range 3 {
		v = node(api.TArray, slices.Repeat([]api.Value{v}, 32)...)
	}
	wantFits(t, l, 3, v, api.OK)
	last := slices.Clone(v.Items[31].Items)
	last[31] = node(api.TArray, append(slices.Repeat([]api.Value{byteOf(9)}, 31), byteOf(256))...)
	v.Items[31] = node(api.TArray, last...)
	wantFits(t, l, 3, v, api.ErrRange)
	wantGood(t, some, api.Value{Kind: api.TSeq, Items: make([]api.Value, 1<<18)}, api.ErrLong)
	wantGood(t, octet, api.Value{Kind: api.TOctet, Items: make([]api.Value, 1<<18)}, api.ErrForm)
}

// Promise 9.1, values without a pattern.

// reason is an error at a place of a value: at the indices of the Items that lead there.
type reason struct {
	at   []int
	rank int
	err  api.Errno
}

// collector has all that is wrong with a value, in no order.
type collector struct {
	list []api.Type
	all  []reason
}

func (c *collector) add(wrong bool, at []int, rank int, err api.Errno) {
	if wrong {
		c.all = append(c.all, reason{slices.Clone(at), rank, err})
	}
}

func isNumeric(kind int) bool { return kind >= api.TBool && kind <= api.TEnum }

// isAllowed tells whether a number is one of a type's, or of a TUnion's tags.
func (c *collector) isAllowed(x api.Type, n uint64) bool {
	switch x.Kind {
	case api.TBool:
		return n < 2
	case api.TOctet:
		return uint64(uint8(n)) == n
	case api.TInt16:
		return uint64(int16(n)) == n
	case api.TUint16:
		return uint64(uint16(n)) == n
	case api.TInt32:
		return uint64(int32(n)) == n
	case api.TUint32:
		return uint64(uint32(n)) == n
	case api.TEnum:
		return slices.ContainsFunc(x.Items, func(m api.Item) bool { return m.Num == n })
	case api.TUnion:
		return c.isAllowed(c.list[x.Tag], n)
	}
	return true
}

// itemTypes are the types of the Items that a type's value must have, if it can be told how many.
func (c *collector) itemTypes(x api.Type, tag uint64) (l []int, exact bool) {
	switch x.Kind {
	case api.TSeq, api.TArray:
		return slices.Repeat([]int{x.Of}, x.Bound), x.Kind == api.TArray
	case api.TStruct:
		for _, m := range x.Items {
			l = append(l, m.Type)
		}
		return l, true
	case api.TUnion:
		for _, m := range x.Items {
			if m.Rest || m.Num == tag {
				return []int{m.Type}, true
			}
		}
		return nil, true
	}
	return nil, false
}

func (c *collector) collect(t int, v api.Value, at []int) {
	x := c.list[t]
	if v.Kind != x.Kind {
		c.add(true, at, 0, api.ErrKind)
		return
	}
	takesNum := isNumeric(x.Kind) || x.Kind == api.TUnion
	form := v.Num != 0 && !takesNum ||
		v.Text != "" && x.Kind != api.TString ||
		len(v.Items) > 0 && (isNumeric(x.Kind) || x.Kind == api.TString)
	c.add(form, at, 1, api.ErrForm)
	c.add(takesNum && !c.isAllowed(x, v.Num), at, 2, api.ErrRange)
	c.add(x.Kind == api.TString && len(v.Text) > x.Bound, at, 3, api.ErrLong)
	c.add(x.Kind == api.TSeq && len(v.Items) > x.Bound, at, 3, api.ErrLong)
	c.add(x.Kind == api.TString && strings.Contains(v.Text, "\x00"), at, 4, api.ErrText)
	l, exact := c.itemTypes(x, v.Num)
	c.add(exact && len(v.Items) != len(l), at, 5, api.ErrNone)
	for i, m := range v.Items[:min(len(l), len(v.Items))] {
		c.collect(l[i], m, append(at[:len(at):len(at)], i))
	}
}

// first is what counts of all that is wrong.
func first(l []api.Type, t int, v api.Value) api.Errno {
	c := &collector{list: l}
	c.collect(t, v, nil)
	if len(c.all) == 0 {
		return api.OK
	}
	return slices.MinFunc(c.all, func(a, b reason) int {
		return cmp.Or(slices.Compare(a.at, b.at), cmp.Compare(a.rank, b.rank))
	}).err
}

func randomItems(r *rand.Rand, kind, t int) []api.Item {
	l := named(1+r.Intn(4), 0)
	for i := range l {
		l[i].Num = uint64(r.Intn(6))
		if kind == api.TEnum && r.Intn(2) == 0 {
			l[i].Num = minus(l[i].Num)
		}
		if kind != api.TEnum {
			l[i].Type = r.Intn(t)
		}
		if kind == api.TStruct {
			l[i].Num = 0
		}
	}
	if last := &l[len(l)-1]; kind == api.TUnion && r.Intn(3) == 0 {
		last.Num, last.Rest = 0, true
	}
	return l
}

func randomType(r *rand.Rand, t int) api.Type {
	kind := 1 + r.Intn(api.TUnion)
	if t > 4 && r.Intn(2) == 0 {
		kind = api.TSeq + r.Intn(4)
	}
	x := api.Type{Kind: kind}
	switch kind {
	case api.TString:
		x.Bound = r.Intn(5)
	case api.TSeq, api.TArray:
		x.Bound, x.Of = 1+r.Intn(4), r.Intn(t)
	case api.TEnum, api.TStruct, api.TUnion:
		x.Name, x.Items = "t"+strconv.Itoa(t), randomItems(r, kind, t)
	}
	if kind == api.TUnion {
		x.Tag = r.Intn(t)
	}
	return x
}

// randomList is valid: a type that would not be is drawn again.
func randomList(r *rand.Rand) []api.Type {
	l := []api.Type{{Kind: 1 + r.Intn(api.TUint64)}}
	for n := r.Intn(14); len(l) <= n; {
		if longer := append(l, randomType(r, len(l))); types.Check(longer).Err == api.OK {
			l = longer
		}
	}
	return l
}

func randomNum(r *rand.Rand, c *collector, x api.Type) uint64 {
	n := r.Uint64() >> r.Intn(64)
	if r.Intn(2) == 0 {
		n = -n
	}
	for range 8 {
		if c.isAllowed(x, n) {
			return n
		}
		n = uint64(r.Intn(12)) - 6
	}
	return n
}

// randomValue is of a type, but for the numbers of some.
func randomValue(r *rand.Rand, c *collector, t int) api.Value {
	x := c.list[t]
	v := api.Value{Kind: x.Kind}
	if isNumeric(x.Kind) || x.Kind == api.TUnion {
		v.Num = randomNum(r, c, x)
	}
	if x.Kind == api.TString {
		v.Text = strings.Repeat("x", r.Intn(x.Bound+1))
	}
	l, exact := c.itemTypes(x, v.Num)
	if !exact && len(l) > 0 {
		l = l[:r.Intn(len(l)+1)]
	}
	for _, of := range l {
		v.Items = append(v.Items, randomValue(r, c, of))
	}
	return v
}

// inner is some value within another one, or that itself.
func inner(r *rand.Rand, v *api.Value) *api.Value {
	for len(v.Items) > 0 && r.Intn(3) > 0 {
		v = &v.Items[r.Intn(len(v.Items))]
	}
	return v
}

// harm changes a value somewhere within.
func harm(r *rand.Rand, v *api.Value) {
	m := inner(r, v)
	switch r.Intn(8) {
	case 0:
		m.Kind = r.Intn(17) - 1
	case 1:
		m.Num = uint64(r.Intn(20)) - 10
	case 2:
		m.Num ^= 1 << r.Intn(64)
	case 3:
		m.Text = "\x00" + m.Text[min(len(m.Text), 1):]
	case 4:
		m.Text += "xxx"
	case 5:
		m.Items = append(m.Items, api.Value{Kind: 1 + r.Intn(14)})
	case 6:
		m.Items = m.Items[:len(m.Items)-min(len(m.Items), 1)]
	default:
		m.Items = append(m.Items, *inner(r, m))
	}
}

func TestTheFirstOfAllReasons(t *testing.T) {
	r := rand.New(rand.NewSource(9))
	seen := map[api.Errno]int{}
	for range 2000 {
		l := randomList(r)
		c := &collector{list: l}
		for x := range l {
			v := randomValue(r, c, x)
			for range 6 {
				want := first(l, x, v)
				seen[want]++
				wantFits(t, l, x, v, want)
				if want == api.OK && value.Deep(v) > types.Deep(l, x) {
					t.Errorf("a value of depth %d, of a type of depth %d: %s", value.Deep(v), types.Deep(l, x), brief(v))
				}
				harm(r, &v)
			}
		}
	}
	for _, e := range []api.Errno{api.OK, api.ErrKind, api.ErrForm, api.ErrRange, api.ErrLong, api.ErrText, api.ErrNone} {
		if seen[e] < 100 {
			t.Errorf("%v: only %d times", e, seen[e])
		}
	}
}

// Promise 9.2.

func wantBlank(t *testing.T, l []api.Type, x int, want api.Value) {
	t.Helper()
	if f := types.Check(l); f != (api.Fault{}) {
		t.Fatalf("%v at %d: %v", f.Err, f.At, l)
	}
	if v, ok := Blank(l, x); !ok || !value.Same(v, want) {
		t.Errorf("Blank of type %d: %s, %v, want %s: %s", x, brief(v), ok, brief(want), brief(l))
	}
}

func wantNoBlank(t *testing.T, l []api.Type, x int) {
	t.Helper()
	if v, ok := Blank(l, x); ok || !reflect.DeepEqual(v, api.Value{}) {
		t.Errorf("Blank of type %d: %s, %v, want none: %s", x, brief(v), ok, brief(l))
	}
}

func wantBlankBehind(t *testing.T, x api.Type, want api.Value) {
	t.Helper()
	wantBlank(t, append(good(), x), len(good()), want)
}

func TestBlankOfEachType(t *testing.T) {
	for x := truth; x < colour; x++ {
		wantBlank(t, good(), x, num(x+1, 0))
	}
	for x, want := range map[int]api.Value{
		colour: num(api.TEnum, 7), text: str(""), none: str(""), some: node(api.TSeq), fixed: node(api.TArray, str(""), str("")),
		point: pointOf(0, ""), choice: union(0), rest: union(0, node(api.TSeq)), hue: union(7, node(api.TArray, str(""), str(""))), nest: node(api.TSeq),
	} {
		wantBlank(t, good(), x, want)
	}
}

func TestBlankOfWhatIsWithin(t *testing.T) {
	array := func(bound, of int) api.Type { return api.Type{Kind: api.TArray, Bound: bound, Of: of} }
	wantBlankBehind(t, array(1, colour), node(api.TArray, num(api.TEnum, 7)))
	wantBlankBehind(t, array(64, octet), node(api.TArray, slices.Repeat([]api.Value{byteOf(0)}, 64)...))
	wantBlankBehind(t, array(2, point), node(api.TArray, pointOf(0, ""), pointOf(0, "")))
	wantBlankBehind(t, array(3, choice), node(api.TArray, union(0), union(0), union(0)))
	fields := api.Type{Kind: api.TStruct, Name: "New", Items: []api.Item{{Name: "a", Type: colour}, {Name: "b", Type: rest}, {Name: "c", Type: point}, {Name: "d", Type: nest}}}
	wantBlankBehind(t, fields, node(api.TStruct, num(api.TEnum, 7), union(0, node(api.TSeq)), pointOf(0, ""), node(api.TSeq)))
}

// The first item of an enum counts, whether or not it has the least number.
func TestBlankOfEnums(t *testing.T) {
	for _, n := range []uint64{0, 1, 5, 1<<31 - 1, minus(1), minus(1 << 31)} {
		items := []api.Item{{Name: "a", Num: n}, {Name: "b", Num: 2}, {Name: "c", Num: minus(7)}, {Name: "d", Num: 3}}
		wantBlankBehind(t, api.Type{Kind: api.TEnum, Name: "New", Items: items}, num(api.TEnum, n))
	}
}

func TestBlankOfUnions(t *testing.T) {
	a := api.Item{Name: "a", Num: 1, Type: text}
	b := api.Item{Name: "b", Num: 0, Type: point}
	z := api.Item{Name: "z", Type: some, Rest: true}
	for tag := truth; tag < colour; tag++ {
		for _, c := range []struct {
			items []api.Item
			want  api.Value
		}{
			{[]api.Item{a}, union(0)}, {[]api.Item{b}, union(0, pointOf(0, ""))}, {[]api.Item{z}, union(0, node(api.TSeq))},
			{[]api.Item{a, b}, union(0, pointOf(0, ""))}, {[]api.Item{a, z}, union(0, node(api.TSeq))},
			{[]api.Item{b, z}, union(0, pointOf(0, ""))}, {[]api.Item{a, b, z}, union(0, pointOf(0, ""))},
		} {
			wantBlankBehind(t, api.Type{Kind: api.TUnion, Name: "New", Tag: tag, Items: c.items}, c.want)
		}
	}
	red, blue, green := a, a, b
	red.Num, blue.Num, green.Num = 7, minus(5), 0
	green.Name, blue.Name = "g", "b"
	for _, c := range []struct {
		items []api.Item
		want  api.Value
	}{
		{[]api.Item{red}, union(7, str(""))}, {[]api.Item{green, red}, union(7, str(""))}, {[]api.Item{green}, union(7)},
		{[]api.Item{green, blue}, union(7)}, {[]api.Item{green, z}, union(7, node(api.TSeq))}, {[]api.Item{green, red, z}, union(7, str(""))},
	} {
		wantBlankBehind(t, api.Type{Kind: api.TUnion, Name: "New", Tag: colour, Items: c.items}, c.want)
	}
}

// layered has an array of octets with some bound, whose blank value makes those of the types that hold it smaller or greater.
func layered(bound int) []api.Type {
	return []api.Type{
		{Kind: api.TOctet},
		{Kind: api.TArray, Bound: 64},
		{Kind: api.TArray, Bound: 30, Of: 1},
		{Kind: api.TArray, Bound: bound},
		{Kind: api.TStruct, Name: "S", Items: []api.Item{{Name: "a", Type: 3}, {Name: "b", Type: 2}}},
		{Kind: api.TUnion, Name: "U", Items: []api.Item{{Name: "a", Type: 4}}},
		{Kind: api.TUnion, Name: "V", Items: []api.Item{{Name: "a", Type: 4, Num: 1}}},
		{Kind: api.TSeq, Bound: 64, Of: 4},
	}
}

func TestBlankOfTheGreatestSizes(t *testing.T) {
	for bound := 44; bound < 50; bound++ {
		l := layered(bound)
		for x, size := range []int{1, 65, 1951, bound + 1, bound + 1953, bound + 1954, 1, 1} {
			if size > 2000 {
				wantNoBlank(t, l, x)
				continue
			}
			if v, ok := Blank(l, x); !ok || value.Great(v) != size || Fits(l, x, v) != api.OK {
				t.Errorf("Blank of type %d: %v, size %d, want %d", x, ok, value.Great(v), size)
			}
		}
	}
}

func TestBlankOfWhatIsTooGreat(t *testing.T) {
	structs := []api.Type{{Kind: api.TOctet}}
	for i := range api.MaxDeep - 1 {
		x := api.Type{Kind: api.TStruct, Name: "s" + strconv.Itoa(i), Items: named(api.MaxItems, i)}
		for k := range x.Items {
			x.Items[k].Num = 0
		}
		structs = append(structs, x)
	}
	arrays := within(api.TArray, 64, api.MaxDeep)
	for x, greats := range [][2]int{{1, 1}, {17, 65}, {273, 0}, {0, 0}, {0, 0}, {0, 0}} {
		for i, l := range [][]api.Type{structs, arrays} {
			if v, ok := Blank(l, x); ok != (greats[i] > 0) || ok && value.Great(v) != greats[i] {
				// What is made of the next type would be greater by far.
				t.Fatalf("Blank of type %d: %v, size %d, want %d", x, ok, value.Great(v), greats[i])
			}
		}
	}
	for x := range 3 {
		wantNoBlank(t, structs, x+3)
		wantNoBlank(t, arrays, x+3)
	}
}

// spoil changes each field of what was answered, and what it can reach behind its lists' ends.
func spoil(v *api.Value) {
	for i := range v.Items {
		spoil(&v.Items[i])
	}
	for i := range v.Items[:cap(v.Items)] {
		v.Items[:cap(v.Items)][i].Text = "spoilt"
	}
	v.Kind, v.Num, v.Text = -1, 99, "spoilt"
}

func TestBlankIsNewMemory(t *testing.T) {
	l := append(good(), api.Type{Kind: api.TArray, Bound: 4, Of: fixed}, api.Type{Kind: api.TArray, Bound: 3, Of: hue})
	l = append(l, api.Type{Kind: api.TStruct, Name: "New", Items: []api.Item{{Name: "a", Type: fixed}, {Name: "b", Type: fixed}, {Name: "c", Type: len(l) - 1}}})
	before := clone(l)
	for x := range l {
		v, _ := Blank(l, x)
		w, _ := Blank(l, x)
		spoil(&v)
		wantFits(t, l, x, w, api.OK)
		wantBlank(t, l, x, w)
		for i := range w.Items {
			other, _ := Blank(l, x)
			spoil(&w.Items[i])
			w.Items[i] = other.Items[i]
			wantBlank(t, l, x, w)
		}
	}
	if !reflect.DeepEqual(l, before) {
		t.Errorf("the list is now %v", l)
	}
}

func clone(l []api.Type) []api.Type {
	c := slices.Clone(l)
	for i := range c {
		c[i].Items = slices.Clone(c[i].Items)
	}
	return c
}

// seen is what a value has, and what lies behind the ends of its lists.
func seen(v api.Value) string {
	var b strings.Builder
	fmt.Fprintf(&b, "{%d %d %q", v.Kind, v.Num, v.Text)
	for _, m := range v.Items {
		b.WriteString(seen(m))
	}
	fmt.Fprint(&b, v.Items[len(v.Items):cap(v.Items)], "}")
	return b.String()
}

func TestArgumentsStay(t *testing.T) {
	whole := append(good(), api.Type{Kind: -7, Name: "behind", Items: named(3, 9)})
	before := clone(whole)
	l := whole[:len(whole)-1]
	for x := range l {
		for _, v := range samples() {
			was := seen(v)
			Fits(l, x, v)
			if seen(v) != was {
				t.Errorf("the value is now %s", seen(v))
			}
		}
		Blank(l, x)
	}
	if !reflect.DeepEqual(whole, before) {
		t.Errorf("the list is now %v", whole)
	}
}

// Promise 9.3.

// leastSize is the size of a type's blank value, told by its parts.
func leastSize(c *collector, t int) int {
	x, tag := c.list[t], uint64(0)
	if x.Kind == api.TSeq {
		return 1
	}
	if x.Kind == api.TUnion && c.list[x.Tag].Kind == api.TEnum {
		tag = c.list[x.Tag].Items[0].Num
	}
	size := 1
	l, _ := c.itemTypes(x, tag)
	for _, of := range l {
		size += leastSize(c, of)
	}
	return size
}

func TestBlankHasItsType(t *testing.T) {
	r := rand.New(rand.NewSource(93))
	for range 1500 {
		l := randomList(r)
		c := &collector{list: l}
		for x := range l {
			if size := leastSize(c, x); size > 2000 {
				wantNoBlank(t, l, x)
				continue
			} else if v, ok := Blank(l, x); !ok || value.Great(v) != size {
				t.Errorf("Blank of type %d: %v, size %d, want %d: %s", x, ok, value.Great(v), size, brief(l))
			}
			v, _ := Blank(l, x)
			wantFits(t, l, x, v, api.OK)
			if e := first(l, x, v); e != api.OK {
				t.Errorf("Blank of type %d has not its type: %v: %s", x, e, brief(l))
			}
			if value.Deep(v) > types.Deep(l, x) {
				t.Errorf("Blank of type %d has depth %d, its type %d", x, value.Deep(v), types.Deep(l, x))
			}
		}
	}
}

// The depth of a value is that of its type where all of it is there, and never more.
func TestDepths(t *testing.T) {
	for deep := 1; deep <= api.MaxDeep; deep++ {
		for _, kind := range []int{api.TSeq, api.TArray} {
			l := within(kind, 1, deep)
			v := tower(kind, deep, byteOf(1))
			wantFits(t, l, deep-1, v, api.OK)
			if value.Deep(v) != types.Deep(l, deep-1) {
				t.Errorf("depth %d, of a type of depth %d", value.Deep(v), types.Deep(l, deep-1))
			}
			for other := 1; other <= api.MaxDeep+1; other++ {
				if other > deep && Fits(l, deep-1, tower(kind, other, byteOf(1))) == api.OK {
					t.Errorf("a value of depth %d fits a type of depth %d", other, deep)
				}
			}
		}
	}
}
