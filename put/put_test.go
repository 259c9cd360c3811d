package put

import (
	"encoding/binary"
	"fmt"
	"math"
	"math/rand"
	"reflect"
	"slices"
	"strconv"
	"strings"
	"testing"

	"broadsheet/align"
	"broadsheet/api"
	"broadsheet/bounds"
	"broadsheet/fits"
	"broadsheet/types"
	"broadsheet/value"
)

// minus is a number below 0, by its widest two's complement.
func minus(n uint64) uint64 { return -n }

// Places in good.
const (
	truth  = api.TBool - 1
	octet  = api.TOctet - 1
	short  = api.TInt16 - 1
	long   = api.TInt64 - 1
	colour = api.TEnum - 1
	text   = 9  // up to 3 bytes
	none   = 10 // a text without bytes
	some   = 11 // up to 2 octets
	fixed  = 12 // 2 texts
	point  = 13 // an octet and a text
	choice = 14 // by an octet: a point, or a short
	rest   = 15 // by a truth: a text, or else octets
	hue    = 16 // by a colour: an octet, or texts, or nothing
	nest   = 17 // up to 3 choices
)

// good is a valid list: the numeric kinds stand at the places one below their numbers.
func good() []api.Type {
	return []api.Type{
		{Kind: api.TBool}, {Kind: api.TOctet}, {Kind: api.TInt16}, {Kind: api.TUint16},
		{Kind: api.TInt32}, {Kind: api.TUint32}, {Kind: api.TInt64}, {Kind: api.TUint64},
		{Kind: api.TEnum, Name: "Colour", Items: []api.Item{{Name: "red", Num: 7}, {Name: "blue", Num: minus(5)}, {Name: "green"}}},
		{Kind: api.TString, Bound: 3}, {Kind: api.TString},
		{Kind: api.TSeq, Bound: 2, Of: octet}, {Kind: api.TArray, Bound: 2, Of: text},
		{Kind: api.TStruct, Name: "Point", Items: []api.Item{{Name: "a", Type: octet, Key: true}, {Name: "b", Type: text}}},
		{Kind: api.TUnion, Name: "Choice", Tag: octet, Items: []api.Item{{Name: "a", Num: 7, Type: point}, {Name: "b", Num: 9, Type: short}}},
		{Kind: api.TUnion, Name: "Rest", Tag: truth, Items: []api.Item{{Name: "a", Num: 1, Type: text}, {Name: "z", Type: some, Rest: true}}},
		{Kind: api.TUnion, Name: "Hue", Tag: colour, Items: []api.Item{{Name: "a", Num: minus(5), Type: octet}, {Name: "b", Num: 7, Type: fixed}}},
		{Kind: api.TSeq, Bound: 3, Of: choice},
	}
}

func num(kind int, n uint64) api.Value { return api.Value{Kind: kind, Num: n} }

func str(s string) api.Value { return api.Value{Kind: api.TString, Text: s} }

func node(kind int, items ...api.Value) api.Value { return api.Value{Kind: kind, Items: items} }

func union(tag uint64, items ...api.Value) api.Value {
	return api.Value{Kind: api.TUnion, Num: tag, Items: items}
}

func byteOf(n uint64) api.Value { return num(api.TOctet, n) }

func pointOf(n uint64, s string) api.Value { return node(api.TStruct, byteOf(n), str(s)) }

// many has so many of the same value.
func many(v api.Value, n int) []api.Value { return slices.Repeat([]api.Value{v}, n) }

// samples has a value of each type of good.
func samples() []api.Value {
	l := []api.Value{
		num(api.TBool, 1), byteOf(255), num(api.TInt16, minus(3)), num(api.TUint16, 65535),
		num(api.TInt32, minus(1<<31)), num(api.TUint32, 1<<32-1), num(api.TInt64, minus(1)), num(api.TUint64, math.MaxUint64),
		num(api.TEnum, minus(5)), str("abc"), str(""),
		node(api.TSeq, byteOf(1), byteOf(2)), node(api.TArray, str("a"), str("bc")),
		pointOf(3, "x"), union(7, pointOf(3, "x")), union(0, node(api.TSeq, byteOf(1))), union(minus(5), byteOf(2)),
		node(api.TSeq, union(7, pointOf(3, "x")), union(9, num(api.TInt16, 5)), union(8)),
	}
	for i := range l {
		l[i] = roomy(l[i])
	}
	return l
}

// roomy is a value with a marked one behind the end of each list of Items.
func roomy(v api.Value) api.Value {
	l := make([]api.Value, 0, len(v.Items)+2)
	for _, m := range v.Items {
		l = append(l, roomy(m))
	}
	mark := str("behind the end")
	copy(l[len(l):cap(l)], []api.Value{mark, mark})
	v.Items = l
	return v
}

func noPlaces(n int) []int {
	return []int{math.MinInt, math.MinInt + 1, -n, -2, -1, n, n + 1, n + 2, 1 << 32, math.MaxInt}
}

// places are some at which a value can be written, all rests by eight among them.
func places() []int {
	l := []int{100, 255, 256, 257, api.MaxSize - 1, api.MaxSize}
	for at := range 24 {
		l = append(l, at)
	}
	return l
}

// beyond are places at which no value can be written.
func beyond() []int {
	return []int{math.MinInt, math.MinInt + 1, -1 << 32, -api.MaxSize, -8, -1, api.MaxSize + 1, api.MaxSize + 2, 1 << 16, 1 << 32, 1<<32 + 8, math.MaxInt}
}

// brief is what a failed test says of something.
func brief(x any) string {
	s := fmt.Sprint(x)
	return s[:min(len(s), 300)]
}

// pieces are bytes one behind the other: a number stands for itself as one byte, a text for its bytes.
func pieces(l ...any) string {
	var b []byte
	for _, x := range l {
		switch x := x.(type) {
		case int:
			b = append(b, byte(x))
		case string:
			b = append(b, x...)
		}
	}
	return string(b)
}

func wantPut(t *testing.T, l []api.Type, x int, v api.Value, want string) {
	t.Helper()
	if f := types.Check(l); f != (api.Fault{}) {
		t.Fatalf("%v at %d: %v", f.Err, f.At, l)
	}
	if s, e := Put(l, x, v); s != want || e != api.OK {
		t.Errorf("Put of type %d: %q, %v, want %q: %s, %s", x, s, e, want, brief(v), brief(l))
	}
	wantEnd(t, l, x, v, 0, len(want))
}

func wantEnd(t *testing.T, l []api.Type, x int, v api.Value, at, want int) {
	t.Helper()
	if n, e := End(l, x, v, at); n != want || e != api.OK {
		t.Errorf("End of type %d at %d: %d, %v, want %d: %s, %s", x, at, n, e, want, brief(v), brief(l))
	}
}

func wantNoPut(t *testing.T, l []api.Type, x int, v api.Value, want api.Errno) {
	t.Helper()
	if s, e := Put(l, x, v); s != "" || e != want {
		t.Errorf("Put of type %d: %q, %v, want %v: %s, %s", x, s, e, want, brief(v), brief(l))
	}
}

func wantNoEnd(t *testing.T, l []api.Type, x int, v api.Value, at int, want api.Errno) {
	t.Helper()
	if n, e := End(l, x, v, at); n != 0 || e != want {
		t.Errorf("End of type %d at %d: %d, %v, want %v: %s, %s", x, at, n, e, want, brief(v), brief(l))
	}
}

// wantGood asks about a type of good.
func wantGood(t *testing.T, x int, v api.Value, want string) {
	t.Helper()
	wantPut(t, good(), x, v, want)
}

// wantBehind asks about a type behind good.
func wantBehind(t *testing.T, x api.Type, v api.Value, want string) {
	t.Helper()
	wantPut(t, append(good(), x), len(good()), v, want)
}

// Promise 10.1, the bytes of each kind.

func TestNumbers(t *testing.T) {
	for _, c := range []struct {
		kind int
		n    uint64
		want string
	}{
		{api.TBool, 0, "\x00"}, {api.TBool, 1, "\x01"},
		{api.TOctet, 0, "\x00"}, {api.TOctet, 1, "\x01"}, {api.TOctet, 128, "\x80"}, {api.TOctet, 255, "\xff"},
		{api.TInt16, 0, "\x00\x00"}, {api.TInt16, 258, "\x02\x01"}, {api.TInt16, 1<<15 - 1, "\xff\x7f"},
		{api.TInt16, minus(1), "\xff\xff"}, {api.TInt16, minus(2), "\xfe\xff"}, {api.TInt16, minus(1 << 15), "\x00\x80"},
		{api.TUint16, 258, "\x02\x01"}, {api.TUint16, 1 << 15, "\x00\x80"}, {api.TUint16, 1<<16 - 1, "\xff\xff"},
		{api.TInt32, 0x04030201, "\x01\x02\x03\x04"}, {api.TInt32, 1<<31 - 1, "\xff\xff\xff\x7f"},
		{api.TInt32, minus(2), "\xfe\xff\xff\xff"}, {api.TInt32, minus(1 << 31), "\x00\x00\x00\x80"},
		{api.TUint32, 0x84030201, "\x01\x02\x03\x84"}, {api.TUint32, 1<<32 - 1, "\xff\xff\xff\xff"},
		{api.TInt64, 0x0807060504030201, "\x01\x02\x03\x04\x05\x06\x07\x08"}, {api.TInt64, minus(2), "\xfe\xff\xff\xff\xff\xff\xff\xff"},
		{api.TInt64, 1 << 63, "\x00\x00\x00\x00\x00\x00\x00\x80"},
		{api.TUint64, 0x8807060504030201, "\x01\x02\x03\x04\x05\x06\x07\x88"}, {api.TUint64, math.MaxUint64, "\xff\xff\xff\xff\xff\xff\xff\xff"},
		{api.TEnum, 7, "\x07\x00\x00\x00"}, {api.TEnum, 0, "\x00\x00\x00\x00"}, {api.TEnum, minus(5), "\xfb\xff\xff\xff"},
	} {
		wantGood(t, c.kind-1, num(c.kind, c.n), c.want)
	}
}

func TestEachNumberOfAByte(t *testing.T) {
	for n := range 256 {
		wantGood(t, octet, byteOf(uint64(n)), pieces(n))
	}
}

func TestTexts(t *testing.T) {
	wantGood(t, text, str(""), "\x01\x00\x00\x00\x00")
	wantGood(t, text, str("ab"), "\x03\x00\x00\x00ab\x00")
	wantGood(t, text, str("abc"), "\x04\x00\x00\x00abc\x00")
	wantGood(t, text, str("é'"), "\x04\x00\x00\x00\xc3\xa9'\x00")
	wantGood(t, text, str("\x01\xff\\"), "\x04\x00\x00\x00\x01\xff\\\x00")
	wantGood(t, none, str(""), "\x01\x00\x00\x00\x00")
	longest := api.Type{Kind: api.TString, Bound: api.MaxBound}
	for n := range api.MaxBound + 1 {
		s := strings.Repeat("x", n)
		wantBehind(t, longest, str(s), pieces(n+1, 0, 0, 0, s, 0))
	}
	for c := 1; c < 256; c++ {
		wantGood(t, text, str(pieces(c)), pieces(2, 0, 0, 0, c, 0))
	}
}

func TestSequences(t *testing.T) {
	wantGood(t, some, node(api.TSeq), "\x00\x00\x00\x00")
	wantGood(t, some, node(api.TSeq, byteOf(9)), "\x01\x00\x00\x00\x09")
	wantGood(t, some, node(api.TSeq, byteOf(9), byteOf(8)), "\x02\x00\x00\x00\x09\x08")
	seq := func(of int) api.Type { return api.Type{Kind: api.TSeq, Bound: api.MaxBound, Of: of} }
	wantBehind(t, seq(short), node(api.TSeq, num(api.TInt16, 1), num(api.TInt16, minus(2))), "\x02\x00\x00\x00\x01\x00\xfe\xff")
	wantBehind(t, seq(long), node(api.TSeq), "\x00\x00\x00\x00")
	wantBehind(t, seq(long), node(api.TSeq, num(api.TInt64, 3)), "\x01\x00\x00\x00\x00\x00\x00\x00\x03\x00\x00\x00\x00\x00\x00\x00")
	wantBehind(t, seq(text), node(api.TSeq, str("a"), str("")), "\x02\x00\x00\x00\x02\x00\x00\x00a\x00\x00\x00\x01\x00\x00\x00\x00")
	for n := range api.MaxBound + 1 {
		wantBehind(t, seq(octet), node(api.TSeq, many(byteOf(5), n)...), pieces(n, 0, 0, 0, strings.Repeat("\x05", n)))
	}
}

func TestArrays(t *testing.T) {
	wantGood(t, fixed, node(api.TArray, str("a"), str("bc")), "\x02\x00\x00\x00a\x00\x00\x00\x03\x00\x00\x00bc\x00")
	wantGood(t, fixed, node(api.TArray, str("abc"), str("")), "\x04\x00\x00\x00abc\x00\x01\x00\x00\x00\x00")
	for _, n := range []int{1, 2, 63, 64} {
		v := node(api.TArray)
		var want []byte
		for i := range n {
			v.Items = append(v.Items, num(api.TUint16, uint64(i)+256))
			want = append(want, byte(i), 1)
		}
		wantBehind(t, api.Type{Kind: api.TArray, Bound: n, Of: api.TUint16 - 1}, v, string(want))
	}
}

func TestStructs(t *testing.T) {
	wantGood(t, point, pointOf(9, "a"), "\x09\x00\x00\x00\x02\x00\x00\x00a\x00")
	l := []api.Type{{Kind: api.TOctet}, {Kind: api.TInt32}, {Kind: api.TStruct, Name: "S", Items: []api.Item{{Name: "a"}, {Name: "b", Type: 1}}}}
	wantPut(t, l, 2, node(api.TStruct, byteOf(1), num(api.TInt32, minus(2))), "\x01\x00\x00\x00\xfe\xff\xff\xff")
	// Fields of one type, and in another order than that of the types.
	x := api.Type{Kind: api.TStruct, Name: "New", Items: []api.Item{{Name: "a", Type: short}, {Name: "b", Type: octet}, {Name: "c", Type: octet}, {Name: "d", Type: short}}}
	wantBehind(t, x, node(api.TStruct, num(api.TInt16, 1), byteOf(2), byteOf(3), num(api.TInt16, 4)), "\x01\x00\x02\x03\x04\x00")
	most := api.Type{Kind: api.TStruct, Name: "New"}
	v, want := node(api.TStruct), ""
	for i := range api.MaxItems {
		most.Items = append(most.Items, api.Item{Name: "i" + strconv.Itoa(i), Type: octet, Key: i%2 == 0})
		v.Items = append(v.Items, byteOf(uint64(i)))
		want += pieces(i)
	}
	wantBehind(t, most, v, want)
}

func TestUnions(t *testing.T) {
	wantGood(t, choice, union(7, pointOf(3, "x")), "\x07\x03\x00\x00\x02\x00\x00\x00x\x00")
	wantGood(t, choice, union(9, num(api.TInt16, minus(2))), "\x09\x00\xfe\xff")
	wantGood(t, choice, union(0), "\x00")
	wantGood(t, choice, union(255), "\xff")
	wantGood(t, rest, union(1, str("a")), "\x01\x00\x00\x00\x02\x00\x00\x00a\x00")
	wantGood(t, rest, union(0, node(api.TSeq, byteOf(5))), "\x00\x00\x00\x00\x01\x00\x00\x00\x05")
	wantGood(t, hue, union(minus(5), byteOf(2)), "\xfb\xff\xff\xff\x02")
	wantGood(t, hue, union(7, node(api.TArray, str(""), str("a"))), "\x07\x00\x00\x00\x01\x00\x00\x00\x00\x00\x00\x00\x02\x00\x00\x00a\x00")
	wantGood(t, hue, union(0), "\x00\x00\x00\x00")
}

func TestTagsOfEachKind(t *testing.T) {
	for tag, v := range samples()[:colour+1] {
		open := api.Type{Kind: api.TUnion, Name: "New", Tag: tag, Items: []api.Item{{Name: "a", Type: octet}}}
		others := open
		others.Items = []api.Item{{Name: "a", Type: text}, {Name: "z", Type: octet, Rest: true}}
		alone, _ := Put(good(), tag, v)
		wantBehind(t, open, union(v.Num), alone)
		wantBehind(t, others, union(v.Num, byteOf(9)), alone+"\x09")
		wantBehind(t, open, union(0, byteOf(9)), strings.Repeat("\x00", len(alone))+"\x09")
		l := append(good(), open, api.Type{Kind: api.TArray, Bound: 2, Of: len(good())})
		wantPut(t, l, len(l)-1, node(api.TArray, union(v.Num), union(v.Num)), alone+alone)
	}
}

// Unions can be told apart only by their tags: what is within them is gone through by the branch's type.
func TestUnionsWithinUnions(t *testing.T) {
	l := append(good(),
		api.Type{Kind: api.TUnion, Name: "Narrow", Tag: octet, Items: []api.Item{{Name: "a", Num: 3, Type: octet}}},
		api.Type{Kind: api.TUnion, Name: "Wide", Tag: long, Items: []api.Item{{Name: "a", Num: 3, Type: octet}}},
		api.Type{Kind: api.TUnion, Name: "Both", Tag: short, Items: []api.Item{
			{Name: "a", Num: 5, Type: 18}, {Name: "b", Num: minus(5), Type: 19}, {Name: "c", Type: 18}, {Name: "z", Type: 19, Rest: true}}})
	narrow, wide := "\x03\x04", "\x00\x00\x00\x00\x00\x00\x03\x00\x00\x00\x00\x00\x00\x00\x04"
	inside := union(3, byteOf(4))
	wantPut(t, l, 20, union(5, inside), "\x05\x00"+narrow)
	wantPut(t, l, 20, union(minus(5), inside), "\xfb\xff"+wide)
	wantPut(t, l, 20, union(0, inside), "\x00\x00"+narrow)
	wantPut(t, l, 20, union(1, inside), "\x01\x00"+wide)
	wantPut(t, l, 20, union(5, union(4)), "\x05\x00\x04")
}

// Promise 10.1, gaps.

func TestGaps(t *testing.T) {
	for _, v := range samples()[:colour+1] {
		size := len(mustPut(t, good(), v.Kind-1, v))
		for before := range 10 {
			x := api.Type{Kind: api.TStruct, Name: "New"}
			s := node(api.TStruct)
			for i := range before {
				x.Items = append(x.Items, api.Item{Name: "i" + strconv.Itoa(i), Type: octet})
				s.Items = append(s.Items, byteOf(255))
			}
			x.Items = append(x.Items, api.Item{Name: "v", Type: v.Kind - 1}, api.Item{Name: "last", Type: octet})
			s.Items = append(s.Items, v, byteOf(170))
			gap := strings.Repeat("\x00", (size-before%size)%size)
			wantBehind(t, x, s, strings.Repeat("\xff", before)+gap+mustPut(t, good(), v.Kind-1, v)+"\xaa")
		}
	}
}

// There is no gap behind a value: only ahead of numbers.
func TestNoGapAtTheEnd(t *testing.T) {
	x := api.Type{Kind: api.TStruct, Name: "New", Items: []api.Item{{Name: "a", Type: long}, {Name: "b", Type: octet}}}
	l := append(good(), x, api.Type{Kind: api.TArray, Bound: 2, Of: len(good())}, api.Type{Kind: api.TStruct, Name: "Two", Items: []api.Item{{Name: "a", Type: len(good())}, {Name: "b", Type: octet}}})
	one := node(api.TStruct, num(api.TInt64, 1), byteOf(2))
	bytes := "\x01\x00\x00\x00\x00\x00\x00\x00\x02"
	wantPut(t, l, len(l)-3, one, bytes)
	wantPut(t, l, len(l)-2, node(api.TArray, one, one), bytes+strings.Repeat("\x00", 7)+bytes)
	wantPut(t, l, len(l)-1, node(api.TStruct, one, byteOf(3)), bytes+"\x03")
}

func mustPut(t *testing.T, l []api.Type, x int, v api.Value) string {
	t.Helper()
	s, e := Put(l, x, v)
	if e != api.OK {
		t.Fatalf("Put of type %d: %v: %s", x, e, brief(v))
	}
	return s
}

// Promise 10.1, ends.

func TestEnds(t *testing.T) {
	for x, v := range samples()[:colour+1] {
		size := len(mustPut(t, good(), x, v))
		for at := range api.MaxSize + 1 {
			wantEnd(t, good(), x, v, at, (at+size-1)/size*size+size)
		}
	}
	for at := range api.MaxSize + 1 {
		number := (at+3)/4*4 + 4
		wantEnd(t, good(), text, str(""), at, number+1)
		wantEnd(t, good(), text, str("abc"), at, number+4)
		wantEnd(t, good(), some, node(api.TSeq), at, number)
		wantEnd(t, good(), some, node(api.TSeq, byteOf(1), byteOf(2)), at, number+2)
		wantEnd(t, good(), fixed, node(api.TArray, str("a"), str("bc")), at, number+4+4+3)
		wantEnd(t, good(), choice, union(8), at, at+1)
		wantEnd(t, good(), choice, union(9, num(api.TInt16, 5)), at, (at+2)/2*2+2)
		wantEnd(t, good(), point, pointOf(1, "x"), at, (at+4)/4*4+4+2)
	}
}

func TestEndsBeyondAllPlaces(t *testing.T) {
	wantEnd(t, good(), octet, byteOf(1), api.MaxSize, api.MaxSize+1)
	wantEnd(t, good(), long, num(api.TInt64, 1), api.MaxSize, api.MaxSize+8)
	wantEnd(t, good(), long, num(api.TInt64, 1), api.MaxSize-1, api.MaxSize+8)
	wantEnd(t, wide(64, 3), 2, wideOf(64, 3), api.MaxSize, api.MaxSize+64*64*8)
	for _, v := range samples() {
		for _, at := range beyond() {
			wantNoEnd(t, good(), v.Kind-1, v, at, api.ErrRange)
		}
	}
	// The place counts before what the value or the list has.
	for _, at := range beyond() {
		wantNoEnd(t, good(), octet, byteOf(256), at, api.ErrRange)
		wantNoEnd(t, good(), octet, api.Value{}, at, api.ErrRange)
		wantNoEnd(t, good(), -1, byteOf(1), at, api.ErrRange)
		wantNoEnd(t, nil, 0, byteOf(1), at, api.ErrRange)
		wantNoEnd(t, []api.Type{{}}, 0, byteOf(1), at, api.ErrRange)
	}
}

// Promise 10.1, what is too long.

// wide has arrays of arrays of numbers of eight bytes.
func wide(bound, deep int) []api.Type {
	l := []api.Type{{Kind: api.TInt64}}
	for len(l) < deep {
		l = append(l, api.Type{Kind: api.TArray, Bound: bound, Of: len(l) - 1})
	}
	return l
}

// wideOf is a value of the last type of wide, whose Items are one and the same memory: there is much more of it to go through than there is.
func wideOf(bound, deep int) api.Value {
	v := num(api.TInt64, 1)
	for range deep - 1 {
		v = node(api.TArray, many(v, bound)...)
	}
	return v
}

func TestMostBytes(t *testing.T) {
	one := "\x01\x00\x00\x00\x00\x00\x00\x00"
	l := append(wide(64, 2), api.Type{Kind: api.TOctet},
		api.Type{Kind: api.TStruct, Name: "Behind", Items: []api.Item{{Name: "a", Type: 1}, {Name: "b", Type: 2}}},
		api.Type{Kind: api.TStruct, Name: "Ahead", Items: []api.Item{{Name: "b", Type: 2}, {Name: "a", Type: 1}}})
	v := wideOf(64, 2)
	wantPut(t, l, 1, v, strings.Repeat(one, 64))
	wantNoPut(t, l, 3, node(api.TStruct, v, byteOf(1)), api.ErrLong)
	wantNoPut(t, l, 4, node(api.TStruct, byteOf(1), v), api.ErrLong)
	wantEnd(t, l, 3, node(api.TStruct, v, byteOf(1)), 0, api.MaxSize+1)
	wantEnd(t, l, 4, node(api.TStruct, byteOf(1), v), 0, api.MaxSize+8)
}

// What is too long by one byte only is told by each kind that can stand at the end.
func TestOneByteTooLong(t *testing.T) {
	l := append(good(), api.Type{Kind: api.TArray, Bound: 62, Of: long}, api.Type{Kind: api.TString, Bound: 13}, api.Type{Kind: api.TSeq, Bound: 13, Of: octet})
	for tail, last := range [][]api.Value{{str(strings.Repeat("x", 11)), str(strings.Repeat("x", 12))}, {node(api.TSeq, many(byteOf(1), 12)...), node(api.TSeq, many(byteOf(1), 13)...)}} {
		x := api.Type{Kind: api.TStruct, Name: "New", Items: []api.Item{{Name: "a", Type: len(good())}, {Name: "b", Type: len(good()) + 1 + tail}}}
		l := append(l, x)
		eights := node(api.TArray, many(num(api.TInt64, 1), 62)...)
		if s := mustPut(t, l, len(l)-1, node(api.TStruct, eights, last[0])); len(s) != api.MaxSize {
			t.Errorf("%d bytes", len(s))
		}
		wantNoPut(t, l, len(l)-1, node(api.TStruct, eights, last[1]), api.ErrLong)
		wantEnd(t, l, len(l)-1, node(api.TStruct, eights, last[1]), 0, api.MaxSize+1)
	}
}

func TestFarTooLong(t *testing.T) {
	for deep, n := 3, 64*64*8; deep <= 4; deep, n = deep+1, n*64 {
		l, v := wide(64, deep), wideOf(64, deep)
		wantNoPut(t, l, deep-1, v, api.ErrLong)
		wantEnd(t, l, deep-1, v, 0, n)
		wantEnd(t, l, deep-1, v, 1, n+8)
	}
}

// A value that has not its type is not too long, however long it is.
func TestTooLongAndWrong(t *testing.T) {
	l, v := wide(64, 3), wideOf(64, 3)
	v.Items[63] = byteOf(1)
	wantNoPut(t, l, 2, v, api.ErrKind)
	wantNoEnd(t, l, 2, v, 0, api.ErrKind)
	wantNoPut(t, append(l, api.Type{}), 2, wideOf(64, 3), api.ErrType)
	wantNoPut(t, l, 3, wideOf(64, 3), api.ErrType)
}

// Promise 10.1, what has not its type.

func TestErrorsOfFits(t *testing.T) {
	for _, c := range []struct {
		x    int
		v    api.Value
		want api.Errno
	}{
		{-1, byteOf(1), api.ErrType}, {nest + 1, byteOf(1), api.ErrType},
		{octet, num(api.TBool, 1), api.ErrKind}, {octet, api.Value{}, api.ErrKind}, {point, node(api.TStruct, str("a"), byteOf(1)), api.ErrKind},
		{octet, api.Value{Kind: api.TOctet, Text: "a"}, api.ErrForm}, {text, api.Value{Kind: api.TString, Num: 1}, api.ErrForm},
		{octet, byteOf(256), api.ErrRange}, {truth, num(api.TBool, 2), api.ErrRange}, {short, num(api.TInt16, 1<<16-1), api.ErrRange},
		{colour, num(api.TEnum, 1), api.ErrRange}, {colour, num(api.TEnum, 1<<32-5), api.ErrRange}, {choice, union(256), api.ErrRange}, {hue, union(1), api.ErrRange},
		{text, str("abcd"), api.ErrLong}, {none, str("a"), api.ErrLong}, {some, node(api.TSeq, many(byteOf(1), 3)...), api.ErrLong},
		{text, str("a\x00"), api.ErrText}, {nest, node(api.TSeq, union(7, pointOf(1, "\x00"))), api.ErrText},
		{fixed, node(api.TArray, str("a")), api.ErrNone}, {point, node(api.TStruct, byteOf(1)), api.ErrNone},
		{choice, union(7), api.ErrNone}, {choice, union(8, byteOf(1)), api.ErrNone},
	} {
		wantNoPut(t, good(), c.x, c.v, c.want)
		for _, at := range places() {
			wantNoEnd(t, good(), c.x, c.v, at, c.want)
		}
	}
}

// badLists are not valid, each in another way: in most of them, all types but the last are sound.
func badLists() [][]api.Type {
	with := func(change func(l []api.Type)) []api.Type {
		l := good()
		change(l)
		return l
	}
	return [][]api.Type{
		nil,
		append(good(), api.Type{}),
		append(good(), api.Type{Kind: api.TUnion + 1}),
		append(good(), api.Type{Kind: api.TSeq, Bound: 2, Of: nest + 1}),
		append(good(), api.Type{Kind: api.TArray, Bound: 2, Of: math.MinInt}),
		append(good(), api.Type{Kind: api.TArray, Bound: math.MaxInt, Of: octet}),
		append(good(), api.Type{Kind: api.TStruct, Name: "New"}),
		append(good(), api.Type{Kind: api.TStruct, Name: "New", Items: []api.Item{{Name: "a", Type: math.MaxInt}}}),
		append(good(), api.Type{Kind: api.TUnion, Name: "New", Tag: text, Items: []api.Item{{Name: "a", Type: octet}}}),
		append(good(), api.Type{Kind: api.TUnion, Name: "New", Tag: nest + 1, Items: []api.Item{{Name: "a", Type: octet}}}),
		with(func(l []api.Type) { l[0].Name = "a" }),
		with(func(l []api.Type) { l[point].Items[1].Type = point }),
		with(func(l []api.Type) { l[choice].Items[1].Num = 7 }),
		with(func(l []api.Type) { l[fixed].Of = fixed }),
		slices.Repeat([]api.Type{{Kind: api.TOctet}}, api.MaxTypes+1),
		{{}},
		{{Kind: api.TSeq, Bound: 1}},
	}
}

func TestNotValid(t *testing.T) {
	for _, l := range badLists() {
		for _, v := range append(samples(), api.Value{}) {
			for x := range l {
				wantNoPut(t, l, x, v, api.ErrType)
				wantNoEnd(t, l, x, v, 3, api.ErrType)
			}
			for _, x := range noPlaces(len(l)) {
				wantNoPut(t, l, x, v, api.ErrType)
				wantNoEnd(t, l, x, v, 3, api.ErrType)
			}
		}
	}
	for _, x := range noPlaces(len(good())) {
		wantNoPut(t, good(), x, byteOf(1), api.ErrType)
		wantNoEnd(t, good(), x, byteOf(1), 0, api.ErrType)
	}
}

func TestVeryDeepValues(t *testing.T) {
	v := byteOf(1)
	for range 1 << 16 {
		v = node(api.TSeq, v)
	}
	for x := range good() {
		s, e := Put(good(), x, v)
		if s != "" || e != fits.Fits(good(), x, v) {
			t.Errorf("Put of type %d: %q, %v", x, s, e)
		}
	}
}

func TestArgumentsStay(t *testing.T) {
	whole := append(good(), api.Type{Kind: -7, Name: "behind", Items: []api.Item{{Name: "a", Num: 9}}})
	before := append(good(), api.Type{Kind: -7, Name: "behind", Items: []api.Item{{Name: "a", Num: 9}}})
	l := whole[:len(whole)-1]
	for x := range l {
		for _, v := range samples() {
			was := seen(v)
			Put(l, x, v)
			End(l, x, v, 3)
			if seen(v) != was {
				t.Errorf("the value is now %s", seen(v))
			}
		}
	}
	if !reflect.DeepEqual(whole, before) {
		t.Errorf("the list is now %v", whole)
	}
}

// seen is what a value has, and what lies behind the ends of its lists.
func seen(v api.Value) string {
	var b strings.Builder
	fmt.Fprintf(&b, "{%d %d %q", v.Kind, v.Num, v.Text)
	for _, m := range v.Items {
		b.WriteString(seen(m))
	}
	fmt.Fprint(&b, v.Items[len(v.Items):cap(v.Items)], "}")
	return b.String()
}

// Promise 10.1, values without a pattern.

// widths are the numeric kinds' sizes.
func widths() []int { return []int{0, 1, 1, 2, 2, 4, 4, 8, 8, 4} }

// writer writes bytes behind those that there are, by a rule of its own.
type writer struct {
	list  []api.Type
	bytes []byte
}

func (w *writer) number(n uint64, size int) {
	for len(w.bytes)%size > 0 {
		w.bytes = append(w.bytes, 0)
	}
	w.bytes = append(w.bytes, binary.LittleEndian.AppendUint64(nil, n)[:size]...)
}

func (w *writer) write(t int, v api.Value) {
	x := w.list[t]
	switch x.Kind {
	case api.TString:
		w.number(uint64(len(v.Text))+1, 4)
		w.bytes = append(append(w.bytes, v.Text...), 0)
	case api.TSeq:
		w.number(uint64(len(v.Items)), 4)
	case api.TUnion:
		w.number(v.Num, widths()[w.list[x.Tag].Kind])
	case api.TArray, api.TStruct:
	default:
		w.number(v.Num, widths()[x.Kind])
	}
	for i, of := range itemTypes(x, v.Num)[:len(v.Items)] {
		w.write(of, v.Items[i])
	}
}

// itemTypes are the types of the Items that a type's value has, or of the most that it can have.
func itemTypes(x api.Type, tag uint64) []int {
	var l []int
	switch x.Kind {
	case api.TSeq, api.TArray:
		return slices.Repeat([]int{x.Of}, x.Bound)
	case api.TStruct:
		for _, m := range x.Items {
			l = append(l, m.Type)
		}
	case api.TUnion:
		for _, m := range x.Items {
			if m.Rest || m.Num == tag {
				return []int{m.Type}
			}
		}
	}
	return l
}

// reader reads what writer writes, and nothing that is wrong.
type reader struct {
	list  []api.Type
	bytes string
	at    int
}

func (r *reader) number(kind int) uint64 {
	size := widths()[kind]
	r.at += (size - r.at%size) % size
	b := []byte(r.bytes[r.at : r.at+size])
	r.at += size
	n := binary.LittleEndian.Uint64(append(b, make([]byte, 8)...))
	switch kind {
	case api.TInt16:
		return uint64(int16(n))
	case api.TInt32, api.TEnum:
		return uint64(int32(n))
	}
	return n
}

func (r *reader) read(t int) api.Value {
	x := r.list[t]
	v := api.Value{Kind: x.Kind}
	if x.Kind <= api.TEnum {
		v.Num = r.number(x.Kind)
	}
	if x.Kind == api.TUnion {
		v.Num = r.number(r.list[x.Tag].Kind)
	}
	l := itemTypes(x, v.Num)
	switch x.Kind {
	case api.TString:
		n := int(r.number(api.TUint32))
		v.Text = r.bytes[r.at : r.at+n-1]
		r.at += n
	case api.TSeq:
		l = l[:r.number(api.TUint32)]
	}
	for _, of := range l {
		v.Items = append(v.Items, r.read(of))
	}
	return v
}

func randomItems(r *rand.Rand, kind, t int) []api.Item {
	l := make([]api.Item, 1+r.Intn(4))
	for i := range l {
		l[i] = api.Item{Name: "i" + strconv.Itoa(i), Num: uint64(r.Intn(6)), Type: r.Intn(t)}
		switch kind {
		case api.TEnum:
			l[i].Type = 0
			if r.Intn(2) == 0 {
				l[i].Num = minus(l[i].Num)
			}
		case api.TStruct:
			l[i].Num = 0
		}
	}
	if last := &l[len(l)-1]; kind == api.TUnion && r.Intn(3) == 0 {
		last.Num, last.Rest = 0, true
	}
	return l
}

func randomType(r *rand.Rand, t int) api.Type {
	kind := 1 + r.Intn(api.TUnion)
	if t > 4 && r.Intn(2) == 0 {
		kind = api.TSeq + r.Intn(4)
	}
	x := api.Type{Kind: kind}
	switch kind {
	case api.TString:
		x.Bound = r.Intn(5)
	case api.TSeq, api.TArray:
		x.Bound, x.Of = 1+r.Intn(9), r.Intn(t)
	case api.TEnum, api.TStruct, api.TUnion:
		x.Name, x.Items = "t"+strconv.Itoa(t), randomItems(r, kind, t)
	}
	if kind == api.TUnion {
		x.Tag = r.Intn(t)
	}
	return x
}

// randomList is valid: a type that would not be is drawn again.
func randomList(r *rand.Rand) []api.Type {
	l := []api.Type{{Kind: 1 + r.Intn(api.TUint64)}}
	for n := r.Intn(24); len(l) <= n; {
		if longer := append(l, randomType(r, len(l))); types.Check(longer).Err == api.OK {
			l = longer
		}
	}
	return l
}

func isAllowed(l []api.Type, x api.Type, n uint64) bool {
	switch x.Kind {
	case api.TBool:
		return n < 2
	case api.TOctet:
		return uint64(uint8(n)) == n
	case api.TInt16:
		return uint64(int16(n)) == n
	case api.TUint16:
		return uint64(uint16(n)) == n
	case api.TInt32:
		return uint64(int32(n)) == n
	case api.TUint32:
		return uint64(uint32(n)) == n
	case api.TEnum:
		return slices.ContainsFunc(x.Items, func(m api.Item) bool { return m.Num == n })
	case api.TUnion:
		return isAllowed(l, l[x.Tag], n)
	}
	return true
}

// randomNum is one that a type allows, often that of an item.
func randomNum(r *rand.Rand, l []api.Type, x api.Type) uint64 {
	if x.Kind == api.TUnion {
		if i := r.Intn(len(x.Items) + 1); i < len(x.Items) && !x.Items[i].Rest {
			return x.Items[i].Num
		}
		return randomNum(r, l, l[x.Tag])
	}
	if x.Kind == api.TEnum {
		return x.Items[r.Intn(len(x.Items))].Num
	}
	for {
		n := r.Uint64() >> r.Intn(64)
		if r.Intn(2) == 0 {
			n = -n
		}
		if isAllowed(l, x, n) {
			return n
		}
	}
}

// randomValue is of a type.
func randomValue(r *rand.Rand, l []api.Type, t int) api.Value {
	x := l[t]
	v := api.Value{Kind: x.Kind}
	if x.Kind <= api.TEnum || x.Kind == api.TUnion {
		v.Num = randomNum(r, l, x)
	}
	if x.Kind == api.TString {
		for range r.Intn(x.Bound + 1) {
			v.Text += pieces(1 + r.Intn(255)>>r.Intn(8))
		}
	}
	items := itemTypes(x, v.Num)
	if x.Kind == api.TSeq {
		items = items[:r.Intn(len(items)+1)]
	}
	for _, of := range items {
		v.Items = append(v.Items, randomValue(r, l, of))
	}
	return v
}

// eachRandom calls with random values of each type of random lists.
func eachRandom(t *testing.T, seed int64, lists int, f func(r *rand.Rand, l []api.Type, x int, v api.Value)) {
	t.Helper()
	r := rand.New(rand.NewSource(seed))
	for range lists {
		l := randomList(r)
		for x := range l {
			for range 4 {
				v := randomValue(r, l, x)
				if e := fits.Fits(l, x, v); e != api.OK {
					t.Fatalf("%v: %s, %s", e, brief(v), brief(l[x]))
				}
				f(r, l, x, v)
			}
		}
	}
}

func TestRandomValues(t *testing.T) {
	long := 0
	eachRandom(t, 10, 800, func(r *rand.Rand, l []api.Type, x int, v api.Value) {
		w := writer{list: l}
		w.write(x, v)
		if len(w.bytes) > api.MaxSize {
			long++
			wantNoPut(t, l, x, v, api.ErrLong)
			wantEnd(t, l, x, v, 0, len(w.bytes))
		} else {
			wantPut(t, l, x, v, string(w.bytes))
		}
		at := r.Intn(api.MaxSize + 1)
		w.bytes = make([]byte, at)
		w.write(x, v)
		wantEnd(t, l, x, v, at, len(w.bytes))
	})
	if long < 100 {
		t.Errorf("only %d values with more bytes than may be", long)
	}
}

// Promise 10.2.

// all are the values of a type, but for most numbers and texts: those that stay look like one another's sizes and ends.
func all(l []api.Type, t int) []api.Value {
	x := l[t]
	switch x.Kind {
	case api.TBool, api.TOctet:
		return []api.Value{num(x.Kind, 0), num(x.Kind, 1)}
	case api.TEnum:
		var vs []api.Value
		for _, m := range x.Items {
			vs = append(vs, num(x.Kind, m.Num))
		}
		return vs
	case api.TString:
		return []api.Value{str(""), str("\x01"), str("\x02"), str("\x01\x01"), str("\x02\x01"), str("\x01\x02"), str("\x01\x01\x01")}
	case api.TSeq, api.TArray, api.TStruct:
		return allItems(l, x, api.Value{Kind: x.Kind})
	case api.TUnion:
		var vs []api.Value
		for _, tag := range all(l, x.Tag) {
			vs = append(vs, allItems(l, x, union(tag.Num))...)
		}
		return vs
	}
	return nil
}

// allItems are what a value can be with each Item that it can have.
func allItems(l []api.Type, x api.Type, v api.Value) []api.Value {
	heads := []api.Value{v}
	vs := heads
	for _, of := range itemTypes(x, v.Num) {
		var longer []api.Value
		for _, h := range heads {
			for _, m := range all(l, of) {
				longer = append(longer, api.Value{Kind: h.Kind, Num: h.Num, Items: append(slices.Clone(h.Items), m)})
			}
		}
		heads = longer
		vs = append(vs, heads...)
	}
	if x.Kind == api.TSeq {
		return vs
	}
	return heads
}

func TestDifferentValuesHaveDifferentBytes(t *testing.T) {
	l := []api.Type{
		{Kind: api.TBool}, {Kind: api.TOctet},
		{Kind: api.TEnum, Name: "E", Items: []api.Item{{Name: "a"}, {Name: "b", Num: minus(1)}, {Name: "c", Num: 1}, {Name: "d", Num: 1<<31 - 1}, {Name: "e", Num: minus(1 << 31)}}},
		{Kind: api.TString, Bound: 3},
		{Kind: api.TSeq, Bound: 4, Of: 1}, {Kind: api.TSeq, Bound: 2, Of: 3}, {Kind: api.TSeq, Bound: 2, Of: 4},
		{Kind: api.TArray, Bound: 3, Of: 1}, {Kind: api.TArray, Bound: 2, Of: 3},
		{Kind: api.TUnion, Name: "U", Tag: 1, Items: []api.Item{{Name: "a", Type: 3, Num: 1}}},
		{Kind: api.TUnion, Name: "V", Tag: 2, Items: []api.Item{{Name: "a", Type: 3, Num: 1}, {Name: "b", Type: 4, Num: minus(1)}, {Name: "z", Type: 0, Rest: true}}},
		{Kind: api.TSeq, Bound: 2, Of: 9}, {Kind: api.TSeq, Bound: 2, Of: 10},
		{Kind: api.TStruct, Name: "S", Items: []api.Item{{Name: "a", Type: 4}, {Name: "b", Type: 4}}},
		{Kind: api.TStruct, Name: "T", Items: []api.Item{{Name: "a", Type: 9}, {Name: "b", Type: 3}}},
		{Kind: api.TStruct, Name: "W", Items: []api.Item{{Name: "a", Type: 3}, {Name: "b", Type: 10}, {Name: "c", Type: 1}}},
	}
	for x := range l {
		texts := map[string]string{}
		vs := all(l, x)
		for _, v := range vs {
			texts[mustPut(t, l, x, v)] = value.Text(v)
		}
		if len(texts) != len(vs) || len(vs) < 2 {
			t.Errorf("type %d: %d values, %d bytes", x, len(vs), len(texts))
		}
	}
}

// What can be read back as it was is not the bytes of another value.
func TestBytesTellTheValue(t *testing.T) {
	eachRandom(t, 102, 600, func(_ *rand.Rand, l []api.Type, x int, v api.Value) {
		s, e := Put(l, x, v)
		if e == api.ErrLong {
			return
		}
		r := reader{list: l, bytes: s}
		if w := r.read(x); !value.Same(v, w) || r.at != len(s) {
			t.Errorf("type %d: %s was read from %q, want %s", x, brief(w), s, brief(v))
		}
	})
}

func TestAlignReadsTheBytes(t *testing.T) {
	c := align.Read(mustPut(t, good(), nest, samples()[nest]))
	got := []uint64{c.Take(4), c.Take(1), c.Take(1), c.Take(4), uint64(len(c.Text(2))), c.Take(1), c.Take(2), c.Take(1)}
	if want := []uint64{3, 7, 3, 2, 2, 9, 5, 8}; !slices.Equal(got, want) || c.Done() != api.OK {
		t.Errorf("read %v, %v, want %v", got, c.Done(), want)
	}
}

func TestEndsLieBetweenTheBounds(t *testing.T) {
	least, most := 0, 0
	eachRandom(t, 103, 600, func(r *rand.Rand, l []api.Type, x int, v api.Value) {
		at := r.Intn(api.MaxSize + 1)
		if r.Intn(2) == 0 {
			at %= 8
		}
		low, high := bounds.Least(l, x, at), bounds.Most(l, x, at)
		n, e := End(l, x, v, at)
		if e != api.OK || low <= api.MaxSize && n < low || high <= api.MaxSize && n > high {
			t.Errorf("End of type %d at %d: %d, %v, not between %d and %d: %s, %s", x, at, n, e, low, high, brief(v), brief(l))
		}
		if low < high && n == low {
			least++
		}
		if low < high && n == high {
			most++
		}
	})
	if least < 100 || most < 100 {
		t.Errorf("only %d least ends, %d greatest ones", least, most)
	}
}
