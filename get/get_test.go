package get

import (
	"encoding/binary"
	"fmt"
	"math"
	"math/rand"
	"reflect"
	"slices"
	"strconv"
	"strings"
	"testing"
	"unsafe"

	"broadsheet/align"
	"broadsheet/api"
	"broadsheet/fits"
	"broadsheet/put"
	"broadsheet/types"
	"broadsheet/value"
)

// minus is a number below 0, by its widest two's complement.
func minus(n uint64) uint64 { return -n }

// Places in good.
const (
	truth  = api.TBool - 1
	octet  = api.TOctet - 1
	short  = api.TInt16 - 1
	word   = api.TInt32 - 1
	long   = api.TInt64 - 1
	colour = api.TEnum - 1
	text   = 9  // up to 3 bytes
	none   = 10 // a text without bytes
	some   = 11 // up to 2 octets
	fixed  = 12 // 2 texts
	point  = 13 // an octet and a word
	choice = 14 // by an octet: a point, or a text
	rest   = 15 // by a truth: a short, or else octets
	hue    = 16 // by a colour: an octet, or texts, or nothing
	nest   = 17 // up to 3 choices
)

// good is a valid list: the numeric kinds stand at the places one below their numbers.
func good() []api.Type {
	return []api.Type{
		{Kind: api.TBool}, {Kind: api.TOctet}, {Kind: api.TInt16}, {Kind: api.TUint16},
		{Kind: api.TInt32}, {Kind: api.TUint32}, {Kind: api.TInt64}, {Kind: api.TUint64},
		{Kind: api.TEnum, Name: "Colour", Items: []api.Item{{Name: "red", Num: 7}, {Name: "blue", Num: minus(5)}, {Name: "green"}}},
		{Kind: api.TString, Bound: 3}, {Kind: api.TString},
		{Kind: api.TSeq, Bound: 2, Of: octet}, {Kind: api.TArray, Bound: 2, Of: text},
		{Kind: api.TStruct, Name: "Point", Items: []api.Item{{Name: "a", Type: octet, Key: true}, {Name: "b", Type: word}}},
		{Kind: api.TUnion, Name: "Choice", Tag: octet, Items: []api.Item{{Name: "a", Num: 7, Type: point}, {Name: "b", Num: 9, Type: text}}},
		{Kind: api.TUnion, Name: "Rest", Tag: truth, Items: []api.Item{{Name: "a", Num: 1, Type: short}, {Name: "z", Type: some, Rest: true}}},
		{Kind: api.TUnion, Name: "Hue", Tag: colour, Items: []api.Item{{Name: "a", Num: minus(5), Type: octet}, {Name: "b", Num: 7, Type: fixed}}},
		{Kind: api.TSeq, Bound: 3, Of: choice},
	}
}

func num(kind int, n uint64) api.Value { return api.Value{Kind: kind, Num: n} }

func str(s string) api.Value { return api.Value{Kind: api.TString, Text: s} }

func node(kind int, items ...api.Value) api.Value { return api.Value{Kind: kind, Items: items} }

func union(tag uint64, items ...api.Value) api.Value {
	return api.Value{Kind: api.TUnion, Num: tag, Items: items}
}

func byteOf(n uint64) api.Value { return num(api.TOctet, n) }

func pointOf(a, b uint64) api.Value { return node(api.TStruct, byteOf(a), num(api.TInt32, b)) }

// sample is a value of a type of good, and its bytes.
type sample struct {
	v api.Value
	b string
}

// samples has one for each type of good.
func samples() []sample {
	return []sample{
		{num(api.TBool, 1), "\x01"}, {byteOf(255), "\xff"},
		{num(api.TInt16, minus(3)), "\xfd\xff"}, {num(api.TUint16, 258), "\x02\x01"},
		{num(api.TInt32, minus(1<<31)), "\x00\x00\x00\x80"}, {num(api.TUint32, 0x84030201), "\x01\x02\x03\x84"},
		{num(api.TInt64, minus(2)), "\xfe\xff\xff\xff\xff\xff\xff\xff"}, {num(api.TUint64, 0x8807060504030201), "\x01\x02\x03\x04\x05\x06\x07\x88"},
		{num(api.TEnum, minus(5)), "\xfb\xff\xff\xff"},
		{str("ab"), "\x03\x00\x00\x00ab\x00"}, {str(""), "\x01\x00\x00\x00\x00"},
		{node(api.TSeq, byteOf(1), byteOf(2)), "\x02\x00\x00\x00\x01\x02"},
		{node(api.TArray, str("a"), str("bc")), "\x02\x00\x00\x00a\x00\x00\x00\x03\x00\x00\x00bc\x00"},
		{pointOf(3, minus(2)), "\x03\x00\x00\x00\xfe\xff\xff\xff"},
		{union(7, pointOf(3, 4)), "\x07\x03\x00\x00\x04\x00\x00\x00"},
		{union(0, node(api.TSeq, byteOf(9))), "\x00\x00\x00\x00\x01\x00\x00\x00\x09"},
		{union(7, node(api.TArray, str("abc"), str(""))), "\x07\x00\x00\x00\x04\x00\x00\x00abc\x00\x01\x00\x00\x00\x00"},
		{node(api.TSeq, union(9, str("x")), union(8), union(7, pointOf(1, 2))), "\x03\x00\x00\x00\x09\x00\x00\x00\x02\x00\x00\x00x\x00\x08\x07\x01\x00\x00\x00\x02\x00\x00\x00"},
	}
}

// brief is what a failed test says of something.
func brief(x any) string {
	s := fmt.Sprint(x)
	return s[:min(len(s), 300)]
}

// lowest are a number's lowest bytes.
func lowest(n uint64, size int) string {
	return string(binary.LittleEndian.AppendUint64(nil, n)[:size])
}

func isZero(v api.Value) bool {
	return v.Kind == 0 && v.Num == 0 && v.Text == "" && len(v.Items) == 0
}

func wantGet(t *testing.T, l []api.Type, x int, b string, want api.Value) {
	t.Helper()
	if v, e := Get(l, x, b); e != api.OK || !value.Same(v, want) {
		t.Errorf("Get of type %d from %q: %s, %v, want %s: %s", x, brief(b), brief(v), e, brief(want), brief(l))
	}
}

func wantFirst(t *testing.T, l []api.Type, x int, b string, want api.Value, n int) {
	t.Helper()
	if v, at, e := First(l, x, b); e != api.OK || at != n || !value.Same(v, want) {
		t.Errorf("First of type %d from %q: %s, %d, %v, want %s, %d: %s", x, brief(b), brief(v), at, e, brief(want), n, brief(l))
	}
}

func wantNoGet(t *testing.T, l []api.Type, x int, b string, want api.Errno) {
	t.Helper()
	if v, e := Get(l, x, b); e != want || !isZero(v) {
		t.Errorf("Get of type %d from %q: %s, %v, want %v: %s", x, brief(b), brief(v), e, want, brief(l))
	}
}

func wantNoFirst(t *testing.T, l []api.Type, x int, b string, want api.Errno) {
	t.Helper()
	if v, n, e := First(l, x, b); e != want || n != 0 || !isZero(v) {
		t.Errorf("First of type %d from %q: %s, %d, %v, want %v: %s", x, brief(b), brief(v), n, e, want, brief(l))
	}
}

// wantValue wants a value of all bytes, and of the same ones with others behind them.
func wantValue(t *testing.T, l []api.Type, x int, b string, want api.Value) {
	t.Helper()
	if f := types.Check(l); f != (api.Fault{}) {
		t.Fatalf("%v at %d: %v", f.Err, f.At, l)
	}
	wantGet(t, l, x, b, want)
	for _, behind := range []string{"", "\x00", "\x01", "\xff\xff", strings.Repeat("\x00", 8), strings.Repeat("x", api.MaxSize)} {
		wantFirst(t, l, x, b+behind, want, len(b))
		if left := len(b + behind); left > api.MaxSize {
			wantNoGet(t, l, x, b+behind, api.ErrLong)
		} else if behind != "" {
			wantNoGet(t, l, x, b+behind, api.ErrForm)
		}
	}
}

// wantError wants the same of Get and First, also where it comes ahead of other bytes.
func wantError(t *testing.T, l []api.Type, x int, b string, want api.Errno) {
	t.Helper()
	wantNoGet(t, l, x, b, want)
	wantNoFirst(t, l, x, b, want)
	if want == api.ErrShort {
		return
	}
	for _, behind := range []string{"\x00", "\x01\x00", strings.Repeat("x", 80)} {
		wantNoGet(t, l, x, b+behind, want)
		wantNoFirst(t, l, x, b+behind, want)
	}
}

// wantGood asks about a type of good.
func wantGood(t *testing.T, x int, b string, want api.Value) {
	t.Helper()
	wantValue(t, good(), x, b, want)
}

// wantBad asks about a type of good.
func wantBad(t *testing.T, x int, b string, want api.Errno) {
	t.Helper()
	wantError(t, good(), x, b, want)
}

// Promise 11.1, numbers.

func TestSamples(t *testing.T) {
	for x, s := range samples() {
		wantGood(t, x, s.b, s.v)
	}
}

func TestNumbers(t *testing.T) {
	for _, c := range []struct {
		kind int
		b    string
		n    uint64
	}{
		{api.TBool, "\x00", 0}, {api.TBool, "\x01", 1}, {api.TOctet, "\x00", 0}, {api.TOctet, "\x80", 128}, {api.TOctet, "\xff", 255},
		{api.TInt16, "\x00\x00", 0}, {api.TInt16, "\x02\x01", 258}, {api.TInt16, "\xff\x7f", 1<<15 - 1},
		{api.TInt16, "\x00\x80", minus(1 << 15)}, {api.TInt16, "\xff\xff", minus(1)},
		{api.TUint16, "\xff\x7f", 1<<15 - 1}, {api.TUint16, "\x00\x80", 1 << 15}, {api.TUint16, "\xff\xff", 1<<16 - 1},
		{api.TInt32, "\x01\x02\x03\x04", 0x04030201}, {api.TInt32, "\xff\xff\xff\x7f", 1<<31 - 1},
		{api.TInt32, "\x00\x00\x00\x80", minus(1 << 31)}, {api.TInt32, "\xfe\xff\xff\xff", minus(2)},
		{api.TUint32, "\x00\x00\x00\x80", 1 << 31}, {api.TUint32, "\xff\xff\xff\xff", 1<<32 - 1},
		{api.TInt64, "\x01\x02\x03\x04\x05\x06\x07\x08", 0x0807060504030201}, {api.TInt64, "\x00\x00\x00\x00\x00\x00\x00\x80", 1 << 63},
		{api.TInt64, "\xff\xff\xff\xff\xff\xff\xff\xff", minus(1)}, {api.TUint64, "\xff\xff\xff\xff\xff\xff\xff\xff", math.MaxUint64},
		{api.TEnum, "\x07\x00\x00\x00", 7}, {api.TEnum, "\x00\x00\x00\x00", 0}, {api.TEnum, "\xfb\xff\xff\xff", minus(5)},
	} {
		wantGood(t, c.kind-1, c.b, num(c.kind, c.n))
	}
}

func TestEachByte(t *testing.T) {
	for n := range 256 {
		b := lowest(uint64(n), 1)
		wantGood(t, octet, b, byteOf(uint64(n)))
		if n > 1 {
			wantBad(t, truth, b, api.ErrRange)
			wantBad(t, rest, b, api.ErrRange)
		}
	}
}

func TestNumbersOfNoItem(t *testing.T) {
	for _, n := range []uint64{1, 5, 6, 8, 1<<31 - 1, 1 << 31, 1<<32 - 1, 1<<32 - 4, 1<<32 - 6, 1<<32 - 7, 7 << 8, 7 << 24, 1<<31 + 7, 1<<24 + 7} {
		wantBad(t, colour, lowest(n, 4), api.ErrRange)
		wantBad(t, hue, lowest(n, 4), api.ErrRange)
	}
	l := []api.Type{
		{Kind: api.TEnum, Name: "One", Items: []api.Item{{Name: "a", Num: minus(1 << 31)}, {Name: "b", Num: 1<<31 - 1}}},
		{Kind: api.TEnum, Name: "Two", Items: []api.Item{{Name: "a", Num: 1}}},
		{Kind: api.TUnion, Name: "U", Tag: 0, Items: []api.Item{{Name: "z", Type: 1, Rest: true}}},
	}
	wantValue(t, l, 0, "\x00\x00\x00\x80", num(api.TEnum, minus(1<<31)))
	wantValue(t, l, 0, "\xff\xff\xff\x7f", num(api.TEnum, 1<<31-1))
	wantValue(t, l, 2, "\xff\xff\xff\x7f\x01\x00\x00\x00", union(1<<31-1, num(api.TEnum, 1)))
	// An item of another type, and none of the branch with Rest's: that is for tags that there are.
	wantError(t, l, 0, "\x01\x00\x00\x00", api.ErrRange)
	wantError(t, l, 1, "\x00\x00\x00\x80", api.ErrRange)
	wantError(t, l, 2, "\x01\x00\x00\x00\x01\x00\x00\x00", api.ErrRange)
	wantError(t, l, 2, "\x00\x00\x00\x80\x00\x00\x00\x00", api.ErrRange)
}

// Promise 11.1, texts.

func TestTexts(t *testing.T) {
	wantGood(t, text, "\x01\x00\x00\x00\x00", str(""))
	wantGood(t, text, "\x03\x00\x00\x00ab\x00", str("ab"))
	wantGood(t, text, "\x04\x00\x00\x00\x01\xff\\\x00", str("\x01\xff\\"))
	wantGood(t, text, "\x04\x00\x00\x00\xc3\xa9'\x00", str("é'"))
	for c := 1; c < 256; c++ {
		wantGood(t, text, "\x02\x00\x00\x00"+lowest(uint64(c), 1)+"\x00", str(lowest(uint64(c), 1)))
	}
	l := []api.Type{{Kind: api.TString, Bound: api.MaxBound}}
	for n := range api.MaxBound + 1 {
		s := strings.Repeat("y", n)
		wantValue(t, l, 0, lowest(uint64(n+1), 4)+s+"\x00", str(s))
	}
}

func TestTextsOfNoBytes(t *testing.T) {
	wantBad(t, text, "\x00\x00\x00\x00", api.ErrForm)
	wantBad(t, text, "\x00\x00\x00\x00\x00", api.ErrForm)
	wantBad(t, text, "\x00\x00\x00\x00abc\x00", api.ErrForm)
	wantBad(t, none, "\x00\x00\x00\x00", api.ErrForm)
}

// tooMany are numbers of size 4 that are greater than a bound.
func tooMany(bound uint64) []uint64 {
	return []uint64{bound + 1, bound + 2, 255, 256, 1 << 8, 1<<8 + 1, 1 << 16, 1<<16 + 1, 1 << 24, 1<<24 + 2, 1<<31 - 1, 1 << 31, 1<<31 + 1, 1<<32 - 2, 1<<32 - 1}
}

func TestTextsThatAreTooLong(t *testing.T) {
	for bound := range uint64(api.MaxBound + 1) {
		l := []api.Type{{Kind: api.TString, Bound: int(bound)}}
		full := strings.Repeat("x", int(bound))
		wantValue(t, l, 0, lowest(bound+1, 4)+full+"\x00", str(full))
		for _, n := range tooMany(bound + 1) {
			wantError(t, l, 0, lowest(n, 4), api.ErrLong)
			wantError(t, l, 0, lowest(n, 4)+full+"x\x00", api.ErrLong)
			wantError(t, l, 0, lowest(n, 4)+strings.Repeat("\x00", 70), api.ErrLong)
		}
	}
}

func TestTextsThatEndTooEarly(t *testing.T) {
	wantBad(t, none, "\x01\x00\x00\x00", api.ErrShort)
	wantBad(t, text, "\x01\x00\x00\x00", api.ErrShort)
	wantBad(t, text, "\x04\x00\x00\x00abc", api.ErrShort)
	// That bytes are missing counts before what is wrong with those that are there.
	for _, s := range []string{"\x00", "a\x00", "\x00\x00", "\x00a", "\x00\x00\x00"} {
		wantBad(t, text, "\x04\x00\x00\x00"+s, api.ErrShort)
	}
}

func TestTextsWithAByteZero(t *testing.T) {
	for _, c := range []struct {
		b    string
		want api.Errno
	}{
		{"\x00\x00", api.ErrText}, {"\x00a", api.ErrText}, {"ab", api.ErrForm}, {"a\x01", api.ErrForm}, {"a\xff", api.ErrForm},
		{"\x00ab\x00", api.ErrText}, {"a\x00b\x00", api.ErrText}, {"ab\x00\x00", api.ErrText}, {"\x00\x00\x00\x00", api.ErrText},
		{"\x00abc", api.ErrText}, {"ab\x00c", api.ErrText}, {"a\x00bc", api.ErrText}, {"abcd", api.ErrForm}, {"x", api.ErrForm}, {"\x01", api.ErrForm},
	} {
		wantBad(t, text, lowest(uint64(len(c.b)), 4)+c.b, c.want)
	}
	l := []api.Type{{Kind: api.TString, Bound: api.MaxBound}}
	for at := range api.MaxBound {
		s := []byte(strings.Repeat("x", api.MaxBound) + "\x00")
		s[at] = 0
		wantError(t, l, 0, lowest(api.MaxBound+1, 4)+string(s), api.ErrText)
	}
}

// Promise 11.1, sequences and arrays.

func TestSequences(t *testing.T) {
	wantGood(t, some, "\x00\x00\x00\x00", node(api.TSeq))
	wantGood(t, some, "\x01\x00\x00\x00\x09", node(api.TSeq, byteOf(9)))
	wantGood(t, some, "\x02\x00\x00\x00\x09\x08", node(api.TSeq, byteOf(9), byteOf(8)))
	wantGood(t, nest, "\x02\x00\x00\x00\x00\x01", node(api.TSeq, union(0), union(1)))
	wantBad(t, nest, "\x02\x00\x00\x00\x08", api.ErrShort)
}

func TestEachCount(t *testing.T) {
	for bound := uint64(1); bound <= api.MaxBound; bound++ {
		l := []api.Type{{Kind: api.TUint16}, {Kind: api.TSeq, Bound: int(bound)}, {Kind: api.TArray, Bound: int(bound)}}
		v, b := node(api.TSeq), ""
		for n := range bound {
			wantValue(t, l, 1, lowest(n, 4)+b, v)
			wantError(t, l, 2, b, api.ErrShort)
			v.Items = append(v.Items, num(api.TUint16, n+256))
			b += lowest(n+256, 2)
		}
		wantValue(t, l, 1, lowest(bound, 4)+b, v)
		wantValue(t, l, 2, b, node(api.TArray, v.Items...))
		for _, n := range tooMany(bound) {
			wantError(t, l, 1, lowest(n, 4), api.ErrLong)
			wantError(t, l, 1, lowest(n, 4)+b+"\x01\x00", api.ErrLong)
		}
	}
}

func TestArrays(t *testing.T) {
	wantGood(t, fixed, "\x02\x00\x00\x00a\x00\x00\x00\x03\x00\x00\x00bc\x00", node(api.TArray, str("a"), str("bc")))
	wantGood(t, fixed, "\x04\x00\x00\x00abc\x00\x01\x00\x00\x00\x00", node(api.TArray, str("abc"), str("")))
	l := []api.Type{{Kind: api.TOctet}, {Kind: api.TArray, Bound: 2}, {Kind: api.TArray, Bound: 3, Of: 1}, {Kind: api.TSeq, Bound: 2, Of: 1}}
	pair := func(a, b uint64) api.Value { return node(api.TArray, byteOf(a), byteOf(b)) }
	wantValue(t, l, 2, "\x01\x02\x03\x04\x05\x06", node(api.TArray, pair(1, 2), pair(3, 4), pair(5, 6)))
	wantValue(t, l, 3, "\x02\x00\x00\x00\x01\x02\x03\x04", node(api.TSeq, pair(1, 2), pair(3, 4)))
	wantError(t, l, 2, "\x01\x02\x03\x04\x05", api.ErrShort)
	wantError(t, l, 3, "\x02\x00\x00\x00\x01\x02\x03", api.ErrShort)
}

// Promise 11.1, structs and unions.

func TestStructs(t *testing.T) {
	l := []api.Type{{Kind: api.TOctet}, {Kind: api.TInt16}, {Kind: api.TStruct, Name: "S", Items: []api.Item{{Name: "a"}, {Name: "b", Type: 1}}}}
	wantValue(t, l, 2, "\x01\x00\x02\x00", node(api.TStruct, byteOf(1), num(api.TInt16, 2)))
	wantError(t, l, 2, "\x01\x01\x02\x00", api.ErrPad)
	// Fields of one type, and in another order than that of the types.
	x := api.Type{Kind: api.TStruct, Name: "New", Items: []api.Item{{Name: "a", Type: short}, {Name: "b", Type: octet}, {Name: "c", Type: octet}, {Name: "d", Type: short}}}
	wantValue(t, append(good(), x), len(good()), "\x01\x00\x02\x03\xff\xff", node(api.TStruct, num(api.TInt16, 1), byteOf(2), byteOf(3), num(api.TInt16, minus(1))))
	most := api.Type{Kind: api.TStruct, Name: "New"}
	v, b := node(api.TStruct), ""
	for i := range uint64(api.MaxItems) {
		most.Items = append(most.Items, api.Item{Name: "i" + strconv.Itoa(int(i)), Type: octet, Key: i%2 == 0})
		v.Items = append(v.Items, byteOf(i))
		b += lowest(i, 1)
	}
	wantValue(t, append(good(), most), len(good()), b, v)
	wantError(t, append(good(), most), len(good()), b[1:], api.ErrShort)
}

func TestUnions(t *testing.T) {
	wantGood(t, choice, "\x07\x03\x00\x00\xff\xff\xff\xff", union(7, pointOf(3, minus(1))))
	wantGood(t, choice, "\x09\x00\x00\x00\x02\x00\x00\x00x\x00", union(9, str("x")))
	for tag := range uint64(256) {
		if tag != 7 && tag != 9 {
			wantGood(t, choice, lowest(tag, 1), union(tag))
		}
	}
	wantGood(t, rest, "\x01\x00\xff\xff", union(1, num(api.TInt16, minus(1))))
	wantGood(t, rest, "\x00\x00\x00\x00\x02\x00\x00\x00\x01\x00", union(0, node(api.TSeq, byteOf(1), byteOf(0))))
	wantGood(t, hue, "\xfb\xff\xff\xff\x02", union(minus(5), byteOf(2)))
	wantGood(t, hue, "\x00\x00\x00\x00", union(0))
	wantBad(t, hue, "\x07\x00\x00\x00", api.ErrShort)
	wantBad(t, hue, "\xfb\xff\xff\xff", api.ErrShort)
	wantBad(t, choice, "\x07\x00\x01\x00\x00\x00\x00\x00", api.ErrPad)
	wantBad(t, choice, "\x09\x00\x00\x00\x05\x00\x00\x00x\x00", api.ErrLong)
}

func TestTagsOfEachKind(t *testing.T) {
	for tag, s := range samples()[:colour+1] {
		open := api.Type{Kind: api.TUnion, Name: "New", Tag: tag, Items: []api.Item{{Name: "a", Type: octet}}}
		others := api.Type{Kind: api.TUnion, Name: "Others", Tag: tag, Items: []api.Item{{Name: "a", Type: text}, {Name: "z", Type: octet, Rest: true}}}
		l := append(good(), open, others, api.Type{Kind: api.TArray, Bound: 2, Of: len(good())})
		x := len(good())
		wantValue(t, l, x, s.b, union(s.v.Num))
		wantValue(t, l, x, strings.Repeat("\x00", len(s.b))+"\x09", union(0, byteOf(9)))
		wantValue(t, l, x+1, s.b+"\x09", union(s.v.Num, byteOf(9)))
		wantValue(t, l, x+2, s.b+s.b, node(api.TArray, union(s.v.Num), union(s.v.Num)))
		wantError(t, l, x+1, s.b, api.ErrShort)
		wantError(t, l, x+1, strings.Repeat("\x00", len(s.b)), api.ErrShort)
	}
}

// The branch of a tag counts, wherever it stands: the one with Rest only where there is none.
func TestBranches(t *testing.T) {
	x := api.Type{Kind: api.TUnion, Name: "New", Tag: short, Items: []api.Item{
		{Name: "a", Num: 5, Type: octet}, {Name: "b", Num: minus(5), Type: truth}, {Name: "c", Type: some}, {Name: "z", Type: short, Rest: true}}}
	l := append(good(), x)
	wantValue(t, l, nest+1, "\x05\x00\x04", union(5, byteOf(4)))
	wantValue(t, l, nest+1, "\xfb\xff\x01", union(minus(5), num(api.TBool, 1)))
	wantError(t, l, nest+1, "\xfb\xff\x04", api.ErrRange)
	wantValue(t, l, nest+1, "\x00\x00\x00\x00\x00\x00\x00\x00", union(0, node(api.TSeq)))
	wantValue(t, l, nest+1, "\x01\x00\x04\x00", union(1, num(api.TInt16, 4)))
	wantValue(t, l, nest+1, "\xff\xff\x04\x00", union(minus(1), num(api.TInt16, 4)))
}

// Promise 11.1, gaps.

// padded is a list with a struct of octets, and a type behind them.
func padded(before, of int) []api.Type {
	x := api.Type{Kind: api.TStruct, Name: "New"}
	for i := range before {
		x.Items = append(x.Items, api.Item{Name: "i" + strconv.Itoa(i), Type: octet})
	}
	x.Items = append(x.Items, api.Item{Name: "v", Type: of})
	return append(good(), x)
}

func TestGaps(t *testing.T) {
	// The sizes of the numbers with which the values of the first types of good begin.
	for of, size := range []int{1, 1, 2, 2, 4, 4, 8, 8, 4, 4, 4, 4, 4} {
		for before := range 10 {
			l, x := padded(before, of), len(good())
			octets := strings.Repeat("\xff", before)
			gap := (size - before%size) % size
			v := node(api.TStruct, slices.Repeat([]api.Value{byteOf(255)}, before)...)
			v.Items = append(v.Items, samples()[of].v)
			wantValue(t, l, x, octets+strings.Repeat("\x00", gap)+samples()[of].b, v)
			for at := range gap {
				wrongGap(t, l, octets, gap, at)
			}
		}
	}
}

// wrongGap has in a gap, at some place, what may not be there, or nothing.
func wrongGap(t *testing.T, l []api.Type, octets string, gap, at int) {
	t.Helper()
	x := len(good())
	zeros := strings.Repeat("\x00", gap)
	wantError(t, l, x, octets+zeros[:at], api.ErrShort)
	for _, c := range []string{"\x01", "\x80", "\xff"} {
		// Byte by byte: what is wrong counts, whether or not there is something behind it.
		wantError(t, l, x, octets+zeros[:at]+c, api.ErrPad)
		wantError(t, l, x, octets+zeros[:at]+c+zeros[at+1:], api.ErrPad)
		wantError(t, l, x, octets+zeros[:at]+c+zeros[at+1:]+"\x01\x00", api.ErrPad)
	}
}

// Ahead of the elements of a sequence without any there is no gap, nor behind a value.
func TestNoGap(t *testing.T) {
	l := append(good(), api.Type{Kind: api.TSeq, Bound: 2, Of: long},
		api.Type{Kind: api.TStruct, Name: "Two", Items: []api.Item{{Name: "a", Type: nest + 1}, {Name: "b", Type: octet}}},
		api.Type{Kind: api.TArray, Bound: 2, Of: nest + 2})
	eight := num(api.TInt64, 1)
	one := "\x01\x00\x00\x00\x00\x00\x00\x00"
	wantValue(t, l, nest+1, "\x00\x00\x00\x00", node(api.TSeq))
	wantValue(t, l, nest+1, one+one, node(api.TSeq, eight))
	empty := node(api.TStruct, node(api.TSeq), byteOf(5))
	full := node(api.TStruct, node(api.TSeq, eight), byteOf(6))
	wantValue(t, l, nest+2, "\x00\x00\x00\x00\x05", empty)
	wantValue(t, l, nest+2, one+one+"\x06", full)
	wantValue(t, l, nest+3, "\x00\x00\x00\x00\x05\x00\x00\x00\x01\x00\x00\x00\x00\x00\x00\x00"+one+"\x06", node(api.TArray, empty, full))
	wantError(t, l, nest+1, "\x01\x00\x00\x00\x00\x00\x00\x01"+one, api.ErrPad)
	wantError(t, l, nest+1, "\x01\x00\x00\x00\x00\x00\x00", api.ErrShort)
}

// Promise 11.1, bytes that end too early.

func TestEachCut(t *testing.T) {
	for x, s := range samples() {
		for n := range s.b {
			wantBad(t, x, s.b[:n], api.ErrShort)
		}
	}
	for x := range good() {
		wantBad(t, x, "", api.ErrShort)
	}
}

// Promise 11.1, the first error.

func TestTheFirstErrorCounts(t *testing.T) {
	x := api.Type{Kind: api.TStruct, Name: "New", Items: []api.Item{{Name: "a", Type: truth}, {Name: "b", Type: text}, {Name: "c", Type: colour}, {Name: "d", Type: some}}}
	l := append(good(), x)
	for _, c := range []struct {
		b    string
		want api.Errno
	}{
		{"\x02", api.ErrRange}, {"\x02\x01", api.ErrRange}, {"\x02\x00\x00\x00\x09\x00\x00\x00", api.ErrRange},
		{"\x01\x01", api.ErrPad}, {"\x01\x00\x00\x01\x09\x00\x00\x00", api.ErrPad},
		{"\x01\x00\x00\x00\x09\x00\x00\x00", api.ErrLong}, {"\x01\x00\x00\x00\x00\x00\x00\x00\x01\x01\x01\x01", api.ErrForm},
		{"\x01\x00\x00\x00\x02\x00\x00\x00aa\x01\x01\x05\x00\x00\x00", api.ErrForm}, {"\x01\x00\x00\x00\x03\x00\x00\x00a\x00\x00\x01", api.ErrText},
		{"\x01\x00\x00\x00\x02\x00\x00\x00a\x00\x01\x00\x05\x00\x00\x00", api.ErrPad}, {"\x01\x00\x00\x00\x02\x00\x00\x00a\x00\x00\x00\x05\x00\x00\x00\x09\x00\x00\x00", api.ErrRange},
		{"\x01\x00\x00\x00\x02\x00\x00\x00a\x00\x00\x00\x07\x00\x00\x00\x03\x00\x00\x00", api.ErrLong},
		{"\x01\x00\x00\x00\x02\x00\x00\x00a\x00\x00\x00\x07\x00\x00\x00\x02\x00\x00\x00\x01", api.ErrShort},
	} {
		wantError(t, l, nest+1, c.b, c.want)
	}
	// The number of a sequence counts before its elements, the first element before the next ones.
	truths := api.Type{Kind: api.TSeq, Bound: 3, Of: truth}
	l = append(good(), truths)
	wantError(t, l, nest+1, "\x04\x00\x00\x00\x02", api.ErrLong)
	wantError(t, l, nest+1, "\x03\x00\x00\x00\x02", api.ErrRange)
	wantError(t, l, nest+1, "\x03\x00\x00\x00\x01\x01", api.ErrShort)
	wantError(t, l, nest+1, "\x03\x00\x00\x00\x01\x01\x02", api.ErrRange)
	// What is left counts only where nothing else is wrong.
	wantNoGet(t, l, nest+1, "\x03\x00\x00\x00\x01\x01\x00\x02", api.ErrForm)
	wantNoGet(t, l, nest+1, "\x03\x00\x00\x00\x01\x01\x02\x02", api.ErrRange)
}

// Promise 11.1, the number of bytes.

// wide has arrays of arrays of octets.
func wide(bound, deep int) []api.Type {
	l := []api.Type{{Kind: api.TOctet}}
	for len(l) < deep {
		l = append(l, api.Type{Kind: api.TArray, Bound: bound, Of: len(l) - 1})
	}
	return l
}

func TestMostBytes(t *testing.T) {
	l := append(wide(64, 2), api.Type{Kind: api.TArray, Bound: 8, Of: 1}, api.Type{Kind: api.TArray, Bound: 9, Of: 1},
		api.Type{Kind: api.TStruct, Name: "S", Items: []api.Item{{Name: "a", Type: 2}, {Name: "b"}}})
	b := strings.Repeat("\x05", api.MaxSize)
	row := node(api.TArray, slices.Repeat([]api.Value{byteOf(5)}, 64)...)
	v := node(api.TArray, slices.Repeat([]api.Value{row}, 8)...)
	wantValue(t, l, 2, b, v)
	// First takes more than Get.
	for _, behind := range []string{"\x05", strings.Repeat("\x05", 9*64-api.MaxSize), strings.Repeat("\x05", 1<<16)} {
		for x := range l {
			wantNoGet(t, l, x, b+behind, api.ErrLong)
		}
		wantFirst(t, l, 2, b+behind, v, api.MaxSize)
		wantFirst(t, l, 4, b+behind, node(api.TStruct, v, byteOf(5)), api.MaxSize+1)
	}
	wantFirst(t, l, 3, b+b, node(api.TArray, slices.Repeat([]api.Value{row}, 9)...), 9*64)
	wantNoFirst(t, l, 3, b, api.ErrShort)
	wantNoGet(t, l, 3, b, api.ErrShort)
	wantNoGet(t, l, 3, b+"\x05", api.ErrLong)
}

// That there are too many bytes counts before what is wrong with them, and behind what is wrong with the list.
func TestTooManyBytesAndWrong(t *testing.T) {
	for _, c := range []struct {
		x    int
		b    string
		want api.Errno
	}{
		{truth, "\x02", api.ErrRange}, {colour, "\x01\x00\x00\x00", api.ErrRange}, {text, "\x00\x00\x00\x00", api.ErrForm}, {some, "\xff\xff\xff\xff", api.ErrLong},
		{fixed, "\x02\x00\x00\x00\x00\x00", api.ErrText}, {rest, "\x01\x01", api.ErrPad}, {nest, "\x01\x00\x00\x00\x07\x01", api.ErrPad},
	} {
		for _, n := range []int{api.MaxSize - 1, api.MaxSize} {
			wantNoGet(t, good(), c.x, c.b+strings.Repeat("x", n-len(c.b)), c.want)
		}
		for _, n := range []int{api.MaxSize + 1, api.MaxSize + 2, 1 << 16} {
			b := c.b + strings.Repeat("x", n-len(c.b))
			wantNoGet(t, good(), c.x, b, api.ErrLong)
			wantNoFirst(t, good(), c.x, b, c.want)
		}
	}
	for _, n := range []int{api.MaxSize + 1, 1 << 16} {
		b := strings.Repeat("\x01", n)
		wantNoGet(t, good(), nest+1, b, api.ErrType)
		wantNoGet(t, good(), -1, b, api.ErrType)
		wantNoGet(t, nil, 0, b, api.ErrType)
		wantNoGet(t, append(good(), api.Type{}), octet, b, api.ErrType)
	}
}

// A type can have values that are far too long: as soon as the bytes end, so does the call.
func TestFewBytesForMany(t *testing.T) {
	l := wide(api.MaxBound, api.MaxDeep)
	for x := 1; x < len(l); x++ {
		for _, n := range []int{0, 1, 63, 511, 512} {
			want := api.ErrShort
			if n >= 64 && x == 1 {
				want = api.ErrForm
			}
			wantNoGet(t, l, x, strings.Repeat("\x01", n), want)
		}
		wantNoGet(t, l, x, strings.Repeat("\x01", 513), api.ErrLong)
	}
	wantNoFirst(t, l, api.MaxDeep-1, strings.Repeat("\x01", 1<<16), api.ErrShort)
}

// Promise 11.1, lists that are not valid.

// badLists are not valid, each in another way: in most of them, all types but one are sound.
func badLists() [][]api.Type {
	with := func(change func(l []api.Type)) []api.Type {
		l := good()
		change(l)
		return l
	}
	return [][]api.Type{
		nil,
		append(good(), api.Type{}),
		append(good(), api.Type{Kind: api.TUnion + 1}),
		append(good(), api.Type{Kind: api.TSeq, Bound: 2, Of: nest + 1}),
		append(good(), api.Type{Kind: api.TArray, Bound: 2, Of: math.MinInt}),
		append(good(), api.Type{Kind: api.TArray, Bound: math.MaxInt, Of: octet}),
		append(good(), api.Type{Kind: api.TString, Bound: math.MinInt}),
		append(good(), api.Type{Kind: api.TStruct, Name: "New"}),
		append(good(), api.Type{Kind: api.TStruct, Name: "New", Items: []api.Item{{Name: "a", Type: math.MaxInt}}}),
		append(good(), api.Type{Kind: api.TUnion, Name: "New", Tag: text, Items: []api.Item{{Name: "a", Type: octet}}}),
		append(good(), api.Type{Kind: api.TUnion, Name: "New", Tag: nest + 1, Items: []api.Item{{Name: "a", Type: octet}}}),
		with(func(l []api.Type) { l[0].Name = "a" }),
		with(func(l []api.Type) { l[point].Items[1].Type = point }),
		with(func(l []api.Type) { l[choice].Items[1].Num = 7 }),
		with(func(l []api.Type) { l[fixed].Of = fixed }),
		slices.Repeat([]api.Type{{Kind: api.TOctet}}, api.MaxTypes+1),
		{{}},
		{{Kind: api.TSeq, Bound: 1}},
	}
}

func noPlaces(n int) []int {
	return []int{math.MinInt, math.MinInt + 1, -n, -2, -1, n, n + 1, n + 2, 1 << 32, math.MaxInt}
}

func TestNotValid(t *testing.T) {
	for _, l := range append(badLists(), good()) {
		for _, s := range append(samples(), sample{}) {
			for _, x := range noPlaces(max(len(l), 1)) {
				wantError(t, l, x, s.b, api.ErrType)
			}
		}
	}
	for _, l := range badLists() {
		for x := range len(l) + 1 {
			for _, s := range append(samples(), sample{}) {
				wantError(t, l, x, s.b, api.ErrType)
			}
		}
	}
}

// Rule R4.

func TestArgumentsStay(t *testing.T) {
	whole := append(good(), api.Type{Kind: -7, Name: "behind", Items: []api.Item{{Name: "a", Num: 9}}})
	before := append(good(), api.Type{Kind: -7, Name: "behind", Items: []api.Item{{Name: "a", Num: 9}}})
	l := whole[:len(whole)-1]
	for x, s := range samples() {
		for _, b := range []string{s.b, s.b + "\x00", s.b[1:], ""} {
			Get(l, x, b)
			First(l, x, b)
		}
	}
	if !reflect.DeepEqual(whole, before) {
		t.Errorf("the list is now %v", whole)
	}
}

// texts are those within a value.
func texts(v api.Value) []string {
	l := []string{v.Text}
	for _, m := range v.Items {
		l = append(l, texts(m)...)
	}
	return l
}

// change makes another value of one, wherever it lies in memory.
func change(v *api.Value) {
	for i := range v.Items {
		change(&v.Items[i])
	}
	*v = api.Value{Kind: -1}
}

func TestResultsAreNewMemory(t *testing.T) {
	for x, s := range samples() {
		v, _ := Get(good(), x, s.b)
		w, _, _ := First(good(), x, s.b)
		from := uintptr(unsafe.Pointer(unsafe.StringData(s.b)))
		for _, u := range append(texts(v), texts(w)...) {
			if at := uintptr(unsafe.Pointer(unsafe.StringData(u))); u != "" && at >= from && at < from+uintptr(len(s.b)) {
				t.Errorf("type %d: the text %q lies within the bytes", x, u)
			}
		}
		for i := range v.Items {
			change(&v.Items[i])
		}
		if again, _ := Get(good(), x, s.b); !value.Same(again, s.v) || !value.Same(w, s.v) {
			t.Errorf("type %d: %s and %s, want %s", x, brief(again), brief(w), brief(s.v))
		}
	}
}

// Elements that are the same share no memory.
func TestElementsAreApart(t *testing.T) {
	l := wide(2, 4)
	v, _, _ := First(l, 3, strings.Repeat("\x01", 8))
	change(&v.Items[0].Items[0])
	for _, at := range [][]int{{0, 1, 0}, {0, 1, 1}, {1, 0, 0}, {1, 0, 1}, {1, 1, 0}, {1, 1, 1}} {
		if m, ok := value.At(v, at); !ok || !value.Same(m, byteOf(1)) {
			t.Errorf("%v: %s, %v", at, brief(m), ok)
		}
	}
}

// Promises 11.1 and 11.2, without a pattern.

// widths are the numeric kinds' sizes.
func widths() []int { return []int{0, 1, 1, 2, 2, 4, 4, 8, 8, 4} }

// narrowed is the number of a kind whose lowest bits some number has.
func narrowed(kind int, n uint64) uint64 {
	switch kind {
	case api.TBool, api.TOctet:
		return uint64(uint8(n))
	case api.TInt16:
		return uint64(int16(n))
	case api.TUint16:
		return uint64(uint16(n))
	case api.TInt32, api.TEnum:
		return uint64(int32(n))
	case api.TUint32:
		return uint64(uint32(n))
	}
	return n
}

func hasNum(items []api.Item, n uint64) bool {
	return slices.ContainsFunc(items, func(m api.Item) bool { return m.Num == n })
}

// memberTypes are the types of the Items of a TStruct, or of a TUnion by its tag.
func memberTypes(x api.Type, tag uint64) []int {
	var l []int
	for _, m := range x.Items {
		if x.Kind == api.TStruct {
			l = append(l, m.Type)
		} else if m.Rest || m.Num == tag {
			return []int{m.Type}
		}
	}
	return l
}

// slow reads by a rule of its own: it goes on till the end, and keeps the first error.
type slow struct {
	list  []api.Type
	bytes string
	at    int
	err   api.Errno
}

func (s *slow) fail(wrong bool, e api.Errno) {
	if wrong && s.err == api.OK {
		s.err = e
	}
}

func (s *slow) next() byte {
	s.fail(s.at >= len(s.bytes), api.ErrShort)
	if s.err != api.OK {
		return 0
	}
	s.at++
	return s.bytes[s.at-1]
}

func (s *slow) number(size int) uint64 {
	for s.err == api.OK && s.at%size > 0 {
		s.fail(s.next() != 0, api.ErrPad)
	}
	var n uint64
	for i := range size {
		n += uint64(s.next()) << (8 * i)
	}
	return n
}

func (s *slow) num(t int) uint64 {
	x := s.list[t]
	n := narrowed(x.Kind, s.number(widths()[x.Kind]))
	s.fail(x.Kind == api.TBool && n > 1 || x.Kind == api.TEnum && !hasNum(x.Items, n), api.ErrRange)
	return n
}

func (s *slow) text(bound int) string {
	n := s.number(4)
	s.fail(n == 0, api.ErrForm)
	s.fail(n > uint64(bound)+1, api.ErrLong)
	if s.err != api.OK {
		return ""
	}
	var b []byte
	for range n {
		b = append(b, s.next())
	}
	body, last := b[:n-1], b[n-1]
	s.fail(slices.Contains(body, 0), api.ErrText)
	s.fail(last != 0, api.ErrForm)
	return string(body)
}

func (s *slow) value(t int) api.Value {
	x := s.list[t]
	v := api.Value{Kind: x.Kind}
	var of []int
	switch x.Kind {
	case api.TString:
		v.Text = s.text(x.Bound)
	case api.TSeq:
		n := s.number(4)
		s.fail(n > uint64(x.Bound), api.ErrLong)
		of = slices.Repeat([]int{x.Of}, int(min(n, uint64(x.Bound))))
	case api.TArray:
		of = slices.Repeat([]int{x.Of}, x.Bound)
	case api.TStruct:
		of = memberTypes(x, 0)
	case api.TUnion:
		v.Num = s.num(x.Tag)
		of = memberTypes(x, v.Num)
	default:
		v.Num = s.num(t)
	}
	for _, o := range of {
		if s.err == api.OK {
			v.Items = append(v.Items, s.value(o))
		}
	}
	return v
}

// wantSlow wants what slow reads, and of a value that its bytes are those that were read. It tells whether there is one.
func wantSlow(t *testing.T, l []api.Type, x int, b string) bool {
	t.Helper()
	s := slow{list: l, bytes: b}
	v := s.value(x)
	if s.err != api.OK {
		wantNoFirst(t, l, x, b, s.err)
	} else {
		wantFirst(t, l, x, b, v, s.at)
	}
	switch {
	case len(b) > api.MaxSize:
		wantNoGet(t, l, x, b, api.ErrLong)
	case s.err != api.OK:
		wantNoGet(t, l, x, b, s.err)
	case s.at < len(b):
		wantNoGet(t, l, x, b, api.ErrForm)
	default:
		wantGet(t, l, x, b, v)
		wantBack(t, l, x, b)
		return true
	}
	return false
}

// wantBack wants that a decoded value has its type, and the bytes that it was decoded from.
func wantBack(t *testing.T, l []api.Type, x int, b string) {
	t.Helper()
	v, _ := Get(l, x, b)
	if e := fits.Fits(l, x, v); e != api.OK {
		t.Errorf("type %d: %s is not of it: %v: %s", x, brief(v), e, brief(l))
	}
	if back, e := put.Put(l, x, v); back != b || e != api.OK {
		t.Errorf("type %d: %q was read, %q written, %v: %s", x, b, back, e, brief(l))
	}
}

// drawer draws values, and writes their bytes behind those that there are.
type drawer struct {
	*rand.Rand
	list  []api.Type
	bytes []byte
}

func (d *drawer) number(n uint64, size int) {
	for len(d.bytes)%size > 0 {
		d.bytes = append(d.bytes, 0)
	}
	d.bytes = append(d.bytes, lowest(n, size)...)
}

// num is often that of one of the items.
func (d *drawer) num(t int, items []api.Item) uint64 {
	x := d.list[t]
	n := narrowed(x.Kind, d.Uint64()>>d.Intn(64))
	if i := d.Intn(len(items) + 1); i < len(items) {
		n = items[i].Num
	}
	if x.Kind == api.TBool {
		n %= 2
	}
	if x.Kind == api.TEnum && !hasNum(x.Items, n) {
		n = x.Items[0].Num
	}
	d.number(n, widths()[x.Kind])
	return n
}

func (d *drawer) text(bound int) string {
	n := d.Intn(bound + 1)
	d.number(uint64(n)+1, 4)
	from := len(d.bytes)
	for range n {
		d.bytes = append(d.bytes, byte(1+d.Intn(255)))
	}
	d.bytes = append(d.bytes, 0)
	return string(d.bytes[from : from+n])
}

func (d *drawer) value(t int) api.Value {
	x := d.list[t]
	v := api.Value{Kind: x.Kind}
	var of []int
	switch x.Kind {
	case api.TString:
		v.Text = d.text(x.Bound)
	case api.TSeq:
		of = slices.Repeat([]int{x.Of}, d.Intn(x.Bound+1))
		d.number(uint64(len(of)), 4)
	case api.TArray:
		of = slices.Repeat([]int{x.Of}, x.Bound)
	case api.TStruct:
		of = memberTypes(x, 0)
	case api.TUnion:
		v.Num = d.num(x.Tag, x.Items)
		of = memberTypes(x, v.Num)
	default:
		v.Num = d.num(t, x.Items)
	}
	for _, o := range of {
		v.Items = append(v.Items, d.value(o))
	}
	return v
}

func randomItem(r *rand.Rand, kind, t, i int) api.Item {
	m := api.Item{Name: "i" + strconv.Itoa(i)}
	if kind != api.TStruct {
		m.Num = uint64(r.Intn(12))
	}
	if kind == api.TEnum {
		m.Num -= 6
	} else {
		m.Type = r.Intn(t)
	}
	return m
}

func randomType(r *rand.Rand, t int) api.Type {
	kinds := []int{1 + r.Intn(api.TString), api.TString, api.TEnum, api.TSeq, api.TArray, api.TStruct, api.TStruct, api.TUnion, api.TUnion}
	x := api.Type{Kind: kinds[r.Intn(len(kinds))]}
	switch x.Kind {
	case api.TString:
		x.Bound = r.Intn(5)
	case api.TSeq, api.TArray:
		x.Bound, x.Of = 1+r.Intn(4)<<r.Intn(4), r.Intn(t)
	case api.TUnion:
		x.Tag = r.Intn(t)
	}
	if x.Kind == api.TEnum || x.Kind >= api.TStruct {
		x.Name = "t" + strconv.Itoa(t)
		for i := range 1 + r.Intn(4) {
			x.Items = append(x.Items, randomItem(r, x.Kind, t, i))
		}
	}
	if n := len(x.Items); x.Kind == api.TUnion && r.Intn(3) == 0 {
		x.Items[n-1].Num, x.Items[n-1].Rest = 0, true
	}
	return x
}

// randomList is valid: a type that would not be is drawn again.
func randomList(r *rand.Rand) []api.Type {
	l := []api.Type{{Kind: 1 + r.Intn(api.TUint64)}}
	for n := r.Intn(20); len(l) <= n; {
		if longer := append(l, randomType(r, len(l))); types.Check(longer).Err == api.OK {
			l = longer
		}
	}
	return l
}

// spoilt has a few bytes changed, taken away, or put in.
func spoilt(r *rand.Rand, b []byte) string {
	b = slices.Clone(b)
	for range 1 + r.Intn(3) {
		at := r.Intn(len(b) + 1)
		c := []byte{0, 1, 2, byte(r.Intn(8)), byte(r.Intn(256))}[r.Intn(5)]
		switch {
		case r.Intn(8) == 0:
			b = b[:at]
		case r.Intn(8) == 0:
			b = slices.Insert(b, at, c)
		case at < len(b) && r.Intn(8) == 0:
			b = slices.Delete(b, at, at+1)
		case at < len(b):
			b[at] = c
		}
	}
	return string(b)
}

// eachDrawn calls with values of each type of random lists, and with their bytes.
func eachDrawn(seed int64, lists int, f func(r *rand.Rand, l []api.Type, x int, v api.Value, b []byte)) {
	r := rand.New(rand.NewSource(seed))
	for range lists {
		l := randomList(r)
		for x := range l {
			d := drawer{Rand: r, list: l}
			v := d.value(x)
			f(r, l, x, v, d.bytes)
		}
	}
}

func TestDrawnValues(t *testing.T) {
	long := 0
	eachDrawn(11, 400, func(_ *rand.Rand, l []api.Type, x int, v api.Value, b []byte) {
		wantFirst(t, l, x, string(b)+"\x05", v, len(b))
		if len(b) > api.MaxSize {
			long++
			wantNoGet(t, l, x, string(b), api.ErrLong)
			return
		}
		wantValue(t, l, x, string(b), v)
		wantBack(t, l, x, string(b))
	})
	if long < 20 {
		t.Errorf("only %d values with more bytes than may be", long)
	}
}

func TestSpoiltBytes(t *testing.T) {
	errs := map[api.Errno]int{}
	read := 0
	eachDrawn(12, 800, func(r *rand.Rand, l []api.Type, x int, _ api.Value, b []byte) {
		for range 6 {
			s := spoilt(r, b)
			if wantSlow(t, l, x, s) {
				read++
			}
			_, e := Get(l, x, s)
			errs[e]++
		}
	})
	for _, e := range []api.Errno{api.ErrShort, api.ErrPad, api.ErrRange, api.ErrForm, api.ErrLong, api.ErrText} {
		if errs[e] < 200 {
			t.Errorf("%v only %d times", e, errs[e])
		}
	}
	if read < 1000 {
		t.Errorf("only %d values", read)
	}
}

// Promise 11.2.

func TestGetInvertsPut(t *testing.T) {
	eachDrawn(112, 400, func(_ *rand.Rand, l []api.Type, x int, v api.Value, _ []byte) {
		if b, e := put.Put(l, x, v); e == api.OK {
			wantValue(t, l, x, b, v)
		} else if e != api.ErrLong {
			t.Errorf("%v: %s, %s", e, brief(v), brief(l))
		}
	})
	for x := range good() {
		v, ok := fits.Blank(good(), x)
		b, e := put.Put(good(), x, v)
		if !ok || e != api.OK {
			t.Errorf("type %d: %v, %v", x, ok, e)
		}
		wantValue(t, good(), x, b, v)
	}
}

// eachText calls with all texts of some bytes, up to some length.
func eachText(alphabet string, most int, f func(s string)) {
	texts := []string{""}
	for len(texts) > 0 {
		s := texts[0]
		texts = texts[1:]
		f(s)
		for i := 0; i < len(alphabet) && len(s) < most; i++ {
			texts = append(texts, s+alphabet[i:i+1])
		}
	}
}

// Of all bytes of a length, only those are decoded that a value has.
func TestEachTextOfBytes(t *testing.T) {
	l := []api.Type{
		{Kind: api.TBool}, {Kind: api.TOctet}, {Kind: api.TInt16}, {Kind: api.TString, Bound: 2}, {Kind: api.TSeq, Bound: 2, Of: 0}, {Kind: api.TArray, Bound: 3, Of: 0},
		{Kind: api.TEnum, Name: "E", Items: []api.Item{{Name: "a", Num: 1}, {Name: "b", Num: 0x02020202}}},
		{Kind: api.TStruct, Name: "S", Items: []api.Item{{Name: "a", Type: 0}, {Name: "b", Type: 2}, {Name: "c", Type: 0}}},
		{Kind: api.TUnion, Name: "U", Tag: 1, Items: []api.Item{{Name: "a", Num: 1, Type: 0}, {Name: "b", Num: 2, Type: 2}}},
		{Kind: api.TUnion, Name: "V", Tag: 0, Items: []api.Item{{Name: "a", Num: 1, Type: 5}, {Name: "z", Type: 8, Rest: true}}},
		{Kind: api.TArray, Bound: 2, Of: 8},
	}
	// How many values there are whose bytes are 0 to 3 alone, and at most seven. (Two of the second branch of U have eight.)
	values := []int{2, 4, 16, 1 + 3 + 9, 1 + 2 + 4, 8, 2, 2 * 16 * 2, 2 + 2 + 16, 8 + 20, 20*20 - 16*16}
	got := make([]int, len(l))
	eachText("\x00\x01\x02\x03", 7, func(s string) {
		for x := range l {
			if wantSlow(t, l, x, s) {
				got[x]++
			}
		}
	})
	for x, n := range got {
		if n != values[x] {
			t.Errorf("type %d: %d values, want %d", x, n, values[x])
		}
	}
}

func TestAlignWritesTheBytes(t *testing.T) {
	b := align.New()
	for _, n := range []struct {
		n    uint64
		size int
	}{{2, 4}, {9, 1}, {2, 4}} {
		b.Put(n.n, n.size)
	}
	b.Text("x\x00")
	for _, n := range []struct {
		n    uint64
		size int
	}{{7, 1}, {3, 1}, {1<<32 - 4, 4}} {
		b.Put(n.n, n.size)
	}
	wantGood(t, nest, b.Bytes(), node(api.TSeq, union(9, str("x")), union(7, pointOf(3, minus(4)))))
}
