package key

import (
	"encoding/binary"
	"fmt"
	"math"
	"math/rand"
	"reflect"
	"slices"
	"strconv"
	"strings"
	"testing"

	"broadsheet/api"
	"broadsheet/fits"
	"broadsheet/types"
	"broadsheet/value"
)

// minus is a number below 0, by its widest two's complement.
func minus(n uint64) uint64 { return -n }

// Places in good.
const (
	truth  = api.TBool - 1
	octet  = api.TOctet - 1
	short  = api.TInt16 - 1
	medium = api.TInt32 - 1
	long   = api.TInt64 - 1
	wide   = api.TUint64 - 1
	colour = api.TEnum - 1
	text   = 9  // up to 3 bytes
	none   = 10 // a text without bytes
	name   = 11 // up to 15 bytes: the greatest that alone can be of a key
	story  = 12 // up to 64 bytes: no key has room for it
	some   = 13 // up to 2 octets
	fixed  = 14 // 2 texts
	choice = 15 // by an octet: a text, or a short
	point  = 16 // a short, and of the key a text and an octet
	plain  = 17 // a long, without a key
	heavy  = 18 // of the key a story: too long
)

// good is a valid list: the numeric kinds stand at the places one below their numbers.
func good() []api.Type {
	return []api.Type{
		{Kind: api.TBool}, {Kind: api.TOctet}, {Kind: api.TInt16}, {Kind: api.TUint16},
		{Kind: api.TInt32}, {Kind: api.TUint32}, {Kind: api.TInt64}, {Kind: api.TUint64},
		{Kind: api.TEnum, Name: "Colour", Items: []api.Item{{Name: "red", Num: 7}, {Name: "blue", Num: minus(5)}, {Name: "green"}, {Name: "high", Num: 1<<31 - 1}, {Name: "low", Num: minus(1 << 31)}}},
		{Kind: api.TString, Bound: 3}, {Kind: api.TString}, {Kind: api.TString, Bound: 15}, {Kind: api.TString, Bound: api.MaxBound},
		{Kind: api.TSeq, Bound: 2, Of: octet}, {Kind: api.TArray, Bound: 2, Of: text},
		{Kind: api.TUnion, Name: "Choice", Tag: octet, Items: []api.Item{{Name: "a", Num: 7, Type: text}, {Name: "b", Num: 9, Type: short}}},
		{Kind: api.TStruct, Name: "Point", Items: []api.Item{{Name: "a", Type: short}, {Name: "b", Type: text, Key: true}, {Name: "c", Type: octet, Key: true}}},
		{Kind: api.TStruct, Name: "Plain", Items: []api.Item{{Name: "a", Type: long}}},
		{Kind: api.TStruct, Name: "Heavy", Items: []api.Item{{Name: "a", Type: story, Key: true}}},
	}
}

// of is a field of the key, beside is one that is not.
func of(t int) api.Item     { return api.Item{Type: t, Key: true} }
func beside(t int) api.Item { return api.Item{Type: t} }

// structOf has some fields, which it names.
func structOf(fields ...api.Item) api.Type {
	x := api.Type{Kind: api.TStruct, Name: "New"}
	for i, m := range fields {
		m.Name = "i" + strconv.Itoa(i)
		x.Items = append(x.Items, m)
	}
	return x
}

// with is good with a struct behind it, at the place last.
const last = heavy + 1

func with(fields ...api.Item) []api.Type { return append(good(), structOf(fields...)) }

func many[T any](x T, n int) []T { return slices.Repeat([]T{x}, n) }

func num(kind int, n uint64) api.Value { return api.Value{Kind: kind, Num: n} }

func str(s string) api.Value { return api.Value{Kind: api.TString, Text: s} }

func node(kind int, items ...api.Value) api.Value { return api.Value{Kind: kind, Items: items} }

func record(fields ...api.Value) api.Value { return node(api.TStruct, fields...) }

func byteOf(n uint64) api.Value { return num(api.TOctet, n) }

func pointOf(a uint64, b string, c uint64) api.Value {
	return record(num(api.TInt16, a), str(b), byteOf(c))
}

func noPlaces(n int) []int {
	return []int{math.MinInt, math.MinInt + 1, -1 << 32, -n, -2, -1, n, n + 1, n + 2, api.MaxTypes, 1 << 32, math.MaxInt}
}

// brief is what a failed test says of something.
func brief(x any) string {
	s := fmt.Sprint(x)
	return s[:min(len(s), 300)]
}

// made is the key that has some bytes.
func made(b string) api.Key {
	k := api.Key{byte(len(b))}
	for i := range len(b) {
		k[i+1] = b[i]
	}
	return k
}

func mustBeValid(t *testing.T, l []api.Type) {
	t.Helper()
	if f := types.Check(l); f != (api.Fault{}) {
		t.Fatalf("%v at %d: %s", f.Err, f.At, brief(l))
	}
}

func wantFields(t *testing.T, l []api.Type, x int, want ...int) {
	t.Helper()
	mustBeValid(t, l)
	if got, e := Fields(l, x); e != api.OK || !slices.Equal(got, want) {
		t.Errorf("Fields of type %d: %v, %v, want %v: %s", x, got, e, want, brief(l))
	}
}

func wantNoKey(t *testing.T, l []api.Type, x int, v api.Value, want api.Errno) {
	t.Helper()
	if k, e := Of(l, x, v); k != (api.Key{}) || e != want {
		t.Errorf("Of type %d: %v, %v, want %v: %s, %s", x, k, e, want, brief(v), brief(l))
	}
}

// wantNoFields wants the same error of Of, whatever the value is.
func wantNoFields(t *testing.T, l []api.Type, x int, want api.Errno) {
	t.Helper()
	if got, e := Fields(l, x); len(got) != 0 || e != want {
		t.Errorf("Fields of type %d: %v, %v, want %v: %s", x, got, e, want, brief(l))
	}
	for _, v := range []api.Value{{}, byteOf(0), str("ab"), record(), pointOf(1, "ab", 2), pointOf(1, "abcd", 256)} {
		wantNoKey(t, l, x, v, want)
	}
}

// wantKey wants the key of a value of a type to have some bytes.
func wantKey(t *testing.T, l []api.Type, x int, v api.Value, want string) {
	t.Helper()
	mustBeValid(t, l)
	k, e := Of(l, x, v)
	if e != api.OK || k != made(want) {
		t.Errorf("Of type %d: %v, %v, want %v: %s, %s", x, k, e, made(want), brief(v), brief(l))
	}
	wantBytes(t, k, want)
}

// wantOne wants the key of a struct with one field.
func wantOne(t *testing.T, field int, v api.Value, want string) {
	t.Helper()
	wantKey(t, with(of(field)), last, record(v), want)
}

func wantBytes(t *testing.T, k api.Key, want string) {
	t.Helper()
	if b, ok := Bytes(k); !ok || b != want {
		t.Errorf("Bytes of %v: %q, %v, want %q", k, b, ok, want)
	}
	s := fmt.Sprintf("%x", want)
	if want == "" {
		s = "-"
	}
	if got := Text(k); got != s {
		t.Errorf("Text of %v: %q, want %q", k, got, s)
	}
}

func wantNoBytes(t *testing.T, k api.Key) {
	t.Helper()
	if b, ok := Bytes(k); ok || b != "" {
		t.Errorf("Bytes of %v: %q, %v", k, b, ok)
	}
	if s := Text(k); s != "?" {
		t.Errorf("Text of %v: %q", k, s)
	}
}

func wantGroups(t *testing.T, l []api.Key, want ...[]int) {
	t.Helper()
	if got := Groups(l); !slices.EqualFunc(got, want, slices.Equal[[]int]) {
		t.Errorf("Groups: %s, want %s: %s", brief(got), brief(want), brief(l))
	}
}

// Promise 13.1, Fields.

func TestFields(t *testing.T) {
	wantFields(t, good(), point, 1, 2)
	wantFields(t, good(), plain)
	wantFields(t, with(of(octet)), last, 0)
	wantFields(t, with(beside(octet)), last)
	wantFields(t, with(beside(octet), of(octet), beside(octet), of(octet)), last, 1, 3)
	wantFields(t, with(of(octet), beside(octet), of(octet), beside(octet)), last, 0, 2)
	wantFields(t, with(of(text), of(short), of(octet)), last, 0, 1, 2)
	wantFields(t, with(of(octet), of(text), of(octet), of(text)), last, 0, 1, 2, 3)
	for kind := api.TBool; kind <= api.TEnum; kind++ {
		wantFields(t, with(beside(some), of(kind-1)), last, 1)
	}
	for i := range api.MaxItems {
		fields := many(beside(octet), api.MaxItems)
		fields[i].Key = true
		wantFields(t, with(fields...), last, i)
	}
}

func TestEachSetOfFields(t *testing.T) {
	for set := range 1 << 6 {
		var fields []api.Item
		var want []int
		for i := range 6 {
			fields = append(fields, beside(i))
			if set>>i&1 == 1 && i != wide {
				fields[i].Key = true
				want = append(want, i)
			}
		}
		wantFields(t, with(fields...), last, want...)
	}
}

func TestFieldsOfOtherPlaces(t *testing.T) {
	x := func(name string, items ...api.Item) api.Type {
		s := structOf(items...)
		s.Name = name
		return s
	}
	l := []api.Type{{Kind: api.TOctet}, x("A", of(0), beside(0)), {Kind: api.TString, Bound: 2}, x("B", beside(1), of(2)), x("C", of(0), beside(1), of(2))}
	wantFields(t, l, 1, 0)
	wantFields(t, l, 3, 1)
	wantFields(t, l, 4, 0, 2)
}

// A TStruct within a TStruct adds nothing to the key, whatever its own key is.
func TestFieldsWithin(t *testing.T) {
	wantFields(t, with(beside(point), of(octet), beside(heavy)), last, 1)
	v := record(pointOf(1, "x", 2), byteOf(5), record(str("y")))
	wantKey(t, with(beside(point), of(octet), beside(heavy)), last, v, "\x05")
}

func TestNoSuchType(t *testing.T) {
	l := good()
	for _, x := range noPlaces(len(l)) {
		wantNoFields(t, l, x, api.ErrType)
	}
	for _, x := range []int{math.MinInt, -1, 0, 1, math.MaxInt} {
		wantNoFields(t, nil, x, api.ErrType)
		wantNoFields(t, []api.Type{}, x, api.ErrType)
	}
	// What lies behind the end of the list is no type of it.
	wantNoFields(t, l[:point], point, api.ErrType)
}

func TestListsThatAreNotValid(t *testing.T) {
	for _, spoil := range []func(l []api.Type){
		func(l []api.Type) { l[truth].Kind = 0 },
		func(l []api.Type) { l[truth].Kind = api.TUnion + 1 },
		func(l []api.Type) { l[octet].Bound = 1 },
		func(l []api.Type) { l[text].Bound = api.MaxBound + 1 },
		func(l []api.Type) { l[text].Bound = -1 },
		func(l []api.Type) { l[some].Of = some },
		func(l []api.Type) { l[choice].Tag = text },
		func(l []api.Type) { l[point].Name = "AND" },
		func(l []api.Type) { l[point].Items = nil },
		func(l []api.Type) { l[point].Items[1].Type = point },
		func(l []api.Type) { l[point].Items[1].Type = -1 },
		func(l []api.Type) { l[point].Items[1].Type = math.MaxInt },
		func(l []api.Type) { l[point].Items[1].Type = some },
		func(l []api.Type) { l[point].Items[1].Type = choice },
		func(l []api.Type) { l[point].Items[1].Name = "a" },
		func(l []api.Type) { l[point].Items = many(l[point].Items[0], api.MaxItems+1) },
		func(l []api.Type) { l[plain].Name = "Point" },
		func(l []api.Type) { l[heavy].Items[0].Num = 1 },
		func(l []api.Type) { l[heavy].Items[0].Type = heavy + 5 },
	} {
		l := good()
		spoil(l)
		for x := range l {
			wantNoFields(t, l, x, api.ErrType)
		}
	}
}

func TestLengthOfTheList(t *testing.T) {
	l := good()
	for len(l) < api.MaxTypes {
		l = append(l, api.Type{Kind: api.TOctet})
	}
	wantFields(t, l, point, 1, 2)
	wantKey(t, l, point, pointOf(1, "ab", 3), "\x02ab\x03")
	for x := range l {
		wantNoFields(t, append(l, api.Type{Kind: api.TOctet}), x, api.ErrType)
	}
}

func TestOtherKinds(t *testing.T) {
	for x, k := range good() {
		if k.Kind != api.TStruct {
			wantNoFields(t, good(), x, api.ErrKind)
		}
	}
	v, _ := fits.Blank(good(), octet)
	wantNoKey(t, good(), octet, v, api.ErrKind)
}

// size is the maximum length of a key field of a type, by the chapter's own words.
func size(x api.Type) int {
	return [...]int{0, 1, 1, 2, 2, 4, 4, 8, 8, 4, x.Bound + 1}[x.Kind]
}

// wantUsable wants a TStruct to be usable for a topic if its key fields have room. It reports whether they do.
func wantUsable(t *testing.T, l []api.Type, x int) bool {
	t.Helper()
	length := 0
	var want []int
	for i, m := range l[x].Items {
		if m.Key {
			length += size(l[m.Type])
			want = append(want, i)
		}
	}
	if length > api.MaxKey {
		wantNoFields(t, l, x, api.ErrKey)
		return false
	}
	wantFields(t, l, x, want...)
	return true
}

func TestKeysThatAreTooLong(t *testing.T) {
	wantNoFields(t, good(), heavy, api.ErrKey)
	wantFields(t, with(many(of(octet), 16)...), last, 0, 1, 2, 3, 4, 5, 6, 7, 8, 9, 10, 11, 12, 13, 14, 15)
	wantNoFields(t, with(append(many(of(octet), 15), of(short))...), last, api.ErrKey)
	wantFields(t, with(append(many(of(octet), 14), of(short))...), last, 0, 1, 2, 3, 4, 5, 6, 7, 8, 9, 10, 11, 12, 13, 14)
	wantFields(t, with(of(long), of(wide)), last, 0, 1)
	wantNoFields(t, with(of(long), of(wide), of(truth)), last, api.ErrKey)
	wantNoFields(t, with(of(long), of(wide), of(none)), last, api.ErrKey)
	wantFields(t, with(of(name)), last, 0)
	wantNoFields(t, with(of(name), of(truth)), last, api.ErrKey)
	wantNoFields(t, with(of(none), of(name)), last, api.ErrKey)
	wantFields(t, with(many(of(text), 4)...), last, 0, 1, 2, 3)
	wantNoFields(t, with(many(of(text), 5)...), last, api.ErrKey)
	wantNoFields(t, with(many(of(story), api.MaxItems)...), last, api.ErrKey)
	// Only the key fields count.
	wantFields(t, with(of(long), beside(story), of(wide), beside(long), beside(heavy)), last, 0, 2)
}

func TestSumOfEachKind(t *testing.T) {
	for x := range some {
		for n := range api.MaxItems + 1 {
			for _, y := range []int{octet, short, none, colour} {
				if n < api.MaxItems {
					wantUsable(t, with(append(many(of(x), n), of(y))...), last)
					wantUsable(t, with(append(many(of(y), n), of(x))...), last)
				}
			}
			if n > 0 {
				wantUsable(t, with(many(of(x), n)...), last)
			}
		}
	}
}

func TestBoundsOfTexts(t *testing.T) {
	for a := range api.MaxBound + 1 {
		for b := range 20 {
			l := append(good(), api.Type{Kind: api.TString, Bound: a}, api.Type{Kind: api.TString, Bound: b})
			wantUsable(t, append(l, structOf(of(last))), last+2)
			wantUsable(t, append(l, structOf(of(last), of(last+1))), last+2)
			wantUsable(t, append(l, structOf(of(last), beside(last+1))), last+2)
		}
	}
}

// Promise 13.1, Of.

func TestNumbers(t *testing.T) {
	for _, c := range []struct {
		kind int
		n    uint64
		want string
	}{
		{api.TBool, 0, "\x00"}, {api.TBool, 1, "\x01"},
		{api.TOctet, 0, "\x00"}, {api.TOctet, 1, "\x01"}, {api.TOctet, 128, "\x80"}, {api.TOctet, 255, "\xff"},
		{api.TInt16, 0, "\x00\x00"}, {api.TInt16, 258, "\x02\x01"}, {api.TInt16, 1<<15 - 1, "\xff\x7f"},
		{api.TInt16, minus(1), "\xff\xff"}, {api.TInt16, minus(2), "\xfe\xff"}, {api.TInt16, minus(1 << 15), "\x00\x80"},
		{api.TUint16, 258, "\x02\x01"}, {api.TUint16, 1 << 15, "\x00\x80"}, {api.TUint16, 1<<16 - 1, "\xff\xff"},
		{api.TInt32, 0x04030201, "\x01\x02\x03\x04"}, {api.TInt32, 1<<31 - 1, "\xff\xff\xff\x7f"},
		{api.TInt32, minus(2), "\xfe\xff\xff\xff"}, {api.TInt32, minus(1 << 31), "\x00\x00\x00\x80"},
		{api.TUint32, 0x84030201, "\x01\x02\x03\x84"}, {api.TUint32, 1<<32 - 1, "\xff\xff\xff\xff"},
		{api.TInt64, 0x0807060504030201, "\x01\x02\x03\x04\x05\x06\x07\x08"}, {api.TInt64, minus(2), "\xfe\xff\xff\xff\xff\xff\xff\xff"},
		{api.TInt64, 1 << 63, "\x00\x00\x00\x00\x00\x00\x00\x80"},
		{api.TUint64, 0x8807060504030201, "\x01\x02\x03\x04\x05\x06\x07\x88"}, {api.TUint64, math.MaxUint64, "\xff\xff\xff\xff\xff\xff\xff\xff"},
		{api.TEnum, 7, "\x07\x00\x00\x00"}, {api.TEnum, 0, "\x00\x00\x00\x00"}, {api.TEnum, minus(5), "\xfb\xff\xff\xff"},
		{api.TEnum, 1<<31 - 1, "\xff\xff\xff\x7f"}, {api.TEnum, minus(1 << 31), "\x00\x00\x00\x80"},
	} {
		wantOne(t, c.kind-1, num(c.kind, c.n), c.want)
	}
	for n := range 256 {
		wantOne(t, octet, byteOf(uint64(n)), string([]byte{byte(n)}))
	}
}

func TestTexts(t *testing.T) {
	wantOne(t, none, str(""), "\x00")
	wantOne(t, text, str(""), "\x00")
	wantOne(t, text, str("a"), "\x01a")
	wantOne(t, text, str("abc"), "\x03abc")
	wantOne(t, text, str("é\xff"), "\x03\xc3\xa9\xff")
	const letters = "abcdefghijklmno"
	for n := range len(letters) + 1 {
		wantOne(t, name, str(letters[:n]), string([]byte{byte(n)})+letters[:n])
	}
	for c := 1; c < 256; c++ {
		s := string([]byte{byte(c)})
		wantOne(t, text, str(s), "\x01"+s)
	}
}

// The document's example: TInt16 -1 and TString "ab".
func TestExample(t *testing.T) {
	l := with(of(short), of(text))
	v := record(num(api.TInt16, minus(1)), str("ab"))
	if k, e := Of(l, last, v); e != api.OK || k != (api.Key{5, 255, 255, 2, 'a', 'b'}) {
		t.Errorf("%v, %v", k, e)
	}
}

func TestSeveralFields(t *testing.T) {
	wantKey(t, good(), plain, record(num(api.TInt64, minus(1))), "")
	wantKey(t, good(), point, pointOf(9, "ab", 3), "\x02ab\x03")
	wantKey(t, good(), point, pointOf(9, "", 0), "\x00\x00")
	// In the order of the fields, without gaps.
	wantKey(t, with(of(octet), of(long), of(octet), of(medium)), last, record(byteOf(1), num(api.TInt64, 2), byteOf(3), num(api.TInt32, minus(4))),
		"\x01\x02\x00\x00\x00\x00\x00\x00\x00\x03\xfc\xff\xff\xff")
	wantKey(t, with(of(text), of(octet), of(text)), last, record(str("c"), byteOf(1), str("ab")), "\x01c\x01\x02ab")
	wantKey(t, with(of(text), of(octet), of(text)), last, record(str("ab"), byteOf(1), str("c")), "\x02ab\x01\x01c")
	wantKey(t, with(beside(octet), of(octet), beside(octet), of(octet)), last, record(byteOf(1), byteOf(2), byteOf(3), byteOf(4)), "\x02\x04")
	// All bytes that a key has.
	wantKey(t, with(of(long), of(wide)), last, record(num(api.TInt64, minus(1)), num(api.TUint64, 1)), "\xff\xff\xff\xff\xff\xff\xff\xff\x01\x00\x00\x00\x00\x00\x00\x00")
	wantKey(t, with(many(of(text), 4)...), last, record(str("abc"), str("def"), str("ghi"), str("jkl")), "\x03abc\x03def\x03ghi\x03jkl")
	wantKey(t, with(many(of(none), 16)...), last, record(many(str(""), 16)...), strings.Repeat("\x00", 16))
	v, want := record(), ""
	for i := range api.MaxItems {
		v.Items = append(v.Items, byteOf(uint64(i)+100))
		want += string([]byte{byte(i) + 100})
	}
	wantKey(t, with(many(of(octet), 16)...), last, v, want)
}

func TestOtherFieldsDoNotCount(t *testing.T) {
	l := with(beside(story), of(text), beside(some), beside(choice), of(octet), beside(wide))
	for _, s := range []string{"", "a", strings.Repeat("x", api.MaxBound)} {
		for _, o := range [][]api.Value{nil, {byteOf(0)}, {byteOf(1), byteOf(255)}} {
			for _, u := range []api.Value{{Kind: api.TUnion}, {Kind: api.TUnion, Num: 7, Items: []api.Value{str("z")}}} {
				wantKey(t, l, last, record(str(s), str("k"), node(api.TSeq, o...), u, byteOf(5), num(api.TUint64, math.MaxUint64)), "\x01k\x05")
			}
		}
	}
}

func TestValuesThatHaveNotTheType(t *testing.T) {
	for _, c := range []struct {
		v    api.Value
		want api.Errno
	}{
		{api.Value{}, api.ErrKind}, {byteOf(1), api.ErrKind}, {node(api.TArray, pointOf(1, "", 2).Items...), api.ErrKind}, {num(-1, 0), api.ErrKind},
		{api.Value{Kind: api.TStruct, Num: 1, Items: pointOf(1, "", 2).Items}, api.ErrForm}, {api.Value{Kind: api.TStruct, Text: "x", Items: pointOf(1, "", 2).Items}, api.ErrForm},
		{record(), api.ErrNone}, {record(pointOf(1, "", 2).Items[:2]...), api.ErrNone}, {record(append(pointOf(1, "", 2).Items, byteOf(3))...), api.ErrNone},
		{record(num(api.TUint16, 1), str(""), byteOf(2)), api.ErrKind}, {pointOf(1<<15, "", 2), api.ErrRange}, {pointOf(1, "", 256), api.ErrRange},
		{pointOf(1, "abcd", 2), api.ErrLong}, {pointOf(1, "a\x00", 2), api.ErrText}, {pointOf(1, strings.Repeat("x", 300), 256), api.ErrLong},
		{record(num(api.TInt16, 1), api.Value{Kind: api.TString, Num: 1}, byteOf(2)), api.ErrForm}, {record(num(api.TInt16, 1), byteOf(1), byteOf(2)), api.ErrKind},
		{record(num(api.TInt16, 1), str(""), api.Value{Kind: api.TOctet, Num: 1, Text: "x"}), api.ErrForm},
	} {
		if e := fits.Fits(good(), point, c.v); e != c.want {
			t.Fatalf("%v, want %v: %s", e, c.want, brief(c.v))
		}
		wantNoKey(t, good(), point, c.v, c.want)
	}
	wantNoKey(t, with(of(colour)), last, record(num(api.TEnum, 8)), api.ErrRange)
	wantNoKey(t, with(of(truth)), last, record(num(api.TBool, 2)), api.ErrRange)
	// Without a key field, what is wrong counts too.
	wantNoKey(t, good(), plain, record(str("")), api.ErrKind)
}

// tower is a value of so many within one another.
func tower(deep int) api.Value {
	v := byteOf(7)
	for range deep {
		v = record(v)
	}
	return v
}

func TestDeepValues(t *testing.T) {
	v := tower(1<<16 - 2)
	wantNoKey(t, good(), plain, v, api.ErrKind)
	wantNoKey(t, good(), point, v, api.ErrNone)
	wantNoKey(t, good(), octet, v, api.ErrKind)
	wantNoKey(t, nil, 0, v, api.ErrType)
}

// Promise 13.2, Bytes and Text.

func TestBytes(t *testing.T) {
	wantBytes(t, api.Key{}, "")
	wantBytes(t, api.Key{1}, "\x00")
	wantBytes(t, api.Key{2, 3}, "\x03\x00")
	wantBytes(t, api.Key{3, 0, 0xab, 0x0c}, "\x00\xab\x0c")
	wantBytes(t, api.Key{16}, strings.Repeat("\x00", 16))
	const all = "\xff\xfe\xfd\xfc\xfb\xfa\xf9\xf8\xf7\xf6\xf5\xf4\xf3\xf2\xf1\xf0"
	for n := range api.MaxKey + 1 {
		wantBytes(t, made(all[:n]), all[:n])
		wantBytes(t, api.Key{byte(n)}, strings.Repeat("\x00", n))
	}
}

func TestTextOfEachByte(t *testing.T) {
	for c := range 256 {
		for n := 1; n <= api.MaxKey; n++ {
			for i := range n {
				b := []byte(strings.Repeat("\x10", n))
				b[i] = byte(c)
				wantBytes(t, made(string(b)), string(b))
			}
		}
	}
	if s := Text(api.Key{3, 0x09, 0xaf, 0xf0}); s != "09aff0" {
		t.Errorf("%q", s)
	}
}

func TestNoBytes(t *testing.T) {
	for n := api.MaxKey + 1; n < 256; n++ {
		wantNoBytes(t, api.Key{byte(n)})
		wantNoBytes(t, api.Key{byte(n), 1, 2, 3})
	}
	for n := range api.MaxKey + 1 {
		for i := n + 1; i <= api.MaxKey; i++ {
			for _, c := range []byte{1, 2, 128, 255} {
				k := made(strings.Repeat("\x01", n))
				k[i] = c
				wantNoBytes(t, k)
			}
		}
	}
	wantNoBytes(t, api.Key{0, 1})
	wantNoBytes(t, api.Key{1, 0, 0, 4})
}

func TestRandomBytes(t *testing.T) {
	r := rand.New(rand.NewSource(132))
	for range 20000 {
		k := api.Key{byte(r.Intn(20))}
		for i := range r.Intn(len(k)) {
			k[i+1] = byte(r.Intn(3))
		}
		n := int(k[0])
		if n > api.MaxKey || strings.Trim(string(k[n+1:]), "\x00") != "" {
			wantNoBytes(t, k)
		} else {
			wantBytes(t, k, string(k[1:n+1]))
		}
	}
}

// Promise 13.2, Groups.

func TestGroups(t *testing.T) {
	a, b, c := made("a"), made("b"), made("")
	wantGroups(t, nil)
	wantGroups(t, []api.Key{})
	wantGroups(t, []api.Key{a}, []int{0})
	wantGroups(t, []api.Key{c}, []int{0})
	wantGroups(t, []api.Key{a, a, a}, []int{0, 1, 2})
	wantGroups(t, []api.Key{b, a, c}, []int{0}, []int{1}, []int{2})
	wantGroups(t, []api.Key{b, a, b, c, a, b}, []int{0, 2, 5}, []int{1, 4}, []int{3})
	wantGroups(t, []api.Key{c, b, b, a, a, c}, []int{0, 5}, []int{1, 2}, []int{3, 4})
}

// Keys that have no bytes are keys as well: all that they are is held against each other.
func TestGroupsOfAnyKeys(t *testing.T) {
	for i := range len(api.Key{}) {
		for _, x := range []byte{1, 128, 255} {
			k := made("0123456789")
			other := k
			other[i] ^= x
			wantGroups(t, []api.Key{k, other, other, k}, []int{0, 3}, []int{1, 2})
			wantGroups(t, []api.Key{other, other, k}, []int{0, 1}, []int{2})
		}
	}
	wantGroups(t, []api.Key{{}, {0, 1}, {17}, {255}, {0, 1}, {17}}, []int{0}, []int{1, 4}, []int{2, 5}, []int{3})
}

// grouped finds the groups by comparing each two keys.
func grouped(l []api.Key) [][]int {
	var groups [][]int
	for i, k := range l {
		if slices.Index(l, k) < i {
			continue
		}
		var g []int
		for j, m := range l {
			if m == k {
				g = append(g, j)
			}
		}
		groups = append(groups, g)
	}
	return groups
}

func TestRandomGroups(t *testing.T) {
	r := rand.New(rand.NewSource(13))
	for n := range 200 {
		l := make([]api.Key, n)
		for i := range l {
			l[i] = api.Key{byte(r.Intn(3)), byte(r.Intn(1 + n/10))}
			l[i][api.MaxKey] = byte(r.Intn(2))
		}
		for range 3 {
			wantGroups(t, l, grouped(l)...)
		}
	}
}

func TestManyKeys(t *testing.T) {
	l := make([]api.Key, 1<<18)
	for i := range l {
		binary.LittleEndian.PutUint64(l[i][1:], uint64(i%(1<<17)))
	}
	groups := Groups(l)
	if len(groups) != 1<<17 {
		t.Fatalf("%d groups", len(groups))
	}
	for i, g := range groups {
		if !slices.Equal(g, []int{i, i + 1<<17}) {
			t.Fatalf("group %d: %v", i, g)
		}
	}
}

// Rule R4.

func TestArgumentsStay(t *testing.T) {
	behind := func() []api.Type { return append(good(), api.Type{Kind: -7, Name: "behind"}) }
	whole := behind()
	v := pointOf(1, "ab", 3)
	v.Items = append(v.Items, str("behind"))
	w := record(v.Items[:3]...)
	for x := range good() {
		Fields(whole[:len(good())], x)
		Of(whole[:len(good())], x, w)
	}
	keys := []api.Key{made("a"), made("b"), made("a"), made("c")}
	Groups(keys[:3])
	if !reflect.DeepEqual(whole, behind()) || !value.Same(v, record(append(pointOf(1, "ab", 3).Items, str("behind"))...)) {
		t.Errorf("now %s, %s", brief(whole), brief(v))
	}
	if !slices.Equal(keys, []api.Key{made("a"), made("b"), made("a"), made("c")}) {
		t.Errorf("now %v", keys)
	}
}

func TestResultsAreNewMemory(t *testing.T) {
	l := with(many(of(octet), 5)...)
	got, _ := Fields(l, last)
	for i := range got {
		got[i] = -9
	}
	wantFields(t, l, last, 0, 1, 2, 3, 4)
	keys := []api.Key{made("a"), made("b"), made("a"), made("b"), made("c"), made("a")}
	groups := Groups(keys)
	for i := range groups {
		groups[i] = append(groups[i][:1], -1, -2, -3, -4)
	}
	for i, first := range []int{0, 1, 4} {
		if !slices.Equal(groups[i], []int{first, -1, -2, -3, -4}) {
			t.Errorf("group %d: %v", i, groups[i])
		}
	}
	wantGroups(t, keys, []int{0, 2, 5}, []int{1, 3}, []int{4})
}

// Promise 13.3.

// few are some values of a type that can be of a key, chosen to be mistaken for one another: a byte of a text may look like the length of another one.
func few(l []api.Type, x int) []api.Value {
	kind := l[x].Kind
	switch kind {
	case api.TBool:
		return []api.Value{num(kind, 0), num(kind, 1)}
	case api.TEnum:
		var vs []api.Value
		for _, m := range l[x].Items {
			vs = append(vs, num(kind, m.Num))
		}
		return vs
	case api.TString:
		var vs []api.Value
		for _, s := range []string{"", "\x01", "\x02", "\x01\x01", "\x02\x01", "\x01\x02", "\x01\x01\x01", "\x01\x02\x01"} {
			if len(s) <= l[x].Bound {
				vs = append(vs, str(s))
			}
		}
		return vs
	}
	vs := []api.Value{num(kind, 0), num(kind, 1), num(kind, 2)}
	switch kind {
	case api.TInt16, api.TInt32, api.TInt64:
		return append(vs, num(kind, minus(1)), num(kind, minus(2)), num(kind, minus(1<<15)))
	case api.TUint16, api.TUint32, api.TUint64:
		return append(vs, num(kind, 256), num(kind, 257), num(kind, 1<<15))
	}
	return append(vs, num(kind, 255))
}

// fewOf are the structs of some fields of these values.
func fewOf(l []api.Type, x int) []api.Value {
	vs := []api.Value{record()}
	for _, m := range l[x].Items {
		var longer []api.Value
		for _, v := range vs {
			for _, w := range few(l, m.Type) {
				longer = append(longer, record(append(slices.Clone(v.Items), w)...))
			}
		}
		vs = longer
	}
	return vs
}

// wantTold wants equal keys of two values exactly where their key fields are the same.
func wantTold(t *testing.T, l []api.Type, x int, v, w api.Value) bool {
	t.Helper()
	same := true
	for i, m := range l[x].Items {
		same = same && (!m.Key || value.Same(v.Items[i], w.Items[i]))
	}
	a, e := Of(l, x, v)
	b, f := Of(l, x, w)
	if e != api.OK || f != api.OK || (a == b) != same {
		t.Errorf("type %d: %s has %v, %v, %s has %v, %v", x, value.Text(v), a, e, value.Text(w), b, f)
	}
	return same
}

func TestEqualKeys(t *testing.T) {
	for _, l := range [][]api.Type{
		with(of(text), of(text)), with(of(text), beside(text)), with(beside(text), of(text)), with(of(text), of(octet)), with(of(octet), of(text)),
		with(of(none), of(octet), of(text)), with(of(short), of(octet), beside(truth)), with(of(octet), of(short)), with(of(colour), of(truth)), with(beside(octet), beside(text)),
		with(of(medium), of(long)), with(of(wide), of(long)), with(beside(octet), of(truth), beside(octet), of(truth)), with(of(text), beside(octet), of(none)),
	} {
		vs := fewOf(l, last)
		for _, v := range vs {
			for _, w := range vs {
				wantTold(t, l, last, v, w)
			}
		}
	}
}

// Each of many texts has a key of its own, however they are cut.
func TestCutTexts(t *testing.T) {
	l := with(of(text), of(text), of(text))
	texts := map[string]string{}
	vs := fewOf(l, last)
	for _, v := range vs {
		k, e := Of(l, last, v)
		if other, ok := texts[Text(k)]; ok || e != api.OK {
			t.Fatalf("%s and %s, %v: %v", other, value.Text(v), e, k)
		}
		texts[Text(k)] = value.Text(v)
	}
	if len(vs) < 500 {
		t.Errorf("only %d values", len(vs))
	}
}

// slowKey has a value's key byte by byte.
func slowKey(l []api.Type, x int, v api.Value) api.Key {
	var k api.Key
	put := func(b byte) {
		k[0]++
		k[k[0]] = b
	}
	for i, m := range l[x].Items {
		switch f := v.Items[i]; {
		case !m.Key:
		case f.Kind == api.TString:
			put(byte(len(f.Text)))
			for _, b := range []byte(f.Text) {
				put(b)
			}
		default:
			for b := range size(l[m.Type]) {
				put(byte(f.Num >> (8 * b)))
			}
		}
	}
	return k
}

func TestRandomStructs(t *testing.T) {
	r := rand.New(rand.NewSource(133))
	same, usable := 0, 0
	for range 4000 {
		fields := make([]api.Item, 1+r.Intn(6))
		for i := range fields {
			fields[i] = api.Item{Type: r.Intn(story), Key: r.Intn(3) > 0}
		}
		l := with(fields...)
		if !wantUsable(t, l, last) {
			continue
		}
		usable++
		draw := func() api.Value {
			v := record()
			for _, m := range fields {
				vs := few(l, m.Type)
				v.Items = append(v.Items, vs[r.Intn(len(vs))])
			}
			return v
		}
		for range 8 {
			v, w := draw(), draw()
			if wantTold(t, l, last, v, w) {
				same++
			}
			k, _ := Of(l, last, v)
			if want := slowKey(l, last, v); k != want {
				t.Errorf("%s has %v, want %v: %s", value.Text(v), k, want, brief(fields))
			}
		}
	}
	if same < 500 || usable < 500 {
		t.Errorf("only %d equal keys, %d usable structs", same, usable)
	}
}
