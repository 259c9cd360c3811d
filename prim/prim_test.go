package prim

import (
	"math"
	"math/big"
	"slices"
	"strings"
	"testing"

	"broadsheet/api"
)

// facts are the chapter's table, with each kind's least and greatest number.
type facts struct {
	kind, size  int
	signed      bool
	least, most string
}

func table() []facts {
	return []facts{
		{api.TBool, 1, false, "0", "1"},
		{api.TOctet, 1, false, "0", "255"},
		{api.TInt16, 2, true, "-32768", "32767"},
		{api.TUint16, 2, false, "0", "65535"},
		{api.TInt32, 4, true, "-2147483648", "2147483647"},
		{api.TUint32, 4, false, "0", "4294967295"},
		{api.TInt64, 8, true, "-9223372036854775808", "9223372036854775807"},
		{api.TUint64, 8, false, "0", "18446744073709551615"},
		{api.TEnum, 4, true, "-2147483648", "2147483647"},
	}
}

// noNumbers are kinds that are not numeric, and numbers that are no kinds.
func noNumbers() []int {
	return []int{
		api.TString, api.TSeq, api.TArray, api.TStruct, api.TUnion,
		0, -1, -2, -9, 15, 16, 255, 256, 257, 1 << 16, 1<<16 + 1, 1 << 32, 1<<32 + 1, 1<<32 + 9, math.MinInt, math.MinInt + 1, math.MaxInt,
	}
}

// numbers has each power of two with its neighbours, and some without a pattern.
func numbers() []uint64 {
	l := []uint64{0, 0x0123456789abcdef, 0xfedcba9876543210, 0x8040201008040201}
	for i := range 64 {
		p := uint64(1) << i
		l = append(l, p-1, p, p+1, -p-1, -p, -p+1)
	}
	return l
}

func integer(s string) *big.Int {
	n, ok := new(big.Int).SetString(s, 10)
	if !ok {
		panic(s)
	}
	return n
}

// meant is the integer that a word is for a kind: for those with a sign the word is a two's complement of 64 bits.
func meant(f facts, n uint64) *big.Int {
	if f.signed {
		return big.NewInt(int64(n))
	}
	return new(big.Int).SetUint64(n)
}

func isWithin(f facts, n *big.Int) bool {
	return n.Cmp(integer(f.least)) >= 0 && n.Cmp(integer(f.most)) <= 0
}

// wordOf is the number of a kind that an integer within its bounds is.
func wordOf(n *big.Int) uint64 {
	if n.Sign() < 0 {
		return uint64(n.Int64())
	}
	return n.Uint64()
}

// edges are the integers about a kind's bounds and about 0.
func edges(f facts) []*big.Int {
	var l []*big.Int
	for _, at := range []*big.Int{integer(f.least), new(big.Int), integer(f.most)} {
		for by := int64(-2); by <= 2; by++ {
			l = append(l, new(big.Int).Add(at, big.NewInt(by)))
		}
	}
	return l
}

func num(neg bool, n uint64) api.Datum   { return api.Datum{Kind: api.DNum, Neg: neg, Num: n} }
func truth(neg bool, n uint64) api.Datum { return api.Datum{Kind: api.DBool, Neg: neg, Num: n} }
func text(s string) api.Datum            { return api.Datum{Kind: api.DText, Text: s} }

// datumOf is the datum of an integer, as a number of a kind.
func datumOf(f facts, n *big.Int) api.Datum {
	d := num(n.Sign() < 0, new(big.Int).Abs(n).Uint64())
	if f.kind == api.TBool {
		d.Kind = api.DBool
	}
	return d
}

func wantOf(t *testing.T, kind int, d api.Datum, want uint64, has bool) {
	t.Helper()
	if n, ok := Of(kind, d); n != want || ok != has {
		t.Errorf("Of(%d, %v) = %d, %v; want %d, %v", kind, d, n, ok, want, has)
	}
}

// Promise 5.1, Number, Size and Signed.

func TestTable(t *testing.T) {
	if len(table()) != 9 {
		t.Fatalf("%d kinds", len(table()))
	}
	for _, f := range table() {
		if !Number(f.kind) || Size(f.kind) != f.size || Signed(f.kind) != f.signed {
			t.Errorf("kind %d: %v, size %d, sign %v", f.kind, Number(f.kind), Size(f.kind), Signed(f.kind))
		}
	}
}

func TestTableOfOthers(t *testing.T) {
	for _, kind := range noNumbers() {
		if Number(kind) || Size(kind) != 0 || Signed(kind) {
			t.Errorf("kind %d: %v, size %d, sign %v", kind, Number(kind), Size(kind), Signed(kind))
		}
	}
}

// Promise 5.1, May.

func TestMayAtBounds(t *testing.T) {
	for _, c := range []struct {
		kind int
		n    uint64
		want bool
	}{
		{api.TBool, 0, true}, {api.TBool, 1, true}, {api.TBool, 2, false}, {api.TBool, 255, false}, {api.TBool, 256, false}, {api.TBool, 257, false}, {api.TBool, 1<<64 - 1, false},
		{api.TOctet, 0, true}, {api.TOctet, 128, true}, {api.TOctet, 255, true}, {api.TOctet, 256, false}, {api.TOctet, 1<<64 - 1, false}, {api.TOctet, 1<<64 - 128, false},
		{api.TInt16, 32767, true}, {api.TInt16, 32768, false}, {api.TInt16, 65535, false}, {api.TInt16, 1<<64 - 1, true}, {api.TInt16, 1<<64 - 32768, true}, {api.TInt16, 1<<64 - 32769, false},
		{api.TUint16, 32768, true}, {api.TUint16, 65535, true}, {api.TUint16, 65536, false}, {api.TUint16, 1<<64 - 1, false},
		{api.TInt32, 1<<31 - 1, true}, {api.TInt32, 1 << 31, false}, {api.TInt32, 1<<32 - 1, false}, {api.TInt32, 1<<64 - 1, true}, {api.TInt32, 1<<64 - 1<<31, true}, {api.TInt32, 1<<64 - 1<<31 - 1, false},
		{api.TUint32, 1<<32 - 1, true}, {api.TUint32, 1 << 32, false}, {api.TUint32, 1<<64 - 1, false},
		{api.TInt64, 1<<63 - 1, true}, {api.TInt64, 1 << 63, true}, {api.TInt64, 1<<64 - 1, true},
		{api.TUint64, 1<<63 - 1, true}, {api.TUint64, 1 << 63, true}, {api.TUint64, 1<<64 - 1, true},
		{api.TEnum, 1<<31 - 1, true}, {api.TEnum, 1 << 31, false}, {api.TEnum, 1<<32 - 1, false}, {api.TEnum, 1<<64 - 1, true}, {api.TEnum, 1<<64 - 1<<31, true}, {api.TEnum, 1<<64 - 1<<31 - 1, false},
	} {
		if May(c.kind, c.n) != c.want {
			t.Errorf("May(%d, %d) = %v", c.kind, c.n, !c.want)
		}
	}
}

func TestMayIsWithinBounds(t *testing.T) {
	for _, f := range table() {
		l := numbers()
		for n := range uint64(1<<17 + 1) {
			l = append(l, n, -n)
		}
		for _, n := range l {
			if want := isWithin(f, meant(f, n)); May(f.kind, n) != want {
				t.Fatalf("May(%d, %d) = %v", f.kind, n, !want)
			}
		}
	}
}

func TestMayOfOthers(t *testing.T) {
	for _, kind := range noNumbers() {
		for _, n := range numbers() {
			if May(kind, n) {
				t.Errorf("May(%d, %d) = true", kind, n)
			}
		}
	}
}

// Promise 5.2.

func TestLow(t *testing.T) {
	for _, f := range table() {
		for _, n := range numbers() {
			want := n
			if f.size < 8 {
				want = n % (1 << (8 * f.size))
			}
			if low := Low(f.kind, n); low != want {
				t.Errorf("Low(%d, %#x) = %#x; want %#x", f.kind, n, low, want)
			}
		}
	}
}

func TestLowHasEachBitOfSize(t *testing.T) {
	for _, f := range table() {
		for i := range 64 {
			n, want := uint64(1)<<i, uint64(0)
			if i < 8*f.size {
				want = n
			}
			if low := Low(f.kind, n); low != want {
				t.Errorf("Low(%d, %#x) = %#x", f.kind, n, low)
			}
		}
	}
}

func TestUp(t *testing.T) {
	for _, c := range []struct {
		kind    int
		n, want uint64
	}{
		{api.TBool, 1, 1}, {api.TBool, 2, 2}, {api.TBool, 255, 255}, {api.TBool, 257, 1},
		{api.TOctet, 128, 128}, {api.TOctet, 255, 255}, {api.TOctet, 256, 0}, {api.TOctet, 1<<64 - 1, 255},
		{api.TInt16, 32767, 32767}, {api.TInt16, 32768, 1<<64 - 32768}, {api.TInt16, 65535, 1<<64 - 1}, {api.TInt16, 65537, 1}, {api.TInt16, 1<<64 - 1, 1<<64 - 1},
		{api.TUint16, 32768, 32768}, {api.TUint16, 65535, 65535}, {api.TUint16, 65543, 7},
		{api.TInt32, 65535, 65535}, {api.TInt32, 1 << 31, 1<<64 - 1<<31}, {api.TInt32, 1<<32 - 2, 1<<64 - 2}, {api.TInt32, 1<<32 + 1, 1},
		{api.TUint32, 1 << 31, 1 << 31}, {api.TUint32, 1<<32 + 9, 9},
		{api.TInt64, 1<<32 - 1, 1<<32 - 1}, {api.TInt64, 1 << 63, 1 << 63}, {api.TInt64, 1<<64 - 1, 1<<64 - 1},
		{api.TUint64, 1 << 63, 1 << 63}, {api.TUint64, 1<<64 - 1, 1<<64 - 1},
		{api.TEnum, 65535, 65535}, {api.TEnum, 1<<32 - 1, 1<<64 - 1}, {api.TEnum, 1 << 32, 0},
	} {
		if n := Up(c.kind, c.n); n != c.want {
			t.Errorf("Up(%d, %#x) = %#x; want %#x", c.kind, c.n, n, c.want)
		}
	}
}

func TestUpIsLowOrSigned(t *testing.T) {
	for _, f := range table() {
		for _, n := range numbers() {
			want := Low(f.kind, n)
			if f.signed && f.size < 8 && want >= 1<<(8*f.size-1) {
				want -= 1 << (8 * f.size)
			}
			if up := Up(f.kind, n); up != want {
				t.Errorf("Up(%d, %#x) = %#x; want %#x", f.kind, n, up, want)
			}
		}
	}
}

func TestUpOfLowIsNumber(t *testing.T) {
	for _, f := range table() {
		for _, n := range numbers() {
			if May(f.kind, n) && Up(f.kind, Low(f.kind, n)) != n {
				t.Errorf("Up(%d, Low(%#x)) = %#x", f.kind, n, Up(f.kind, Low(f.kind, n)))
			}
		}
	}
}

func TestLowAndUpOfOthers(t *testing.T) {
	for _, kind := range noNumbers() {
		for _, n := range numbers() {
			if Low(kind, n) != 0 || Up(kind, n) != 0 {
				t.Errorf("kind %d: Low and Up of %d are %d, %d", kind, n, Low(kind, n), Up(kind, n))
			}
		}
	}
}

// Promise 5.3, Datum.

func TestDatum(t *testing.T) {
	for _, c := range []struct {
		kind int
		n    uint64
		want api.Datum
	}{
		{api.TBool, 0, truth(false, 0)}, {api.TBool, 1, truth(false, 1)}, {api.TBool, 2, truth(false, 0)}, {api.TBool, 3, truth(false, 1)}, {api.TBool, 254, truth(false, 0)}, {api.TBool, 1<<64 - 1, truth(false, 1)},
		{api.TOctet, 0, num(false, 0)}, {api.TOctet, 255, num(false, 255)}, {api.TOctet, 256, num(false, 0)}, {api.TOctet, 1<<64 - 1, num(false, 255)},
		{api.TInt16, 32767, num(false, 32767)}, {api.TInt16, 32768, num(true, 32768)}, {api.TInt16, 65535, num(true, 1)}, {api.TInt16, 65536, num(false, 0)}, {api.TInt16, 1<<64 - 2, num(true, 2)},
		{api.TUint16, 65535, num(false, 65535)}, {api.TUint16, 1<<64 - 1, num(false, 65535)},
		{api.TInt32, 65535, num(false, 65535)}, {api.TInt32, 1 << 31, num(true, 1<<31)}, {api.TInt32, 1<<64 - 1, num(true, 1)}, {api.TInt32, 1 << 63, num(false, 0)},
		{api.TUint32, 1<<32 - 1, num(false, 1<<32-1)}, {api.TUint32, 1 << 32, num(false, 0)},
		{api.TInt64, 1<<63 - 1, num(false, 1<<63-1)}, {api.TInt64, 1 << 63, num(true, 1<<63)}, {api.TInt64, 1<<63 + 1, num(true, 1<<63-1)}, {api.TInt64, 1<<64 - 1, num(true, 1)},
		{api.TUint64, 1 << 63, num(false, 1<<63)}, {api.TUint64, 1<<64 - 1, num(false, 1<<64-1)},
		{api.TEnum, 0, num(false, 0)}, {api.TEnum, 1, num(false, 1)}, {api.TEnum, 1<<32 - 1, num(true, 1)}, {api.TEnum, 1<<64 - 7, num(true, 7)},
	} {
		if d := Datum(c.kind, c.n); d != c.want {
			t.Errorf("Datum(%d, %d) = %v; want %v", c.kind, c.n, d, c.want)
		}
	}
}

func TestDatumOfEachNumber(t *testing.T) {
	for _, f := range table() {
		l := numbers()
		for n := range uint64(1<<16 + 1) {
			l = append(l, n, -n)
		}
		for _, n := range l {
			if !isWithin(f, meant(f, n)) {
				continue
			}
			if d, want := Datum(f.kind, n), datumOf(f, meant(f, n)); d != want {
				t.Fatalf("Datum(%d, %d) = %v; want %v", f.kind, n, d, want)
			}
		}
	}
}

func TestDatumOfLowestBits(t *testing.T) {
	for _, f := range table() {
		for _, n := range numbers() {
			want := Datum(f.kind, Low(f.kind, n))
			for i := 8 * f.size; i < 64; i++ {
				if d := Datum(f.kind, n^1<<i); d != want {
					t.Fatalf("Datum(%d, %#x) = %v; want %v", f.kind, n^1<<i, d, want)
				}
			}
		}
	}
}

func TestDatumOfOthers(t *testing.T) {
	for _, kind := range noNumbers() {
		for _, n := range numbers() {
			if d := Datum(kind, n); d != (api.Datum{}) {
				t.Errorf("Datum(%d, %d) = %v", kind, n, d)
			}
		}
	}
}

// Promise 5.3, Of.

func TestOfAtBounds(t *testing.T) {
	for _, f := range table() {
		for _, n := range edges(f) {
			if new(big.Int).Abs(n).BitLen() > 64 {
				continue
			}
			if isWithin(f, n) {
				wantOf(t, f.kind, datumOf(f, n), wordOf(n), true)
			} else {
				wantOf(t, f.kind, datumOf(f, n), 0, false)
			}
		}
	}
}

func TestOfIsNumberWithDatum(t *testing.T) {
	for _, f := range table() {
		for _, n := range numbers() {
			for _, neg := range []bool{false, true} {
				want := new(big.Int).SetUint64(n)
				if neg {
					want.Neg(want)
				}
				d := datumOf(f, want)
				if isWithin(f, want) {
					wantOf(t, f.kind, d, wordOf(want), true)
				} else {
					wantOf(t, f.kind, d, 0, false)
				}
			}
		}
	}
}

func TestOfZeroWithNeg(t *testing.T) {
	for _, f := range table() {
		d := datumOf(f, new(big.Int))
		wantOf(t, f.kind, d, 0, true)
		d.Neg = true
		wantOf(t, f.kind, d, 0, true)
	}
}

func TestOfDatumOfAnotherKind(t *testing.T) {
	for _, f := range table() {
		right := api.DNum
		if f.kind == api.TBool {
			right = api.DBool
		}
		for _, kind := range []int{api.DNone, api.DNum, api.DText, api.DBool, 4, -1, 256 + right, math.MinInt, math.MaxInt} {
			for _, n := range []uint64{0, 1} {
				for _, neg := range []bool{false, true} {
					if kind != right {
						wantOf(t, f.kind, api.Datum{Kind: kind, Neg: neg, Num: n}, 0, false)
					}
				}
			}
		}
		wantOf(t, f.kind, api.Datum{}, 0, false)
		wantOf(t, f.kind, text("1"), 0, false)
		wantOf(t, f.kind, text(""), 0, false)
	}
}

func TestOfTruthThatIsNone(t *testing.T) {
	for _, d := range []api.Datum{truth(false, 2), truth(false, 3), truth(false, 257), truth(false, 1<<64-1), truth(true, 1), truth(true, 1<<64-1)} {
		wantOf(t, api.TBool, d, 0, false)
	}
}

func TestOfDatumWithText(t *testing.T) {
	for _, f := range table() {
		d := datumOf(f, big.NewInt(1))
		wantOf(t, f.kind, d, 1, true)
		d.Text = "1"
		wantOf(t, f.kind, d, 0, false)
	}
}

func TestOfOthers(t *testing.T) {
	for _, kind := range noNumbers() {
		for _, d := range []api.Datum{{}, {Neg: true}, num(false, 0), num(true, 0), num(false, 7), num(true, 7), truth(false, 0), truth(false, 1), text(""), text("a")} {
			wantOf(t, kind, d, 0, false)
		}
	}
}

// Promise 5.4.

// wantOrder says that each datum of a list is less than all behind it.
func wantOrder(t *testing.T, l []api.Datum) {
	t.Helper()
	for i, a := range l {
		for j, b := range l {
			want := 0
			if i < j {
				want = -1
			} else if i > j {
				want = 1
			}
			if n := Cmp(a, b); n != want {
				t.Errorf("Cmp(%#v, %#v) = %d; want %d", a, b, n, want)
			}
		}
	}
}

func wantEqual(t *testing.T, l []api.Datum) {
	t.Helper()
	for _, a := range l {
		for _, b := range l {
			if n := Cmp(a, b); n != 0 {
				t.Errorf("Cmp(%#v, %#v) = %d; want 0", a, b, n)
			}
		}
	}
}

func TestCmpNumbers(t *testing.T) {
	wantOrder(t, []api.Datum{
		num(true, 1<<64-1), num(true, 1<<63+1), num(true, 1<<63), num(true, 1<<63-1), num(true, 256), num(true, 2), num(true, 1),
		num(false, 0),
		num(false, 1), num(false, 2), num(false, 256), num(false, 1<<63-1), num(false, 1<<63), num(false, 1<<63+1), num(false, 1<<64-1),
	})
}

func TestCmpZeroWithNeg(t *testing.T) {
	wantOrder(t, []api.Datum{num(true, 1<<63), num(true, 1), num(true, 0), num(false, 1), num(false, 1<<63)})
	wantEqual(t, []api.Datum{num(true, 0), num(false, 0)})
}

func TestCmpTexts(t *testing.T) {
	wantOrder(t, []api.Datum{
		text(""), text("\x00"), text("\x00\x00"), text(" "), text("-1"), text("10"), text("9"), text("A"), text("Z"), text("a"), text("a\x00"), text("aa"), text("ab"), text("abc"), text("b"), text("\x7f"), text("\x80"), text("\u00e9"), text("\uffff"), text("\U00010000"), text("\xff"), text("\xff\xff"),
	})
	long := strings.Repeat("x", 1<<12)
	wantOrder(t, []api.Datum{text(long[1:]), text(long), text(long[1:] + "y")})
	wantEqual(t, []api.Datum{text(long), text(strings.Clone(long))})
}

func TestCmpTruths(t *testing.T) {
	wantOrder(t, []api.Datum{truth(false, 0), truth(false, 1), truth(false, 2), truth(false, 1<<63), truth(false, 1<<64-1)})
	wantOrder(t, []api.Datum{truth(true, 0), truth(true, 1), truth(true, 2)})
}

func TestCmpOthers(t *testing.T) {
	wantOrder(t, []api.Datum{
		{Kind: math.MinInt, Neg: true, Num: 9, Text: "z"},
		{Kind: -1, Num: 8},
		{Kind: api.DNone, Num: 7, Text: "y"},
		num(false, 1<<64-1), text("x"), truth(false, 0),
		{Kind: 4, Neg: true, Num: 5},
		{Kind: math.MaxInt},
	})
	for _, kind := range []int{math.MinInt, -1, api.DNone, 4, 256 + api.DNum, math.MaxInt} {
		wantEqual(t, []api.Datum{{Kind: kind}, {Kind: kind, Num: 1}, {Kind: kind, Neg: true, Num: 2}, {Kind: kind, Text: "a"}})
	}
}

func TestCmpReadsOnlyWhatCounts(t *testing.T) {
	wantEqual(t, []api.Datum{num(false, 5), {Kind: api.DNum, Num: 5, Text: "a"}, {Kind: api.DNum, Num: 5, Text: "b"}})
	wantEqual(t, []api.Datum{text("a"), {Kind: api.DText, Text: "a", Num: 1}, {Kind: api.DText, Text: "a", Neg: true, Num: 2}})
	wantEqual(t, []api.Datum{truth(false, 1), truth(true, 1), {Kind: api.DBool, Num: 1, Text: "a"}})
}

// Promise 5.5.

func TestOfInvertsDatum(t *testing.T) {
	for _, f := range table() {
		for _, n := range numbers() {
			if May(f.kind, n) {
				wantOf(t, f.kind, Datum(f.kind, n), n, true)
			}
		}
	}
}

func TestDatumInvertsOf(t *testing.T) {
	for _, f := range table() {
		found := 0
		for _, n := range numbers() {
			for _, d := range []api.Datum{num(false, n), num(n != 0, n), truth(false, n)} {
				got, ok := Of(f.kind, d)
				if !ok {
					continue
				}
				found++
				if !May(f.kind, got) || Datum(f.kind, got) != d {
					t.Errorf("Of(%d, %v) = %d, whose datum is %v", f.kind, d, got, Datum(f.kind, got))
				}
			}
		}
		if found < 2 {
			t.Errorf("kind %d: only %d numbers", f.kind, found)
		}
	}
}

func TestCmpOrdersNumbersOfAllKinds(t *testing.T) {
	type one struct {
		n *big.Int
		d api.Datum
	}
	var l []one
	for _, f := range table() {
		if f.kind == api.TBool {
			continue
		}
		for _, n := range edges(f) {
			if isWithin(f, n) {
				l = append(l, one{n, Datum(f.kind, wordOf(n))})
			}
		}
	}
	for _, a := range l {
		for _, b := range l {
			if n, want := Cmp(a.d, b.d), a.n.Cmp(b.n); n != want {
				t.Errorf("Cmp of %v and %v = %d; want %d", a.n, b.n, n, want)
			}
		}
	}
	slices.SortFunc(l, func(a, b one) int { return Cmp(a.d, b.d) })
	if !slices.IsSortedFunc(l, func(a, b one) int { return a.n.Cmp(b.n) }) {
		t.Error("the numbers are not in order")
	}
}

func TestCmpOrdersTruthsOfKind(t *testing.T) {
	wantOrder(t, []api.Datum{Datum(api.TBool, 0), Datum(api.TBool, 1)})
}
