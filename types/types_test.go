package types

import (
	"cmp"
	"fmt"
	"math"
	"math/rand"
	"reflect"
	"slices"
	"strconv"
	"strings"
	"testing"

	"broadsheet/api"
)

// minus is a number below 0, by its widest two's complement.
func minus(n uint64) uint64 { return -n }

// Places in good.
const (
	colour  = api.TEnum - 1
	text    = api.TString - 1
	point   = 10
	choice  = 11
	several = 12
	fixed   = 13
)

// good is a valid list with each kind once: the numeric ones stand at the places one below their numbers.
func good() []api.Type {
	return []api.Type{
		{Kind: api.TBool}, {Kind: api.TOctet}, {Kind: api.TInt16}, {Kind: api.TUint16},
		{Kind: api.TInt32}, {Kind: api.TUint32}, {Kind: api.TInt64}, {Kind: api.TUint64},
		{Kind: api.TEnum, Name: "Colour", Items: []api.Item{{Name: "red"}, {Name: "blue", Num: minus(5)}, {Name: "green", Num: 7}}},
		{Kind: api.TString, Bound: 8},
		{Kind: api.TStruct, Name: "Point", Items: []api.Item{{Name: "id", Type: 4, Key: true}, {Name: "title", Type: text, Key: true}, {Name: "shade", Type: colour}}},
		{Kind: api.TUnion, Name: "Choice", Tag: colour, Items: []api.Item{{Name: "a", Num: minus(5), Type: point}, {Name: "b", Type: 1}, {Name: "z", Type: text, Rest: true}}},
		{Kind: api.TSeq, Bound: 3, Of: choice},
		{Kind: api.TArray, Bound: 2, Of: several},
	}
}

func clone(l []api.Type) []api.Type {
	c := slices.Clone(l)
	for i := range c {
		c[i].Items = slices.Clone(c[i].Items)
	}
	return c
}

func wantFault(t *testing.T, l []api.Type, e api.Errno, at int) {
	t.Helper()
	if f := Check(l); f != (api.Fault{Err: e, At: at}) {
		t.Errorf("Check = %v at %d; want %v at %d; the last type: %.300s", f.Err, f.At, e, at, fmt.Sprint(l[max(0, len(l)-1):]))
	}
}

func wantGood(t *testing.T, l []api.Type) {
	t.Helper()
	wantFault(t, l, api.OK, 0)
}

// wantBehind says what Check tells of good with one type more.
func wantBehind(t *testing.T, x api.Type, e api.Errno) {
	t.Helper()
	l := append(good(), x)
	if e == api.OK {
		wantGood(t, l)
	} else {
		wantFault(t, l, e, len(l)-1)
	}
}

func wantItem(t *testing.T, what string, n int, ok bool, want int, has bool) {
	t.Helper()
	if n != want || ok != has {
		t.Errorf("%s = %d, %v; want %d, %v", what, n, ok, want, has)
	}
}

// items are so many with names of their own, all of the first type, with numbers from 0 on.
func items(n int) []api.Item {
	l := make([]api.Item, n)
	for i := range l {
		l[i].Name = "i" + strconv.Itoa(i)
	}
	return l
}

func numbered(n int) []api.Item {
	l := items(n)
	for i := range l {
		l[i].Num = uint64(i)
	}
	return l
}

func noKinds() []int {
	return []int{0, -1, -2, -9, -14, 15, 16, 255, 256, 257, 256 + api.TUnion, 1 << 32, 1<<32 + 1, math.MinInt, math.MinInt + 1, math.MaxInt}
}

func noPlaces(n int) []int {
	return []int{math.MinInt, math.MinInt + 1, -n, -2, -1, n, n + 1, n + 2, 1 << 32, math.MaxInt}
}

// Promise 6.1, valid lists.

func TestCheckGood(t *testing.T) {
	wantGood(t, nil)
	wantGood(t, []api.Type{})
	wantGood(t, good())
	for i, x := range good() {
		if x.Kind != i+1 && i < point {
			t.Errorf("kind %d at %d", x.Kind, i)
		}
	}
}

func TestCheckGoodTypesTwice(t *testing.T) {
	wantGood(t, append(good(), good()[:8]...))
	wantBehind(t, good()[text], api.OK)
	wantBehind(t, good()[several], api.OK)
}

func TestEmptyListsAreNone(t *testing.T) {
	for i, x := range good() {
		if len(x.Items) == 0 {
			l := good()
			l[i].Items = []api.Item{}
			wantGood(t, l)
			l[i].Items = items(3)[:0]
			wantGood(t, l)
		}
	}
}

// Promise 6.1, the length of the list.

func TestCheckLong(t *testing.T) {
	for n := range 80 {
		l := make([]api.Type, n)
		for i := range l {
			l[i].Kind = api.TOctet
		}
		if n <= 32 {
			wantGood(t, l)
			continue
		}
		wantFault(t, l, api.ErrLong, 32)
		l[0].Kind = 0
		wantFault(t, l, api.ErrLong, 32)
	}
	wantFault(t, make([]api.Type, 32), api.ErrKind, 0)
	wantFault(t, make([]api.Type, 33), api.ErrLong, 32)
	wantFault(t, make([]api.Type, 1<<16), api.ErrLong, 32)
}

// Promise 6.1, the place of the error.

func TestCheckTypeByType(t *testing.T) {
	for i := range good() {
		l := good()
		l[i] = api.Type{Kind: 99}
		wantFault(t, l, api.ErrKind, i)
		for j := range i {
			l := clone(l)
			l[j] = api.Type{Kind: api.TSeq, Bound: 1, Of: j}
			wantFault(t, l, api.ErrOrder, j)
		}
	}
}

// Promise 6.1, kinds and forms.

func TestCheckKind(t *testing.T) {
	for _, kind := range noKinds() {
		wantFault(t, []api.Type{{Kind: kind}}, api.ErrKind, 0)
		wantBehind(t, api.Type{Kind: kind}, api.ErrKind)
		wantBehind(t, api.Type{Kind: kind, Name: "N", Bound: 1, Of: 1, Tag: 1, Items: items(1)}, api.ErrKind)
	}
}

func TestCheckForm(t *testing.T) {
	for i, x := range good() {
		named := x.Kind == api.TEnum || x.Kind == api.TStruct || x.Kind == api.TUnion
		bounded := x.Kind == api.TString || x.Kind == api.TSeq || x.Kind == api.TArray
		for _, c := range []struct {
			field  string
			has    bool
			change func(x *api.Type)
		}{
			{"Name", named, func(x *api.Type) { x.Name = "Other" }},
			{"Name", named, func(x *api.Type) { x.Name = "\x00" }},
			{"Bound", bounded, func(x *api.Type) { x.Bound = 1 }},
			{"Bound", bounded, func(x *api.Type) { x.Bound = -1 }},
			{"Bound", bounded, func(x *api.Type) { x.Bound = math.MaxInt }},
			{"Of", x.Kind == api.TSeq || x.Kind == api.TArray, func(x *api.Type) { x.Of = 1 }},
			{"Of", x.Kind == api.TSeq || x.Kind == api.TArray, func(x *api.Type) { x.Of = -1 }},
			{"Tag", x.Kind == api.TUnion, func(x *api.Type) { x.Tag = 1 }},
			{"Tag", x.Kind == api.TUnion, func(x *api.Type) { x.Tag = math.MinInt }},
			{"Items", named, func(x *api.Type) { x.Items = items(1) }},
			{"Items", named, func(x *api.Type) { x.Items = make([]api.Item, 1) }},
		} {
			l := good()
			c.change(&l[i])
			if f := Check(l); (f == api.Fault{Err: api.ErrForm, At: i}) == c.has {
				t.Errorf("kind %d with %s: %v at %d", x.Kind, c.field, f.Err, f.At)
			}
		}
	}
}

func TestCheckFormOfItems(t *testing.T) {
	for _, kind := range []int{api.TEnum, api.TStruct, api.TUnion} {
		for _, c := range []struct {
			field  string
			has    bool
			change func(m *api.Item)
		}{
			{"Num", kind != api.TStruct, func(m *api.Item) { m.Num = 7 }},
			{"Num", kind != api.TStruct, func(m *api.Item) { m.Num = math.MaxUint64 }},
			{"Type", kind != api.TEnum, func(m *api.Item) { m.Type = 1 }},
			{"Type", kind != api.TEnum, func(m *api.Item) { m.Type = -1 }},
			{"Key", kind == api.TStruct, func(m *api.Item) { m.Key = true }},
			{"Rest", kind == api.TUnion, func(m *api.Item) { m.Rest, m.Num = true, 0 }},
		} {
			for i := range 4 {
				x := api.Type{Kind: kind, Name: "N", Items: items(4)}
				if kind != api.TStruct {
					x.Tag, x.Items = 0, numbered(4)
				}
				if kind == api.TUnion {
					x.Tag = 4
				}
				c.change(&x.Items[i])
				f := Check(append(good(), x))
				if (f == api.Fault{Err: api.ErrForm, At: len(good())}) == c.has {
					t.Errorf("kind %d with %s in item %d: %v at %d", kind, c.field, i, f.Err, f.At)
				}
			}
		}
	}
}

func TestCheckRestWithoutNum(t *testing.T) {
	x := good()[choice]
	x.Name = "Other"
	for _, n := range []uint64{1, 7, minus(5), math.MaxUint64} {
		x.Items[2].Num = n
		wantBehind(t, x, api.ErrForm)
	}
	x.Items[2].Num = 0
	wantBehind(t, x, api.OK)
}

// Promise 6.1, names of types.

func TestCheckName(t *testing.T) {
	long := strings.Repeat("n", 16)
	for _, i := range []int{colour, point, choice} {
		for name, want := range map[string]api.Errno{
			"": api.ErrName, "1a": api.ErrName, "_a": api.ErrName, "a-b": api.ErrName, "a b": api.ErrName, "\xff": api.ErrName, "caf\u00e9": api.ErrName,
			"AND": api.ErrName, "TRUE": api.ErrName, long + "n": api.ErrName,
			"and": api.OK, "a": api.OK, "Z_9": api.OK, long: api.OK,
			"Colour": api.ErrTwice, "Point": api.ErrTwice, "Choice": api.ErrTwice, "colour": api.OK, "red": api.OK, "id": api.OK,
		} {
			x := good()[i]
			x.Name = name
			wantBehind(t, x, want)
		}
	}
}

func TestCheckNameTwiceIsAtTheLater(t *testing.T) {
	l := good()
	l[choice].Name = "Colour"
	wantFault(t, l, api.ErrTwice, choice)
	l[point].Name = "Colour"
	wantFault(t, l, api.ErrTwice, point)
	l[colour].Name = "Blue"
	wantFault(t, l, api.ErrTwice, choice)
}

// Promise 6.1, bounds.

func TestCheckBound(t *testing.T) {
	for _, kind := range []int{api.TString, api.TSeq, api.TArray} {
		for _, bound := range []int{math.MinInt, -64, -2, -1, 0, 1, 2, 63, 64, 65, 66, 128, 256, 257, 1 << 32, 1<<32 + 1, math.MaxInt} {
			want := api.OK
			if bound < 0 || bound > 64 || bound == 0 && kind != api.TString {
				want = api.ErrRange
			}
			wantBehind(t, api.Type{Kind: kind, Bound: bound}, want)
		}
	}
}

// Promise 6.1, parts.

func TestCheckOrder(t *testing.T) {
	at := len(good())
	for p := -3; p < at+4; p++ {
		want := api.OK
		if p < 0 || p >= at {
			want = api.ErrOrder
		}
		wantPart(t, p, want)
	}
	for _, p := range noPlaces(at) {
		wantPart(t, p, api.ErrOrder)
	}
}

// wantPart says what Check tells of types behind good with a part, each in turn.
func wantPart(t *testing.T, p int, e api.Errno) {
	t.Helper()
	wantBehind(t, api.Type{Kind: api.TSeq, Bound: 1, Of: p}, e)
	wantBehind(t, api.Type{Kind: api.TArray, Bound: 1, Of: p}, e)
	for i := range 3 {
		x := api.Type{Kind: api.TStruct, Name: "N", Items: items(3)}
		x.Items[i].Type = p
		wantBehind(t, x, e)
		x = api.Type{Kind: api.TUnion, Name: "N", Tag: 4, Items: numbered(3)}
		x.Items[i].Type = p
		wantBehind(t, x, e)
	}
	x := api.Type{Kind: api.TUnion, Name: "N", Tag: p, Items: numbered(1)}
	if e == api.OK && p >= text {
		e = api.ErrType
	}
	wantBehind(t, x, e)
	x = api.Type{Kind: api.TUnion, Name: "N", Tag: 4, Items: []api.Item{{Name: "r", Type: p, Rest: true}}}
	if e == api.ErrType {
		e = api.OK
	}
	wantBehind(t, x, e)
}

func TestCheckOrderOfLaterTypes(t *testing.T) {
	wantFault(t, []api.Type{{Kind: api.TSeq, Bound: 1}}, api.ErrOrder, 0)
	wantFault(t, []api.Type{{Kind: api.TSeq, Bound: 1, Of: 1}, {Kind: api.TOctet}}, api.ErrOrder, 0)
	wantFault(t, []api.Type{{Kind: api.TStruct, Name: "N", Items: []api.Item{{Name: "a", Type: 1}}}, {Kind: api.TOctet}}, api.ErrOrder, 0)
	wantFault(t, []api.Type{{Kind: api.TUnion, Name: "N", Tag: 1, Items: items(1)}, {Kind: api.TOctet}}, api.ErrOrder, 0)
	l := good()
	l[several].Of = fixed
	wantFault(t, l, api.ErrOrder, several)
}

func TestCheckTag(t *testing.T) {
	for tag, x := range good() {
		want := api.OK
		if x.Kind > api.TEnum {
			want = api.ErrType
		}
		wantBehind(t, api.Type{Kind: api.TUnion, Name: "N", Tag: tag, Items: []api.Item{{Name: "a"}}}, want)
		wantBehind(t, api.Type{Kind: api.TUnion, Name: "N", Tag: tag, Items: []api.Item{{Name: "a", Rest: true}}}, want)
	}
}

// Promise 6.1, items.

func TestCheckCount(t *testing.T) {
	for _, n := range []int{0, 1, 2, 15, 16, 17, 18, 32, 256, 257, 1 << 16} {
		want := api.OK
		if n == 0 {
			want = api.ErrNone
		} else if n > 16 {
			want = api.ErrLong
		}
		wantBehind(t, api.Type{Kind: api.TEnum, Name: "N", Items: numbered(n)}, want)
		wantBehind(t, api.Type{Kind: api.TStruct, Name: "N", Items: items(n)}, want)
		wantBehind(t, api.Type{Kind: api.TUnion, Name: "N", Tag: 4, Items: numbered(n)}, want)
	}
}

// withItems are types of each kind that has items, with the same four names.
func withItems() []api.Type {
	return []api.Type{
		{Kind: api.TEnum, Name: "N", Items: numbered(4)},
		{Kind: api.TStruct, Name: "N", Items: items(4)},
		{Kind: api.TUnion, Name: "N", Tag: 4, Items: numbered(4)},
	}
}

func TestCheckItemName(t *testing.T) {
	for _, x := range withItems() {
		for i := range 4 {
			for name, want := range map[string]api.Errno{
				"": api.ErrName, "1": api.ErrName, "_": api.ErrName, "a.b": api.ErrName, "NOT": api.ErrName, strings.Repeat("a", 17): api.ErrName,
				"not": api.OK, strings.Repeat("a", 16): api.OK, "N": api.OK, "Colour": api.OK, "I0": api.OK,
			} {
				y := x
				y.Items = slices.Clone(x.Items)
				y.Items[i].Name = name
				wantBehind(t, y, want)
			}
		}
	}
}

func TestCheckItemNameTwice(t *testing.T) {
	for _, x := range withItems() {
		for i := range 4 {
			for j := range i {
				y := x
				y.Items = slices.Clone(x.Items)
				y.Items[i].Name = y.Items[j].Name
				wantBehind(t, y, api.ErrTwice)
			}
		}
	}
	x := good()[choice]
	x.Name, x.Items[2].Name = "N", "a"
	wantBehind(t, x, api.ErrTwice)
}

func TestCheckValueNum(t *testing.T) {
	for _, c := range []struct {
		n    uint64
		want api.Errno
	}{
		{0, api.OK}, {1, api.OK}, {1<<31 - 1, api.OK}, {minus(1), api.OK}, {minus(1 << 31), api.OK},
		{1 << 31, api.ErrRange}, {1<<32 - 1, api.ErrRange}, {1 << 32, api.ErrRange}, {minus(1<<31 + 1), api.ErrRange}, {1 << 63, api.ErrRange},
	} {
		wantBehind(t, api.Type{Kind: api.TEnum, Name: "N", Items: []api.Item{{Name: "a", Num: c.n}}}, c.want)
		wantBehind(t, api.Type{Kind: api.TEnum, Name: "N", Items: []api.Item{{Name: "b", Num: 5}, {Name: "a", Num: c.n}, {Name: "c", Num: 6}}}, c.want)
	}
}

func TestCheckNumTwice(t *testing.T) {
	wantBehind(t, api.Type{Kind: api.TEnum, Name: "N", Items: []api.Item{{Name: "a"}, {Name: "b"}}}, api.ErrTwice)
	for _, n := range []uint64{0, 1, 1<<31 - 1, minus(1), minus(1 << 31)} {
		for i := range 4 {
			for j := range i {
				l := items(4)
				for k := range l {
					l[k].Num = 100 + uint64(k)
				}
				l[i].Num, l[j].Num = n, n
				wantBehind(t, api.Type{Kind: api.TEnum, Name: "N", Items: l}, api.ErrTwice)
				wantBehind(t, api.Type{Kind: api.TUnion, Name: "N", Tag: 4, Items: l}, api.ErrTwice)
			}
		}
	}
	wantBehind(t, api.Type{Kind: api.TStruct, Name: "N", Items: items(16)}, api.OK)
}

func TestCheckKey(t *testing.T) {
	for p, x := range good() {
		want := api.OK
		if x.Kind > api.TString {
			want = api.ErrKey
		}
		for i := range 3 {
			l := items(3)
			l[i].Type, l[i].Key = p, true
			wantBehind(t, api.Type{Kind: api.TStruct, Name: "N", Items: l}, want)
			l[i].Key = false
			wantBehind(t, api.Type{Kind: api.TStruct, Name: "N", Items: l}, api.OK)
		}
	}
}

func TestCheckRest(t *testing.T) {
	for n := 1; n < 5; n++ {
		for i := range n {
			x := api.Type{Kind: api.TUnion, Name: "N", Tag: 4, Items: numbered(n)}
			x.Items[i].Rest, x.Items[i].Num = true, 0
			want := api.OK
			if i < n-1 {
				want = api.ErrOrder
			}
			wantBehind(t, x, want)
		}
	}
	two := []api.Item{{Name: "a", Rest: true}, {Name: "b", Rest: true}}
	wantBehind(t, api.Type{Kind: api.TUnion, Name: "N", Tag: 4, Items: two}, api.ErrOrder)
}

func TestCheckRestBesideBranchOfZero(t *testing.T) {
	l := []api.Item{{Name: "a"}, {Name: "b", Num: 1}, {Name: "c", Rest: true}}
	wantBehind(t, api.Type{Kind: api.TUnion, Name: "N", Tag: 0, Items: l}, api.OK)
}

func TestCheckBranchNum(t *testing.T) {
	for _, c := range []struct {
		tag  int
		n    uint64
		want api.Errno
	}{
		{api.TBool, 1, api.OK}, {api.TBool, 2, api.ErrRange}, {api.TBool, 255, api.ErrRange},
		{api.TOctet, 255, api.OK}, {api.TOctet, 256, api.ErrRange}, {api.TOctet, minus(1), api.ErrRange},
		{api.TInt16, 32767, api.OK}, {api.TInt16, 32768, api.ErrRange}, {api.TInt16, 65535, api.ErrRange}, {api.TInt16, minus(32768), api.OK}, {api.TInt16, minus(32769), api.ErrRange},
		{api.TUint16, 65535, api.OK}, {api.TUint16, 65536, api.ErrRange}, {api.TUint16, minus(1), api.ErrRange},
		{api.TInt32, 1<<31 - 1, api.OK}, {api.TInt32, 1 << 31, api.ErrRange}, {api.TInt32, minus(1 << 31), api.OK},
		{api.TUint32, 1<<32 - 1, api.OK}, {api.TUint32, 1 << 32, api.ErrRange},
		{api.TInt64, 1 << 63, api.OK}, {api.TInt64, minus(1), api.OK},
		{api.TUint64, 1 << 63, api.OK}, {api.TUint64, minus(1), api.OK},
		{api.TEnum, minus(5), api.OK}, {api.TEnum, 7, api.OK}, {api.TEnum, 5, api.ErrRange}, {api.TEnum, 1, api.ErrRange}, {api.TEnum, 1<<32 - 5, api.ErrRange},
	} {
		l := []api.Item{{Name: "a"}, {Name: "b", Num: c.n}, {Name: "c", Rest: true}}
		wantBehind(t, api.Type{Kind: api.TUnion, Name: "N", Tag: c.tag - 1, Items: l}, c.want)
		wantBehind(t, api.Type{Kind: api.TUnion, Name: "N", Tag: c.tag - 1, Items: l[1:2]}, c.want)
	}
}

// Promise 6.1, depths.

// tower has types that each are made of the one ahead, at depths from 1 on.
func tower(n int) []api.Type {
	l := []api.Type{{Kind: api.TInt32}}
	for i := 1; i < n; i++ {
		var x api.Type
		switch i % 4 {
		case 0:
			x = api.Type{Kind: api.TSeq, Bound: 1, Of: i - 1}
		case 1:
			x = api.Type{Kind: api.TArray, Bound: 1, Of: i - 1}
		case 2:
			x = api.Type{Kind: api.TStruct, Name: "S" + strconv.Itoa(i), Items: []api.Item{{Name: "a"}, {Name: "b", Type: i - 1}, {Name: "c"}}}
		case 3:
			x = api.Type{Kind: api.TUnion, Name: "U" + strconv.Itoa(i), Items: []api.Item{{Name: "a"}, {Name: "b", Type: i - 1, Rest: true}}}
		}
		l = append(l, x)
	}
	return l
}

func TestCheckDeep(t *testing.T) {
	for n := 1; n <= 32; n++ {
		if n <= 6 {
			wantGood(t, tower(n))
		} else {
			wantFault(t, tower(n), api.ErrDeep, 6)
		}
	}
	// Each kind at the depths 6 and 7.
	for _, deep := range []int{6, 7} {
		l, want := tower(deep-1), api.OK
		if deep > 6 {
			want = api.ErrDeep
		}
		for _, x := range []api.Type{
			{Kind: api.TSeq, Bound: 1, Of: deep - 2},
			{Kind: api.TArray, Bound: 1, Of: deep - 2},
			{Kind: api.TStruct, Name: "N", Items: []api.Item{{Name: "a", Type: deep - 2}}},
			{Kind: api.TUnion, Name: "N", Items: []api.Item{{Name: "a", Type: deep - 2}}},
			{Kind: api.TUnion, Name: "N", Items: []api.Item{{Name: "a", Type: deep - 2, Rest: true}}},
		} {
			at := 0
			if want != api.OK {
				at = len(l)
			}
			wantFault(t, append(clone(l), x), want, at)
		}
	}
}

// Promise 6.1, which error is first.

// spoilt is a type with some of its faults; each fault is by what it makes wrong.
type spoilt struct {
	e     api.Errno
	spoil func(x *api.Type)
}

// wantFirst spoils a type behind good in two ways at once: the way that is ahead counts.
func wantFirst(t *testing.T, x api.Type, ways []spoilt) {
	t.Helper()
	for i, first := range ways {
		y := x
		y.Items = slices.Clone(x.Items)
		first.spoil(&y)
		wantBehind(t, y, first.e)
		for _, later := range ways[i+1:] {
			y := x
			y.Items = slices.Clone(x.Items)
			later.spoil(&y)
			first.spoil(&y)
			wantBehind(t, y, first.e)
		}
	}
}

func TestFirstErrorOfUnion(t *testing.T) {
	x := api.Type{Kind: api.TUnion, Name: "N", Tag: colour, Items: []api.Item{{Name: "a", Num: 7}, {Name: "b"}, {Name: "c", Num: minus(5)}, {Name: "d", Rest: true}}}
	wantFirst(t, x, []spoilt{
		{api.ErrKind, func(x *api.Type) { x.Kind = 15 }},
		{api.ErrForm, func(x *api.Type) { x.Items[1].Key = true }},
		{api.ErrName, func(x *api.Type) { x.Name = "OR" }},
		{api.ErrOrder, func(x *api.Type) { x.Items[3].Type = 14 }},
		{api.ErrType, func(x *api.Type) { x.Tag = text }},
		{api.ErrName, func(x *api.Type) { x.Items[0].Name = "" }},
		{api.ErrRange, func(x *api.Type) { x.Items[0].Num = 8 }},
		{api.ErrTwice, func(x *api.Type) { x.Items[1].Name = "a" }},
		{api.ErrTwice, func(x *api.Type) { x.Items[1].Num = 7 }},
		{api.ErrOrder, func(x *api.Type) { x.Items[2].Num, x.Items[2].Rest = 0, true }},
		{api.ErrName, func(x *api.Type) { x.Items[3].Name = "9" }},
	})
	wantFirst(t, x, []spoilt{
		{api.ErrForm, func(x *api.Type) { x.Bound = 1 }},
		{api.ErrTwice, func(x *api.Type) { x.Name = "Point" }},
		{api.ErrOrder, func(x *api.Type) { x.Tag = -1 }},
		{api.ErrNone, func(x *api.Type) { x.Items = nil }},
	})
	wantFirst(t, x, []spoilt{
		{api.ErrOrder, func(x *api.Type) { x.Tag = 14 }},
		{api.ErrLong, func(x *api.Type) { x.Items = append(x.Items, items(13)...) }},
		{api.ErrName, func(x *api.Type) { x.Items[0].Name = "" }},
	})
}

func TestFirstErrorOfStruct(t *testing.T) {
	wantFirst(t, api.Type{Kind: api.TStruct, Name: "N", Items: items(4)}, []spoilt{
		{api.ErrKind, func(x *api.Type) { x.Kind = 0 }},
		{api.ErrForm, func(x *api.Type) { x.Items[3].Rest = true }},
		{api.ErrTwice, func(x *api.Type) { x.Name = "Choice" }},
		{api.ErrOrder, func(x *api.Type) { x.Items[2].Type = 99 }},
		{api.ErrKey, func(x *api.Type) { x.Items[0].Type, x.Items[0].Key = point, true }},
		{api.ErrName, func(x *api.Type) { x.Items[1].Name = "a b" }},
		{api.ErrKey, func(x *api.Type) { x.Items[1].Type, x.Items[1].Key = point, true }},
		{api.ErrTwice, func(x *api.Type) { x.Items[3].Name = "i1" }},
		{api.ErrKey, func(x *api.Type) { x.Items[3].Type, x.Items[3].Key = several, true }},
	})
	wantFirst(t, api.Type{Kind: api.TStruct, Name: "N", Items: items(17)}, []spoilt{
		{api.ErrForm, func(x *api.Type) { x.Items[16].Num = 1 }},
		{api.ErrName, func(x *api.Type) { x.Name = "" }},
		{api.ErrOrder, func(x *api.Type) { x.Items[16].Type = 99 }},
		{api.ErrLong, func(x *api.Type) { x.Items[0].Name = "" }},
		{api.ErrLong, func(x *api.Type) { x.Items[1].Name = "i0" }},
	})
}

func TestFirstErrorOfEnum(t *testing.T) {
	wantFirst(t, api.Type{Kind: api.TEnum, Name: "N", Items: numbered(4)}, []spoilt{
		{api.ErrKind, func(x *api.Type) { x.Kind = -1 }},
		{api.ErrForm, func(x *api.Type) { x.Items[3].Type = 1 }},
		{api.ErrName, func(x *api.Type) { x.Name = "" }},
		{api.ErrRange, func(x *api.Type) { x.Items[0].Num = 1 << 31 }},
		{api.ErrTwice, func(x *api.Type) { x.Items[1].Name = "i0" }},
		{api.ErrRange, func(x *api.Type) { x.Items[1].Num = 1 << 40 }},
		{api.ErrName, func(x *api.Type) { x.Items[2].Name = "?" }},
		{api.ErrTwice, func(x *api.Type) { x.Items[2].Num = 0 }},
		{api.ErrName, func(x *api.Type) { x.Items[3].Name = "LIKE" }},
	})
	wantBehind(t, api.Type{Kind: api.TEnum, Name: "Colour"}, api.ErrTwice)
	wantBehind(t, api.Type{Kind: api.TEnum, Name: "9"}, api.ErrName)
	wantBehind(t, api.Type{Kind: api.TEnum, Name: "N", Items: []api.Item{{Name: "a", Num: 1 << 31}, {Name: "a", Num: 1 << 31}}}, api.ErrRange)
}

func TestFirstErrorOfSequence(t *testing.T) {
	for _, kind := range []int{api.TSeq, api.TArray} {
		wantFirst(t, api.Type{Kind: kind, Bound: 1}, []spoilt{
			{api.ErrForm, func(x *api.Type) { x.Name = "N" }},
			{api.ErrRange, func(x *api.Type) { x.Bound = 65 }},
			{api.ErrOrder, func(x *api.Type) { x.Of = 14 }},
		})
	}
	wantBehind(t, api.Type{Kind: api.TString, Tag: 1, Bound: 65}, api.ErrForm)
}

func TestDeepIsLastError(t *testing.T) {
	l := tower(6)
	for _, x := range []api.Type{
		{Kind: api.TStruct, Name: "N", Items: []api.Item{{Name: "a", Type: 5}, {Name: "a"}}},
		{Kind: api.TUnion, Name: "N", Items: []api.Item{{Name: "a", Type: 5}, {Name: "b"}}},
	} {
		wantFault(t, append(clone(l), x), api.ErrTwice, 6)
		x.Items = x.Items[:1]
		wantFault(t, append(clone(l), x), api.ErrDeep, 6)
	}
}

// Promise 6.1, against all that is wrong at all.

// finding is something that is wrong: which check of a type tells it, at which item, and which check of the item.
type finding struct {
	check, item, step int
	e                 api.Errno
}

// wrongs are all findings of a type, in no order; a place is within or it is not, whatever is found else.
func wrongs(l []api.Type, at int) []finding {
	x := l[at]
	named := x.Kind == api.TEnum || x.Kind == api.TStruct || x.Kind == api.TUnion
	isAhead := func(p int) bool { return 0 <= p && p < at }
	numeric := func(p int) bool { return isAhead(p) && l[p].Kind >= api.TBool && l[p].Kind <= api.TEnum }
	var w []finding
	when := func(wrong bool, f finding) {
		if wrong {
			w = append(w, f)
		}
	}
	when(x.Kind < 1 || x.Kind > 14, finding{0, 0, 0, api.ErrKind})
	form := api.Type{Kind: x.Kind}
	switch x.Kind {
	case api.TString:
		form.Bound = x.Bound
	case api.TSeq, api.TArray:
		form.Bound, form.Of = x.Bound, x.Of
		when(!isAhead(x.Of), finding{4, 0, 0, api.ErrOrder})
	case api.TUnion:
		form.Tag = x.Tag
		when(!isAhead(x.Tag), finding{4, 0, 0, api.ErrOrder})
		when(!numeric(x.Tag), finding{5, 0, 0, api.ErrType})
	}
	when(form.Bound > 64 || form.Bound < 0 || form.Bound == 0 && (x.Kind == api.TSeq || x.Kind == api.TArray), finding{3, 0, 0, api.ErrRange})
	if named {
		form.Name = x.Name
		when(!isName(x.Name), finding{2, 0, 0, api.ErrName})
		for _, y := range l[:at] {
			when(y.Name == x.Name, finding{2, 0, 1, api.ErrTwice})
		}
		when(len(x.Items) == 0, finding{6, 0, 0, api.ErrNone})
		when(len(x.Items) > 16, finding{6, 0, 1, api.ErrLong})
	}
	for i, m := range x.Items {
		o := api.Item{Name: m.Name}
		for _, n := range x.Items[:i] {
			when(n.Name == m.Name, finding{7, i, 1, api.ErrTwice})
			when(n.Num == m.Num && x.Kind != api.TStruct && !m.Rest, finding{7, i, 4, api.ErrTwice})
		}
		when(!isName(m.Name), finding{7, i, 0, api.ErrName})
		switch x.Kind {
		case api.TEnum:
			o.Num = m.Num
			when(int64(int32(m.Num)) != int64(m.Num), finding{7, i, 3, api.ErrRange})
		case api.TStruct:
			o.Type, o.Key = m.Type, m.Key
			when(!isAhead(m.Type), finding{4, 0, 0, api.ErrOrder})
			when(m.Key && !numeric(m.Type) && (!isAhead(m.Type) || l[m.Type].Kind != api.TString), finding{7, i, 2, api.ErrKey})
		case api.TUnion:
			o.Type, o.Rest = m.Type, m.Rest
			when(!isAhead(m.Type), finding{4, 0, 0, api.ErrOrder})
			when(m.Rest && i < len(x.Items)-1, finding{7, i, 2, api.ErrOrder})
			if !m.Rest {
				o.Num = m.Num
				when(numeric(x.Tag) && !canBeTag(l[x.Tag], m.Num), finding{7, i, 3, api.ErrRange})
			}
		}
		when(!named || o != m, finding{1, 0, 0, api.ErrForm})
	}
	when(x.Name != form.Name || x.Bound != form.Bound || x.Of != form.Of || x.Tag != form.Tag, finding{1, 0, 0, api.ErrForm})
	when(depthOf(l, at) > 6, finding{8, 0, 0, api.ErrDeep})
	return w
}

func isName(s string) bool {
	if len(s) < 1 || len(s) > 16 || strings.Contains("|AND|OR|NOT|BETWEEN|LIKE|TRUE|FALSE|", "|"+s+"|") {
		return false
	}
	const letters = "abcdefghijklmnopqrstuvwxyzABCDEFGHIJKLMNOPQRSTUVWXYZ"
	return strings.Contains(letters, s[:1]) && strings.Trim(s, letters+"0123456789_") == ""
}

func canBeTag(x api.Type, n uint64) bool {
	switch x.Kind {
	case api.TBool:
		return n < 2
	case api.TOctet:
		return n < 1<<8
	case api.TInt16:
		return int64(int16(n)) == int64(n)
	case api.TUint16:
		return n < 1<<16
	case api.TInt32:
		return int64(int32(n)) == int64(n)
	case api.TUint32:
		return n < 1<<32
	case api.TEnum:
		return slices.ContainsFunc(x.Items, func(m api.Item) bool { return m.Num == n })
	}
	return true
}

// depthOf goes down, by recursion, through parts that precede.
func depthOf(l []api.Type, at int) int {
	x, most := l[at], 0
	down := func(p int) {
		if p >= 0 && p < at {
			most = max(most, depthOf(l, p))
		}
	}
	switch x.Kind {
	case api.TSeq, api.TArray:
		down(x.Of)
	case api.TUnion:
		down(x.Tag)
	}
	for _, m := range x.Items {
		if x.Kind == api.TStruct || x.Kind == api.TUnion {
			down(m.Type)
		}
	}
	return most + 1
}

// firstWrong is what Check must tell of a list that is not too long.
func firstWrong(l []api.Type) api.Fault {
	for at := range l {
		if w := wrongs(l, at); len(w) > 0 {
			slices.SortFunc(w, func(a, b finding) int {
				return cmp.Or(cmp.Compare(a.check, b.check), cmp.Compare(a.item, b.item), cmp.Compare(a.step, b.step))
			})
			return api.Fault{Err: w[0].e, At: at}
		}
	}
	return api.Fault{}
}

// randomType is mostly valid at its place; some fields are not, now and then.
func randomType(r *rand.Rand, at int) api.Type {
	odd := func() bool { return r.Intn(60) == 0 }
	part := func() int {
		if odd() || at == 0 {
			return r.Intn(at+3) - 1
		}
		return max(0, at-1-r.Intn(4), r.Intn(at))
	}
	label := func() string {
		if odd() {
			return []string{"", "AND", "9", "a", "Na", "bad name"}[r.Intn(6)]
		}
		return "N" + strconv.Itoa(r.Intn(4000))
	}
	x := api.Type{Kind: 1 + r.Intn(14)}
	if at > 3 && r.Intn(2) == 0 {
		x.Kind = api.TSeq + r.Intn(4)
	}
	if odd() {
		x.Kind = r.Intn(20) - 2
	}
	if x.Kind == api.TString || x.Kind == api.TSeq || x.Kind == api.TArray || odd() {
		x.Bound = 1 + r.Intn(64)
		if odd() {
			x.Bound = r.Intn(70) - 3
		}
	}
	if x.Kind == api.TSeq || x.Kind == api.TArray || odd() {
		x.Of = part()
	}
	if x.Kind == api.TUnion || odd() {
		x.Tag = min(part(), r.Intn(4))
	}
	if x.Kind == api.TEnum || x.Kind == api.TStruct || x.Kind == api.TUnion || odd() {
		x.Name = label()
		x.Items = randomItems(r, x.Kind, label, part, odd)
	}
	return x
}

func randomItems(r *rand.Rand, kind int, label func() string, part func() int, odd func() bool) []api.Item {
	l := make([]api.Item, 1+r.Intn(4))
	if odd() {
		l = make([]api.Item, []int{0, 16, 17}[r.Intn(3)])
	}
	for i := range l {
		m := api.Item{Name: label()}
		last := i == len(l)-1
		if kind == api.TEnum || kind == api.TUnion || odd() {
			m.Num = []uint64{0, 1, minus(1), 1 << 31, 300}[r.Intn(5)]
			if r.Intn(8) > 0 {
				m.Num = uint64(i)
			}
		}
		if kind == api.TStruct || kind == api.TUnion || odd() {
			m.Type = part()
		}
		m.Key = kind == api.TStruct && r.Intn(6) == 0 || odd()
		if kind == api.TUnion && last && r.Intn(2) == 0 || odd() {
			m.Rest, m.Num = true, 0
		}
		if odd() {
			m.Num = uint64(r.Intn(3))
		}
		l[i] = m
	}
	return l
}

func TestCheckTellsFirstOfAll(t *testing.T) {
	r := rand.New(rand.NewSource(6))
	told := map[api.Errno]int{}
	for range 40000 {
		l := make([]api.Type, r.Intn(25))
		for i := range l {
			l[i] = randomType(r, i)
			// Gone on behind what is wrong in few lists only: else hardly one would be valid far on.
			for n := 0; n < 5 && len(wrongs(l[:i+1], i)) > 0 && r.Intn(8) > 0; n++ {
				l[i] = randomType(r, i)
			}
		}
		want := firstWrong(l)
		told[want.Err]++
		if f := Check(l); f != want {
			t.Fatalf("Check = %v at %d; want %v at %d: %+v", f.Err, f.At, want.Err, want.At, l)
		}
		for i := range l {
			if n := Deep(l, i); n != depthOf(l, i) {
				t.Fatalf("Deep(%d) = %d; want %d: %+v", i, n, depthOf(l, i), l)
			}
		}
	}
	for _, e := range []api.Errno{api.OK, api.ErrKind, api.ErrForm, api.ErrName, api.ErrTwice, api.ErrRange, api.ErrOrder, api.ErrType, api.ErrNone, api.ErrLong, api.ErrKey, api.ErrDeep} {
		if told[e] < 20 {
			t.Errorf("%v only %d times", e, told[e])
		}
	}
}

// Promise 6.2.

func wantDeep(t *testing.T, l []api.Type, at, want int) {
	t.Helper()
	if n := Deep(l, at); n != want {
		t.Errorf("Deep(l, %d) = %d; want %d", at, n, want)
	}
}

func TestDeep(t *testing.T) {
	for i, want := range []int{1, 1, 1, 1, 1, 1, 1, 1, 1, 1, 2, 3, 4, 5} {
		wantDeep(t, good(), i, want)
	}
	for i := range 40 {
		wantDeep(t, tower(40), i, i+1)
	}
}

func TestDeepIsThatOfTheDeepestPart(t *testing.T) {
	l := tower(5)
	for _, c := range []struct {
		types []int
		want  int
	}{{[]int{0}, 2}, {[]int{4}, 6}, {[]int{0, 4}, 6}, {[]int{4, 0}, 6}, {[]int{1, 3, 2}, 5}, {[]int{0, 0}, 2}} {
		x := api.Type{Kind: api.TStruct, Name: "N", Items: items(len(c.types))}
		for i, p := range c.types {
			x.Items[i].Type = p
		}
		wantDeep(t, append(clone(l), x), 5, c.want)
		x.Kind, x.Tag = api.TUnion, 1
		wantDeep(t, append(clone(l), x), 5, max(c.want, 3))
	}
}

func TestDeepOfNone(t *testing.T) {
	for _, at := range noPlaces(len(good())) {
		wantDeep(t, good(), at, 0)
	}
	for _, at := range []int{-1, 0, 1} {
		wantDeep(t, nil, at, 0)
		wantDeep(t, []api.Type{}, at, 0)
		wantDeep(t, good()[:0], at, 0)
	}
	wantDeep(t, good()[:3], 3, 0)
}

func TestDeepOfInvalidLists(t *testing.T) {
	for _, p := range append(noPlaces(2), 1) {
		wantDeep(t, []api.Type{{Kind: api.TOctet}, {Kind: api.TSeq, Of: p}, {Kind: api.TSeq, Of: 1}}, 1, 1)
		wantDeep(t, []api.Type{{Kind: api.TOctet}, {Kind: api.TSeq, Of: p}, {Kind: api.TSeq, Of: 1}}, 2, 2)
		wantDeep(t, []api.Type{{Kind: api.TOctet}, {Kind: api.TStruct, Items: []api.Item{{Type: p}, {Type: 1}}}}, 1, 1)
		wantDeep(t, []api.Type{{Kind: api.TOctet}, {Kind: api.TStruct, Items: []api.Item{{Type: p}, {Type: 0}}}}, 1, 2)
		wantDeep(t, []api.Type{{Kind: api.TOctet}, {Kind: api.TUnion, Tag: p}}, 1, 1)
		wantDeep(t, []api.Type{{Kind: api.TOctet}, {Kind: api.TUnion, Tag: p, Items: []api.Item{{Type: 0, Rest: true}}}}, 1, 2)
	}
	// What a kind does not have is no part of it.
	for kind := -1; kind < 16; kind++ {
		l := append(tower(3), api.Type{Kind: kind, Of: 2, Tag: 1, Items: []api.Item{{Type: 0}}})
		want := map[int]int{api.TSeq: 4, api.TArray: 4, api.TStruct: 2, api.TUnion: 3}[kind]
		wantDeep(t, l, 3, max(want, 1))
	}
	wantDeep(t, []api.Type{{Kind: api.TEnum, Items: []api.Item{{Type: 0}}}, {Kind: api.TEnum, Items: []api.Item{{Type: 0}}}}, 1, 1)
}

func TestDeepEnds(t *testing.T) {
	l := []api.Type{{Kind: api.TOctet}}
	for i := 1; i < 200; i++ {
		x := api.Type{Kind: api.TStruct, Items: items(16)}
		for k := range x.Items {
			x.Items[k].Type = max(0, i-1-k%2)
		}
		l = append(l, x)
	}
	wantDeep(t, l, 199, 200)
	l = l[:1]
	for i := 1; i < 1<<16; i++ {
		l = append(l, api.Type{Kind: api.TSeq, Bound: 1, Of: i - 1})
	}
	wantDeep(t, l, 1<<16-1, 1<<16)
	l[0] = api.Type{Kind: api.TSeq, Bound: 1, Of: 1<<16 - 1}
	wantDeep(t, l, 1<<16-1, 1<<16)
}

// Promise 6.3.

func TestItem(t *testing.T) {
	for i, x := range good() {
		for k, m := range x.Items {
			n, ok := Item(good(), i, m.Name)
			wantItem(t, "Item of "+m.Name, n, ok, k, true)
		}
		for _, s := range []string{"", "Colour", "RED", "Red", "re", "redd", "red ", "x", "\xff", "i"} {
			n, ok := Item(good(), i, s)
			wantItem(t, "Item of "+s, n, ok, 0, false)
		}
	}
	n, ok := Item(good(), colour, "id")
	wantItem(t, "Item of another type", n, ok, 0, false)
}

func TestItemIsTheFirst(t *testing.T) {
	l := []api.Item{{Name: "a"}, {Name: ""}, {Name: "b"}, {Name: "a"}, {Name: "b"}, {Name: "AND"}}
	for kind := -1; kind < 16; kind++ {
		has := kind == api.TEnum || kind == api.TStruct || kind == api.TUnion
		for s, want := range map[string]int{"a": 0, "": 1, "b": 2, "AND": 5} {
			if !has {
				want = 0
			}
			n, ok := Item([]api.Type{{Kind: kind, Items: l}}, 0, s)
			wantItem(t, "Item of "+s, n, ok, want, has)
		}
	}
}

func TestValue(t *testing.T) {
	for num, want := range map[uint64]int{0: 0, minus(5): 1, 7: 2} {
		n, ok := Value(good(), colour, num)
		wantItem(t, "Value", n, ok, want, true)
	}
	for _, num := range []uint64{1, 5, 6, 8, 1<<32 - 5, 1<<32 + 7, 1 << 32, 1 << 63, minus(7), math.MaxUint64} {
		n, ok := Value(good(), colour, num)
		wantItem(t, "Value of none", n, ok, 0, false)
	}
}

func TestValueIsTheFirstOfAnEnum(t *testing.T) {
	l := []api.Item{{Num: 3}, {Num: 1 << 40}, {Num: 3}, {Num: 4, Rest: true}, {Num: 4}}
	for kind := -1; kind < 16; kind++ {
		for num, want := range map[uint64]int{3: 0, 1 << 40: 1, 4: 3} {
			if kind != api.TEnum {
				want = 0
			}
			n, ok := Value([]api.Type{{Kind: kind, Items: l}}, 0, num)
			wantItem(t, "Value", n, ok, want, kind == api.TEnum)
		}
	}
}

func TestBranch(t *testing.T) {
	for tag, want := range map[uint64]int{minus(5): 0, 0: 1, 7: 2, 1: 2, 99: 2, 1 << 40: 2, math.MaxUint64: 2} {
		n, ok := Branch(good(), choice, tag)
		wantItem(t, "Branch", n, ok, want, true)
	}
	l := good()
	l[choice].Items = l[choice].Items[:2]
	for tag, want := range map[uint64]int{minus(5): 0, 0: 1} {
		n, ok := Branch(l, choice, tag)
		wantItem(t, "Branch without rest", n, ok, want, true)
	}
	for _, tag := range []uint64{7, 1, 5, 99, 1 << 40, 1<<32 - 5, math.MaxUint64} {
		n, ok := Branch(l, choice, tag)
		wantItem(t, "Branch of none", n, ok, 0, false)
	}
}

func TestBranchIsTheFirstOfAUnion(t *testing.T) {
	l := []api.Item{{Num: 1, Rest: true}, {Num: 2}, {Num: 1}, {Num: 2}, {Num: 3, Rest: true}, {Num: 1}}
	for kind := -1; kind < 16; kind++ {
		for tag, want := range map[uint64]int{1: 2, 2: 1, 3: 0, 0: 0, 9: 0} {
			if kind != api.TUnion {
				want = 0
			}
			n, ok := Branch([]api.Type{{Kind: kind, Items: l}}, 0, tag)
			wantItem(t, "Branch", n, ok, want, kind == api.TUnion)
			n, ok = Branch([]api.Type{{Kind: kind, Items: l[1:]}}, 0, tag)
			if kind == api.TUnion {
				want = map[uint64]int{1: 1, 2: 0, 3: 3, 0: 3, 9: 3}[tag]
			}
			wantItem(t, "Branch", n, ok, want, kind == api.TUnion)
		}
	}
}

func TestItemsOfNoType(t *testing.T) {
	for _, l := range [][]api.Type{nil, {}, good()[:0], good(), good()[:colour], good()[:choice]} {
		for _, at := range noPlaces(len(l)) {
			n, ok := Item(l, at, "red")
			wantItem(t, "Item", n, ok, 0, false)
			n, ok = Value(l, at, 0)
			wantItem(t, "Value", n, ok, 0, false)
			n, ok = Branch(l, at, 0)
			wantItem(t, "Branch", n, ok, 0, false)
		}
	}
	for _, kind := range []int{api.TEnum, api.TStruct, api.TUnion} {
		l := []api.Type{{Kind: kind, Items: append(items(0), api.Item{Name: "", Rest: true})[:0]}}
		n, ok := Item(l, 0, "")
		wantItem(t, "Item", n, ok, 0, false)
		n, ok = Value(l, 0, 0)
		wantItem(t, "Value", n, ok, 0, false)
		n, ok = Branch(l, 0, 0)
		wantItem(t, "Branch", n, ok, 0, false)
	}
}

// Promise 6.4.

func TestPrefixesOfValidLists(t *testing.T) {
	wantPrefixes := func(l []api.Type) {
		t.Helper()
		wantGood(t, l)
		for n := range len(l) {
			wantGood(t, l[:n])
			wantGood(t, clone(l[:n]))
		}
	}
	wantPrefixes(good())
	wantPrefixes(tower(6))
	r := rand.New(rand.NewSource(7))
	for range 300 {
		var l []api.Type
		for len(l) < 32 {
			x := randomType(r, len(l))
			if len(wrongs(append(l, x), len(l))) == 0 {
				l = append(l, x)
			}
		}
		wantPrefixes(l)
	}
}

func TestWrongTypeBehindValidPrefix(t *testing.T) {
	l := append(good(), api.Type{Kind: api.TSeq, Bound: 1, Of: len(good())})
	wantFault(t, l, api.ErrOrder, len(good()))
	for n := range len(l) {
		wantGood(t, l[:n])
	}
}

// Rule R4.

func TestListsStayAsTheyWere(t *testing.T) {
	whole := append(good(), api.Type{Kind: 99, Name: "behind"})
	l, before := whole[:len(good())], clone(whole)
	for range 2 {
		Check(l)
		for i := range whole {
			Deep(l, i)
			Item(l, i, "red")
			Value(l, i, 0)
			Branch(l, i, 0)
		}
		if !reflect.DeepEqual(whole, before) {
			t.Fatalf("%+v is now %+v", before, whole)
		}
	}
	wantGood(t, l)
	l[colour].Items[0].Num = 7
	wantFault(t, l, api.ErrTwice, colour)
	l[colour].Items[0].Num = 0
	wantGood(t, l)
}
