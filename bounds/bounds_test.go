package bounds

import (
	"fmt"
	"math"
	"math/rand"
	"reflect"
	"slices"
	"strconv"
	"testing"

	"broadsheet/api"
	"broadsheet/types"
)

// minus is a number below 0, by its widest two's complement.
func minus(n uint64) uint64 { return -n }

// Places in good.
const (
	octet  = api.TOctet - 1
	short  = api.TInt16 - 1
	long   = api.TInt64 - 1
	colour = api.TEnum - 1
	text   = 9  // up to 3 bytes
	none   = 10 // a text without bytes
	full   = 11 // a text of up to 64 bytes
	point  = 12
	choice = 13
	some   = 14
	fixed  = 15
)

// good is a valid list: the numeric kinds stand at the places one below their numbers.
func good() []api.Type {
	return []api.Type{
		{Kind: api.TBool}, {Kind: api.TOctet}, {Kind: api.TInt16}, {Kind: api.TUint16},
		{Kind: api.TInt32}, {Kind: api.TUint32}, {Kind: api.TInt64}, {Kind: api.TUint64},
		{Kind: api.TEnum, Name: "Colour", Items: []api.Item{{Name: "red"}, {Name: "blue", Num: minus(5)}, {Name: "green", Num: 7}}},
		{Kind: api.TString, Bound: 3}, {Kind: api.TString}, {Kind: api.TString, Bound: 64},
		{Kind: api.TStruct, Name: "Point", Items: []api.Item{{Name: "a", Type: octet}, {Name: "b", Type: long}, {Name: "c", Type: short}}},
		{Kind: api.TUnion, Name: "Choice", Tag: octet, Items: []api.Item{{Name: "a", Num: 7, Type: long}, {Name: "b", Num: 9, Type: octet}}},
		{Kind: api.TSeq, Bound: 2, Of: point},
		{Kind: api.TArray, Bound: 2, Of: point},
	}
}

func clone(l []api.Type) []api.Type {
	c := slices.Clone(l)
	for i := range c {
		c[i].Items = slices.Clone(c[i].Items)
	}
	return c
}

func wantEnds(t *testing.T, l []api.Type, x, at, most, least int) {
	t.Helper()
	if m, n := Most(l, x, at), Least(l, x, at); m != most || n != least {
		t.Errorf("type %d at %d: Most %d, Least %d; want %d, %d: %.300s", x, at, m, n, most, least, fmt.Sprint(l))
	}
}

// wantBehind asks for the ends of a type behind good.
func wantBehind(t *testing.T, x api.Type, at, most, least int) {
	t.Helper()
	l := append(good(), x)
	if f := types.Check(l); f != (api.Fault{}) {
		t.Fatalf("%v at %d: %v", f.Err, f.At, x)
	}
	wantEnds(t, l, len(l)-1, at, most, least)
}

// items are so many with names of their own, with numbers from 0 on.
func items(n, of int) []api.Item {
	l := make([]api.Item, n)
	for i := range l {
		l[i] = api.Item{Name: "i" + strconv.Itoa(i), Num: uint64(i), Type: of}
	}
	return l
}

func fields(of ...int) api.Type {
	l := items(len(of), 0)
	for i := range l {
		l[i].Num, l[i].Type = 0, of[i]
	}
	return api.Type{Kind: api.TStruct, Name: "New", Items: l}
}

// union has branches with the tags from 0 on, or those of Colour.
func union(tag int, of ...int) api.Type {
	l := items(len(of), 0)
	for i := range l {
		l[i].Type = of[i]
		if tag == colour {
			l[i].Num = good()[colour].Items[i].Num
		}
	}
	return api.Type{Kind: api.TUnion, Name: "New", Tag: tag, Items: l}
}

// rest is a union with one more branch, of all other tags.
func rest(x api.Type, of int) api.Type {
	x.Items = append(slices.Clone(x.Items), api.Item{Name: "z", Type: of, Rest: true})
	return x
}

func places() []int {
	l := []int{math.MinInt, math.MinInt + 1, -1 << 32, -513, -9, -8, -7, -5, -2, -1}
	for at := range 530 {
		l = append(l, at)
	}
	return append(l, 1<<16, 1<<31, 1<<32, 1<<32+1, math.MaxInt-8, math.MaxInt-7, math.MaxInt-1, math.MaxInt)
}

func noPlaces(n int) []int {
	return []int{math.MinInt, math.MinInt + 1, -n, -2, -1, n, n + 1, n + 2, 1 << 32, math.MaxInt}
}

// badLists are not valid, each in another way: in most of them, all types but the last are sound.
func badLists() [][]api.Type {
	with := func(change func(l []api.Type)) []api.Type {
		l := good()
		change(l)
		return l
	}
	return [][]api.Type{
		append(good(), api.Type{}),
		append(good(), api.Type{Kind: api.TUnion + 1}),
		append(good(), api.Type{Kind: -1}),
		append(good(), api.Type{Kind: api.TSeq, Bound: 2, Of: fixed + 1}),
		append(good(), api.Type{Kind: api.TSeq, Bound: 2, Of: -1}),
		append(good(), api.Type{Kind: api.TSeq, Bound: 2, Of: math.MinInt}),
		append(good(), api.Type{Kind: api.TArray, Of: octet}),
		append(good(), api.Type{Kind: api.TArray, Bound: 65, Of: octet}),
		append(good(), api.Type{Kind: api.TString, Bound: -1}),
		append(good(), api.Type{Kind: api.TString, Bound: math.MaxInt}),
		append(good(), api.Type{Kind: api.TStruct, Name: "New"}),
		append(good(), fields(math.MaxInt)),
		append(good(), fields(fixed+1)),
		append(good(), union(text, octet)),
		append(good(), union(fixed+2, octet)),
		append(good(), api.Type{Kind: api.TUnion, Name: "New", Tag: octet}),
		append(good(), union(0, octet, octet, octet)),
		append(good(), api.Type{Kind: api.TBool}, api.Type{Kind: api.TBool, Bound: 1}),
		with(func(l []api.Type) { l[0].Name = "a" }),
		with(func(l []api.Type) { l[point].Items[1].Type = point }),
		with(func(l []api.Type) { l[choice].Items[1].Num = 7 }),
		slices.Concat(good(), good()[:8], good()[:8], good()[:1]),
		{{}},
		{{Kind: api.TSeq, Bound: 1}},
	}
}

// Promise 7.1, kind by kind.

func TestNumbers(t *testing.T) {
	for i, size := range []int{1, 1, 2, 2, 4, 4, 8, 8, 4} {
		for at := range 40 {
			end := at
			for end%size != 0 {
				end++
			}
			wantEnds(t, good(), i, at, end+size, end+size)
		}
	}
}

func TestTexts(t *testing.T) {
	wantEnds(t, good(), text, 1, 12, 9)
	for at, number := range []int{4, 8, 8, 8, 8, 12, 12, 12, 12, 16} {
		for _, x := range []int{text, none, full} {
			wantEnds(t, good(), x, at, number+good()[x].Bound+1, number+1)
		}
	}
}

func TestSequences(t *testing.T) {
	wantEnds(t, good(), some, 0, 34, 4)
	wantEnds(t, good(), some, 1, 42, 8)
	for _, c := range []struct{ bound, of, at, most, least int }{
		{1, octet, 0, 5, 4}, {3, octet, 0, 7, 4}, {3, octet, 3, 11, 8}, {64, octet, 4, 72, 8},
		{1, long, 0, 16, 4}, {2, long, 1, 24, 8}, {3, short, 6, 18, 12},
		{2, text, 0, 20, 4}, {2, none, 0, 17, 4}, {2, some, 0, 82, 4}, {2, choice, 0, 32, 4},
	} {
		wantBehind(t, api.Type{Kind: api.TSeq, Bound: c.bound, Of: c.of}, c.at, c.most, c.least)
	}
}

func TestArrays(t *testing.T) {
	wantEnds(t, good(), fixed, 0, 34, 34)
	wantEnds(t, good(), fixed, 7, 34, 34)
	wantEnds(t, good(), fixed, 8, 42, 42)
	for _, c := range []struct{ bound, of, at, most, least int }{
		{1, octet, 0, 1, 1}, {64, octet, 5, 69, 69}, {3, short, 1, 8, 8}, {2, long, 9, 32, 32},
		{2, text, 0, 16, 13}, {2, some, 0, 74, 8}, {2, choice, 0, 32, 2}, {3, choice, 6, 48, 9},
	} {
		wantBehind(t, api.Type{Kind: api.TArray, Bound: c.bound, Of: c.of}, c.at, c.most, c.least)
	}
}

func TestStructs(t *testing.T) {
	for _, c := range []struct{ at, end int }{{0, 18}, {1, 18}, {7, 18}, {8, 26}, {18, 34}} {
		wantEnds(t, good(), point, c.at, c.end, c.end)
	}
	for _, c := range []struct {
		of              []int
		at, most, least int
	}{
		{[]int{octet}, 0, 1, 1}, {[]int{octet}, 3, 4, 4},
		{[]int{octet, short, octet, long}, 0, 16, 16},
		{[]int{long, octet}, 0, 9, 9}, {[]int{long, octet}, 1, 17, 17},
		{[]int{long, octet, short}, 0, 12, 12},
		{[]int{none, long}, 0, 16, 16},
		{[]int{text, octet, text}, 0, 20, 13},
		{[]int{choice, short}, 0, 18, 4},
		{[]int{some, some}, 0, 74, 8},
		{slices.Repeat([]int{octet}, 16), 2, 18, 18},
	} {
		wantBehind(t, fields(c.of...), c.at, c.most, c.least)
	}
}

func TestUnions(t *testing.T) {
	for _, c := range []struct{ at, most, least int }{{0, 16, 1}, {6, 16, 7}, {7, 16, 8}, {8, 24, 9}} {
		wantEnds(t, good(), choice, c.at, c.most, c.least)
	}
	for _, c := range []struct {
		x               api.Type
		at, most, least int
	}{
		{union(octet, long), 0, 16, 1}, {union(octet, octet), 0, 2, 1}, {union(octet, octet, long), 0, 16, 1},
		{union(0, long), 0, 16, 1}, {union(0, long, octet), 0, 16, 2}, {union(0, octet, long), 7, 16, 9},
		{union(0, text, full), 0, 73, 9},
		{union(colour, octet, long), 0, 16, 4}, {union(colour, octet, octet, octet), 1, 9, 9},
		{union(colour, long, text, short), 0, 16, 6},
		{union(long, octet), 1, 17, 16}, {union(long, long, octet), 0, 16, 8},
		{union(octet, choice), 0, 16, 1}, {union(0, choice, choice), 0, 16, 2},
	} {
		wantBehind(t, c.x, c.at, c.most, c.least)
	}
}

func TestUnionTagSizes(t *testing.T) {
	for tag, size := range []int{1, 1, 2, 2, 4, 4, 8, 8, 4} {
		for at, begin := range []int{0, size} {
			wantBehind(t, union(tag, octet), at, begin+size+1, begin+size)
			wantBehind(t, rest(union(tag, octet), text), at, 4*((begin+size+3)/4)+8, begin+size+1)
		}
	}
}

func TestUnionRest(t *testing.T) {
	wantBehind(t, rest(union(octet), text), 0, 12, 9)
	wantBehind(t, rest(union(octet, long), short), 0, 16, 4)
	wantBehind(t, rest(union(octet, short), long), 0, 16, 4)
	wantBehind(t, rest(union(octet, choice), choice), 0, 16, 2)
	wantBehind(t, rest(union(0, long), octet), 0, 16, 2)
	wantBehind(t, rest(union(colour, long, long), octet), 0, 16, 5)
}

func TestUnionRestWithoutTags(t *testing.T) {
	wantBehind(t, rest(union(0, octet, octet), long), 0, 16, 2)
	wantBehind(t, rest(union(0, long, long), octet), 0, 16, 2)
	wantBehind(t, rest(union(colour, octet, octet, octet), long), 0, 16, 5)
	wantBehind(t, rest(union(colour, long, long, long), octet), 0, 16, 5)
}

// Promise 7.1, ends about MaxSize.

func TestEndsAboutMaxSize(t *testing.T) {
	wantEnds(t, good(), octet, 511, 512, 512)
	wantEnds(t, good(), octet, 512, 513, 513)
	wantEnds(t, good(), long, 504, 512, 512)
	wantEnds(t, good(), long, 505, 513, 513)
	wantEnds(t, good(), none, 507, 513, 513)
	wantEnds(t, good(), full, 440, 509, 445)
	wantEnds(t, good(), full, 441, 513, 449)
	wantEnds(t, good(), full, 500, 513, 505)
	wantEnds(t, good(), full, 508, 513, 513)
	wantEnds(t, good(), choice, 503, 512, 504)
	wantEnds(t, good(), choice, 504, 513, 505)
	wantEnds(t, good(), choice, 511, 513, 512)
	wantEnds(t, good(), choice, 512, 513, 513)
	wantBehind(t, api.Type{Kind: api.TString, Bound: 63}, 444, 512, 449)
	wantBehind(t, api.Type{Kind: api.TString, Bound: 63}, 445, 513, 453)
	for _, c := range []struct{ of, at, end int }{{octet, 448, 512}, {octet, 449, 513}, {long, 0, 512}, {long, 1, 513}, {point, 0, 513}} {
		wantBehind(t, api.Type{Kind: api.TArray, Bound: 64, Of: c.of}, c.at, c.end, c.end)
	}
	for _, c := range []struct{ of, at, most, least int }{
		{octet, 444, 512, 448}, {octet, 445, 513, 452}, {octet, 508, 513, 512}, {octet, 509, 513, 513}, {long, 0, 513, 4}, {point, 9, 513, 16},
	} {
		wantBehind(t, api.Type{Kind: api.TSeq, Bound: 64, Of: c.of}, c.at, c.most, c.least)
	}
}

// within are types of which each one is within the next, from the one of int64 on.
func within(kind, bound int) []api.Type {
	l := []api.Type{{Kind: api.TInt64}}
	for i := range api.MaxDeep - 1 {
		l = append(l, api.Type{Kind: kind, Bound: bound, Of: i})
	}
	return l
}

func TestEndsFarBeyondMaxSize(t *testing.T) {
	deep := api.MaxDeep - 1
	for at := range 20 {
		wantEnds(t, within(api.TArray, 64), deep, at, 513, 513)
		wantEnds(t, within(api.TSeq, 64), deep, at, 513, (at+3)/4*4+4)
	}
	wantEnds(t, within(api.TArray, 2), deep, 0, 256, 256)
	wantEnds(t, within(api.TArray, 2), deep, 250, 512, 512)
	wantEnds(t, within(api.TArray, 2), deep, 257, 513, 513)
	wantEnds(t, within(api.TArray, 3), deep, 0, 513, 513)
	large := append(within(api.TArray, 64), api.Type{Kind: api.TOctet})
	n := len(large)
	wantEnds(t, append(large, union(n-1, 2, n-1)), n, 0, 513, 1)
	wantEnds(t, append(large, rest(union(n-1, 2), n-1)), n, 0, 513, 2)
	wantEnds(t, append(large, fields(n-1, 2, n-1)), n, 0, 513, 513)
}

// Promise 7.1, any place.

func TestPlacesBelowZero(t *testing.T) {
	for x := range good() {
		for _, at := range places() {
			if at < 0 {
				wantEnds(t, good(), x, at, Most(good(), x, 0), Least(good(), x, 0))
			}
		}
	}
}

func TestPlacesBeyondMaxSize(t *testing.T) {
	for x := range good() {
		for _, at := range places() {
			if at >= api.MaxSize {
				wantEnds(t, good(), x, at, 513, 513)
			}
		}
	}
}

// Promise 7.1, no valid list, or no such type.

func TestNoSuchType(t *testing.T) {
	for _, at := range []int{math.MinInt, -1, 0, 1, 511, 512, 513, 514, math.MaxInt} {
		for _, x := range noPlaces(len(good())) {
			wantEnds(t, good(), x, at, -1, -1)
		}
		for _, x := range noPlaces(0) {
			wantEnds(t, nil, x, at, -1, -1)
			wantEnds(t, []api.Type{}, x, at, -1, -1)
			wantEnds(t, good()[:0], x, at, -1, -1)
		}
	}
}

func TestNotValid(t *testing.T) {
	for i, l := range badLists() {
		if types.Check(l).Err == api.OK {
			t.Errorf("list %d is valid", i)
		}
		for _, at := range []int{math.MinInt, -1, 0, 1, 511, 512, 513, 514, math.MaxInt} {
			for x := range l {
				wantEnds(t, l, x, at, -1, -1)
			}
			for _, x := range noPlaces(len(l)) {
				wantEnds(t, l, x, at, -1, -1)
			}
		}
	}
}

func TestTypesBehindAreNoPart(t *testing.T) {
	l := append(good(), api.Type{Kind: api.TArray, Bound: 64, Of: fixed})
	for x := range good() {
		for at := range 40 {
			wantEnds(t, l, x, at, Most(good(), x, at), Least(good(), x, at))
		}
	}
}

func TestMostTypes(t *testing.T) {
	l := slices.Repeat([]api.Type{{Kind: api.TInt32}}, api.MaxTypes)
	wantEnds(t, l, api.MaxTypes-1, 1, 8, 8)
	wantEnds(t, append(l, api.Type{Kind: api.TInt32}), 0, 1, -1, -1)
}

// Promise 7.1, types without a pattern.

func randomItems(r *rand.Rand, kind, t int) []api.Item {
	l := items(1+r.Intn(4), 0)
	for i := range l {
		l[i].Num = uint64(r.Intn(6))
		if kind != api.TEnum {
			l[i].Type = r.Intn(t)
		}
		if kind == api.TStruct {
			l[i].Num = 0
		}
	}
	if last := &l[len(l)-1]; kind == api.TUnion && r.Intn(3) == 0 {
		last.Num, last.Rest = 0, true
	}
	return l
}

func randomType(r *rand.Rand, t int) api.Type {
	kind := 1 + r.Intn(api.TUnion)
	if t > 4 && r.Intn(2) == 0 {
		kind = api.TSeq + r.Intn(4)
	}
	x := api.Type{Kind: kind}
	switch kind {
	case api.TString:
		x.Bound = r.Intn(api.MaxBound + 1)
	case api.TSeq, api.TArray:
		x.Bound, x.Of = 1+r.Intn(4), r.Intn(t)
	case api.TEnum, api.TStruct, api.TUnion:
		x.Name, x.Items = "t"+strconv.Itoa(t), randomItems(r, kind, t)
	}
	if kind == api.TUnion {
		x.Tag = r.Intn(t)
	}
	return x
}

// randomList is valid: a type that would not be is drawn again.
func randomList(r *rand.Rand) []api.Type {
	l := []api.Type{{Kind: 1 + r.Intn(api.TUint64)}}
	for n := r.Intn(14); len(l) <= n; {
		if longer := append(l, randomType(r, len(l))); types.Check(longer).Err == api.OK {
			l = longer
		}
	}
	return l
}

// spread is a set of ends: the last one stands for all that are greater.
type spread [api.MaxSize + 2]bool

func (s *spread) add(at int) { s[min(at, api.MaxSize+1)] = true }

func (s *spread) join(o *spread) {
	for at, ok := range o {
		s[at] = s[at] || ok
	}
}

type spot struct{ t, at int }

// search finds the ends of all values, one by one.
type search struct {
	list []api.Type
	done map[spot]*spread
}

func numberEnd(at, size int) int {
	for at%size != 0 {
		at++
	}
	return at + size
}

func (s *search) ends(t, at int) *spread {
	if at > api.MaxSize {
		e := new(spread)
		e.add(at)
		return e
	}
	if s.done[spot{t, at}] == nil {
		s.done[spot{t, at}] = s.find(t, at)
	}
	return s.done[spot{t, at}]
}

// all are the ends from each of some places.
func (s *search) all(t int, from *spread) *spread {
	e := new(spread)
	for at, ok := range from {
		if ok {
			e.join(s.ends(t, at))
		}
	}
	return e
}

func (s *search) find(t, at int) *spread {
	x, e := s.list[t], new(spread)
	switch x.Kind {
	case api.TString:
		for n := range x.Bound + 1 {
			e.add(numberEnd(at, 4) + n + 1)
		}
	case api.TSeq:
		e.add(numberEnd(at, 4))
		for from := e; x.Bound > 0; x.Bound-- {
			from = s.all(x.Of, from)
			e.join(from)
		}
	case api.TArray:
		e.add(at)
		for range x.Bound {
			e = s.all(x.Of, e)
		}
	case api.TStruct:
		e.add(at)
		for _, m := range x.Items {
			e = s.all(m.Type, e)
		}
	case api.TUnion:
		e = s.branches(x, s.ends(x.Tag, at))
	default:
		e.add(numberEnd(at, []int{0, 1, 1, 2, 2, 4, 4, 8, 8, 4}[x.Kind]))
	}
	return e
}

// tagCount is as good as any for the kinds that have far more tags than there may be branches.
func (s *search) tagCount(tag int) int {
	switch s.list[tag].Kind {
	case api.TBool:
		return 2
	case api.TEnum:
		return len(s.list[tag].Items)
	}
	return 256
}

func (s *search) branches(x api.Type, from *spread) *spread {
	e := new(spread)
	if s.open(x) {
		e.join(from)
	}
	for _, m := range x.Items {
		e.join(s.all(m.Type, from))
	}
	return e
}

// open counts: the branches of a valid list are all of different tags.
func (s *search) open(x api.Type) bool {
	return !x.Items[len(x.Items)-1].Rest && len(x.Items) < s.tagCount(x.Tag)
}

func (s *spread) bounds() (most, least int) {
	least = -1
	for at, ok := range s {
		if ok && least < 0 {
			least = at
		}
		if ok {
			most = at
		}
	}
	return most, least
}

func TestEndsAreThoseOfAllValues(t *testing.T) {
	r := rand.New(rand.NewSource(7))
	for range 400 {
		l := randomList(r)
		s := &search{l, map[spot]*spread{}}
		for x := range l {
			for _, at := range []int{r.Intn(8), r.Intn(64), r.Intn(api.MaxSize), api.MaxSize - r.Intn(40)} {
				most, least := s.ends(x, at).bounds()
				wantEnds(t, l, x, at, most, least)
			}
			if open := l[x].Kind == api.TUnion && s.open(l[x]); Open(l, x) != open {
				t.Errorf("Open of %d = %v: %v", x, !open, l)
			}
		}
	}
}

// Each branch of sixteen, in as many of one more: too many to go through one by one.
func TestManyBranches(t *testing.T) {
	l := []api.Type{{Kind: api.TOctet}}
	for i := range api.MaxDeep - 1 {
		l = append(l, api.Type{Kind: api.TUnion, Name: "u" + strconv.Itoa(i), Items: items(api.MaxItems, i)})
	}
	deep := len(l) - 2
	l = append(l, api.Type{Kind: api.TArray, Bound: 40, Of: deep}, api.Type{Kind: api.TSeq, Bound: 40, Of: deep})
	for at := range api.MaxSize + 2 {
		wantEnds(t, l, deep+1, at, min(at+deep+2, 513), min(at+1, 513))
		wantEnds(t, l, deep+2, at, min(at+40*(deep+1), 513), min(at+40, 513))
		number := (at+3)/4*4 + 4
		wantEnds(t, l, deep+3, at, min(number+40*(deep+1), 513), min(number, 513))
	}
}

func TestArgumentsStay(t *testing.T) {
	whole := append(good(), api.Type{Kind: -7, Name: "behind", Items: items(3, 9)})
	before := clone(whole)
	l := whole[:len(whole)-1]
	for x := range l {
		Most(l, x, 3)
		Least(l, x, 3)
		Open(l, x)
	}
	if !reflect.DeepEqual(whole, before) {
		t.Errorf("the list is now %v", whole)
	}
}

// Promise 7.2.

func wantOpen(t *testing.T, l []api.Type, x int, want bool) {
	t.Helper()
	if f := types.Check(l); f != (api.Fault{}) {
		t.Fatalf("%v at %d: %v", f.Err, f.At, l)
	}
	if got := Open(l, x); got != want {
		t.Errorf("Open of %d = %v; want %v: %v", x, got, want, l[x])
	}
}

func wantOpenBehind(t *testing.T, x api.Type, want bool) {
	t.Helper()
	wantOpen(t, append(good(), x), len(good()), want)
}

func TestOpenIsOfUnions(t *testing.T) {
	for x := range good() {
		wantOpen(t, good(), x, x == choice)
	}
	wantOpenBehind(t, api.Type{Kind: api.TArray, Bound: 1, Of: choice}, false)
	wantOpenBehind(t, api.Type{Kind: api.TSeq, Bound: 1, Of: choice}, false)
	wantOpenBehind(t, fields(choice), false)
	wantOpenBehind(t, union(0, choice, choice), false)
}

func TestOpenOfTruth(t *testing.T) {
	one := union(0, octet)
	wantOpenBehind(t, one, true)
	one.Items[0].Num = 1
	wantOpenBehind(t, one, true)
	wantOpenBehind(t, rest(one, octet), false)
	two := union(0, octet, long)
	wantOpenBehind(t, two, false)
	two.Items[0].Num, two.Items[1].Num = 1, 0
	wantOpenBehind(t, two, false)
	wantOpenBehind(t, rest(two, octet), false)
	wantOpenBehind(t, rest(union(0), octet), false)
}

func TestOpenOfEnum(t *testing.T) {
	three := union(colour, octet, octet, long)
	wantOpenBehind(t, three, false)
	wantOpenBehind(t, rest(three, octet), false)
	slices.Reverse(three.Items)
	wantOpenBehind(t, three, false)
	for i := range three.Items {
		two := three
		two.Items = slices.Delete(slices.Clone(three.Items), i, i+1)
		wantOpenBehind(t, two, true)
		wantOpenBehind(t, rest(two, octet), false)
	}
	wantOpenBehind(t, union(colour, octet), true)
	wantOpenBehind(t, rest(union(colour), octet), false)
}

func TestOpenOfLongEnum(t *testing.T) {
	values := items(api.MaxItems, 0)
	for i := range values {
		values[i].Num = minus(uint64(50 * i))
	}
	branches := slices.Clone(values)
	slices.Reverse(branches)
	l := []api.Type{{Kind: api.TEnum, Name: "E", Items: values}, {Kind: api.TUnion, Name: "U", Items: branches}}
	wantOpen(t, l, 1, false)
	for n := 1; n < api.MaxItems; n++ {
		l[1].Items = branches[:n]
		wantOpen(t, l, 1, true)
		l[1] = rest(l[1], 0)
		wantOpen(t, l, 1, false)
	}
}

// Kinds with far more tags than a type may have branches.
func TestOpenOfManyTags(t *testing.T) {
	for tag := octet; tag < colour; tag++ {
		for _, first := range []uint64{0, 1, 100, 112} {
			for n := 1; n <= api.MaxItems; n++ {
				x := api.Type{Kind: api.TUnion, Name: "New", Tag: tag, Items: items(n, octet)}
				for i := range x.Items {
					x.Items[i].Num += first
				}
				wantOpenBehind(t, x, true)
				if n < api.MaxItems {
					wantOpenBehind(t, rest(x, octet), false)
				}
			}
		}
		wantOpenBehind(t, rest(union(tag), octet), false)
	}
}

func TestOpenOfNone(t *testing.T) {
	for _, x := range noPlaces(len(good())) {
		wantOpen(t, good(), x, false)
	}
	for _, x := range noPlaces(0) {
		if Open(nil, x) {
			t.Errorf("Open(nil, %d)", x)
		}
	}
}

func TestOpenOfNotValid(t *testing.T) {
	for i, l := range badLists() {
		for x := range l {
			if Open(l, x) {
				t.Errorf("list %d: Open of %d", i, x)
			}
		}
		for _, x := range noPlaces(len(l)) {
			if Open(l, x) {
				t.Errorf("list %d: Open of %d", i, x)
			}
		}
	}
}

// Promise 7.3.

func TestConsequences(t *testing.T) {
	r := rand.New(rand.NewSource(73))
	for range 40 {
		l := randomList(r)
		for x := range l {
			mostBefore, leastBefore := 0, 0
			for _, at := range places() {
				most, least := Most(l, x, at), Least(l, x, at)
				if least > most || most < mostBefore || least < leastBefore || least <= min(at, api.MaxSize) {
					t.Fatalf("type %d at %d: %d, %d behind %d, %d: %v", x, at, most, least, mostBefore, leastBefore, l)
				}
				mostBefore, leastBefore = most, least
			}
		}
	}
}
