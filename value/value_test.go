package value

import (
	"fmt"
	"math"
	"math/rand"
	"reflect"
	"strings"
	"testing"

	"broadsheet/api"
)

// minus is a number below 0, by its widest two's complement.
func minus(n uint64) uint64 { return -n }

func num(kind int, n uint64) api.Value { return api.Value{Kind: kind, Num: n} }

func text(s string) api.Value { return api.Value{Kind: api.TString, Text: s} }

func node(kind int, items ...api.Value) api.Value { return api.Value{Kind: kind, Items: items} }

func union(tag uint64, items ...api.Value) api.Value {
	return api.Value{Kind: api.TUnion, Num: tag, Items: items}
}

// noKinds are numbers that are no kinds.
func noKinds() []int {
	return []int{0, -1, -2, -9, -10, -14, 15, 16, 255, 256, 257, 266, 1 << 32, 1<<32 + 1, 1<<32 + 10, 1<<32 + 14, math.MinInt, math.MinInt + 1, math.MaxInt}
}

func allKinds() []int {
	l := noKinds()
	for kind := api.TBool; kind <= api.TUnion; kind++ {
		l = append(l, kind)
	}
	return l
}

// tower is a value of some depth, with a leaf at its end and leaves beside its way.
func tower(deep int, leaf api.Value) api.Value {
	v := leaf
	for i := range deep - 1 {
		switch i % 4 {
		case 0:
			v = node(api.TSeq, num(api.TOctet, 1), v)
		case 1:
			v = node(api.TStruct, v, text("x"))
		case 2:
			v = union(7, v)
		default:
			v = node(api.TArray, v)
		}
	}
	return v
}

// sample has every kind of node, and all its Items have room behind their ends.
func sample() api.Value {
	v := node(api.TStruct,
		num(api.TInt16, minus(1)),
		text("it's"),
		node(api.TSeq, node(api.TArray, num(api.TBool, 1), num(api.TBool, 0)), node(api.TArray)),
		union(3, node(api.TStruct, num(api.TUint64, math.MaxUint64))),
		union(minus(1)),
		api.Value{Kind: 99, Num: 5, Text: "abc", Items: []api.Value{text("de")}},
	)
	return roomy(v)
}

// roomy is a value with a marked one behind the end of each list of Items.
func roomy(v api.Value) api.Value {
	l := make([]api.Value, 0, len(v.Items)+2)
	for _, m := range v.Items {
		l = append(l, roomy(m))
	}
	mark := text("behind the end")
	copy(l[len(l):cap(l)], []api.Value{mark, mark})
	v.Items = l
	return v
}

// seen is what a value has, and what lies behind the ends of its lists.
func seen(v api.Value) string {
	var b strings.Builder
	fmt.Fprintf(&b, "{%d %d %q", v.Kind, v.Num, v.Text)
	for _, m := range v.Items {
		b.WriteString(seen(m))
	}
	fmt.Fprint(&b, v.Items[len(v.Items):cap(v.Items)], "}")
	return b.String()
}

// brief is what a failed test says of a value.
func brief(v api.Value) string {
	s := fmt.Sprint(v)
	return s[:min(len(s), 200)]
}

// Promise 8.1.

func wantSame(t *testing.T, a, b api.Value, want bool) {
	t.Helper()
	if Same(a, b) != want || Same(b, a) != want {
		t.Errorf("Same: %v, %v, want %v: %s and %s", Same(a, b), Same(b, a), want, brief(a), brief(b))
	}
}

func TestSameComparesEachField(t *testing.T) {
	for _, kind := range allKinds() {
		a := api.Value{Kind: kind, Num: 5, Text: "ab", Items: []api.Value{num(api.TOctet, 1), text("x")}}
		b := a
		b.Items = []api.Value{num(api.TOctet, 1), text("x")}
		wantSame(t, a, a, true)
		wantSame(t, a, b, true)
		b.Kind ^= 1
		wantSame(t, a, b, false)
		b = a
		b.Num = 6
		wantSame(t, a, b, false)
		b.Num = 5 + 1<<63 // another number, also where a kind has fewer bits
		wantSame(t, a, b, false)
		for _, s := range []string{"", "a", "abc", "aB", "a\x00", "ab\x00"} {
			b = a
			b.Text = s
			wantSame(t, a, b, false)
		}
	}
	wantSame(t, api.Value{}, api.Value{}, true)
	wantSame(t, text("\xff\x00"), text("\xff\x00"), true)
	wantSame(t, text("\xff"), text("\ufffd"), false)
	wantSame(t, num(api.TInt16, 65535), num(api.TInt16, minus(1)), false)
}

func TestSameComparesItemsOneByOne(t *testing.T) {
	x, y := num(api.TOctet, 1), num(api.TOctet, 2)
	for _, kind := range allKinds() {
		lists := [][]api.Value{
			nil, {x}, {y}, {x, x}, {x, y}, {y, x}, {y, y}, {x, x, x}, {x, y, x},
			{node(kind)}, {node(kind, x)}, {node(kind, y)}, {node(kind, x), y}, {node(kind, x, y)}, {node(kind, node(kind, x))},
		}
		for i, l := range lists {
			for k, m := range lists {
				wantSame(t, node(kind, l...), node(kind, m...), i == k)
				wantSame(t, node(kind, x, node(kind, l...)), node(kind, x, node(kind, m...)), i == k)
			}
		}
	}
}

func TestSameTakesEmptyListsForTheSame(t *testing.T) {
	a := api.Value{Kind: api.TSeq}
	b := api.Value{Kind: api.TSeq, Items: []api.Value{}}
	c := api.Value{Kind: api.TSeq, Items: []api.Value{text("a"), text("b")}[:0]}
	for _, v := range []api.Value{a, b, c} {
		wantSame(t, a, v, true)
		wantSame(t, node(api.TStruct, b, v), node(api.TStruct, c, a), true)
		wantSame(t, v, node(api.TSeq, api.Value{}), false)
	}
}

func wantMeasures(t *testing.T, v api.Value, deep, great int) {
	t.Helper()
	if d, g := Deep(v), Great(v); d != deep || g != great {
		t.Errorf("Deep %d, Great %d, want %d, %d: %s", d, g, deep, great, brief(v))
	}
}

func TestDeepAndGreat(t *testing.T) {
	leaf := num(api.TOctet, 200)
	for _, kind := range allKinds() {
		wantMeasures(t, num(kind, math.MaxUint64), 1, 1)
		wantMeasures(t, api.Value{Kind: kind, Items: []api.Value{}}, 1, 1)
		wantMeasures(t, api.Value{Kind: kind, Text: "\x00\xffé"}, 1, 5)
		wantMeasures(t, api.Value{Kind: kind, Text: "abc", Items: []api.Value{leaf}}, 2, 5)
		wantMeasures(t, node(kind, leaf, leaf, leaf), 2, 4)
		wantMeasures(t, node(kind, leaf, node(kind, leaf, text("ab")), leaf), 3, 8)
		wantMeasures(t, node(kind, node(kind, node(kind)), leaf), 3, 4)
		wantMeasures(t, node(kind, leaf, node(kind, node(kind))), 3, 4)
		wantMeasures(t, node(kind, node(kind, leaf), node(kind, leaf)), 3, 5)
	}
	wantMeasures(t, api.Value{}, 1, 1)
	wantMeasures(t, sample(), 4, 23)
}

func TestMeasuresOfWhatIsLarge(t *testing.T) {
	v := api.Value{Kind: api.TSeq, Items: make([]api.Value, 1<<18)}
	wantMeasures(t, v, 2, 1<<18+1)
	wantSame(t, v, v, true)
	wantMeasures(t, text(strings.Repeat("x", 1<<20)), 1, 1<<20+1)
	a, b := tower(1<<16, text("ab")), tower(1<<16, text("ab"))
	wantMeasures(t, a, 1<<16, 1<<16+2+(1<<14)+2*(1<<14))
	wantSame(t, a, b, true)
	wantSame(t, a, tower(1<<16, text("ac")), false)
	wantSame(t, a, tower(1<<16-1, text("ab")), false)
}

// Promise 8.2.

func wantText(t *testing.T, v api.Value, want string) {
	t.Helper()
	if s := Text(v); s != want {
		t.Errorf("Text: %.300s, want %.300s", s, want)
	}
}

func TestTextOfNumbers(t *testing.T) {
	for _, x := range []struct {
		kind int
		n    uint64
		want string
	}{
		{api.TBool, 0, "false"}, {api.TBool, 1, "true"}, {api.TBool, 2, "false"}, {api.TBool, 3, "true"}, {api.TBool, math.MaxUint64, "true"}, {api.TBool, 1 << 63, "false"},
		{api.TOctet, 0, "0"}, {api.TOctet, 255, "255"}, {api.TOctet, 256, "0"}, {api.TOctet, 511, "255"}, {api.TOctet, minus(1), "255"},
		{api.TInt16, 0, "0"}, {api.TInt16, 32767, "32767"}, {api.TInt16, 32768, "-32768"}, {api.TInt16, 65535, "-1"}, {api.TInt16, minus(1), "-1"}, {api.TInt16, minus(32768), "-32768"}, {api.TInt16, minus(32769), "32767"}, {api.TInt16, 65536, "0"},
		{api.TUint16, 65535, "65535"}, {api.TUint16, 65536, "0"}, {api.TUint16, minus(1), "65535"},
		{api.TInt32, 1<<31 - 1, "2147483647"}, {api.TInt32, 1 << 31, "-2147483648"}, {api.TInt32, minus(1 << 31), "-2147483648"}, {api.TInt32, minus(10), "-10"},
		{api.TUint32, 1<<32 - 1, "4294967295"}, {api.TUint32, 1 << 32, "0"}, {api.TUint32, minus(1), "4294967295"},
		{api.TInt64, 1<<63 - 1, "9223372036854775807"}, {api.TInt64, 1 << 63, "-9223372036854775808"}, {api.TInt64, minus(1), "-1"},
		{api.TUint64, math.MaxUint64, "18446744073709551615"}, {api.TUint64, 1 << 63, "9223372036854775808"}, {api.TUint64, 0, "0"},
		{api.TEnum, 3, "3"}, {api.TEnum, 1<<31 - 1, "2147483647"}, {api.TEnum, 1 << 31, "-2147483648"}, {api.TEnum, minus(5), "-5"}, {api.TEnum, 1 << 32, "0"},
	} {
		wantText(t, num(x.kind, x.n), x.want)
		wantText(t, api.Value{Kind: x.kind, Num: x.n, Text: "abc", Items: []api.Value{text("d")}}, x.want)
	}
}

func TestTextOfTexts(t *testing.T) {
	for c := range 256 {
		want := fmt.Sprintf("\\%02x", c)
		if c >= ' ' && c <= '~' && c != '\'' && c != '\\' {
			want = string(rune(c))
		}
		s := string([]byte{byte(c)})
		wantText(t, text(s), "'"+want+"'")
		wantText(t, text("a"+s+s+"1"), "'a"+want+want+"1'")
	}
	wantText(t, text(""), "''")
	wantText(t, text("it's"), `'it\27s'`)
	wantText(t, text("a\\27"), `'a\5c27'`)
	wantText(t, text("é\xff"), `'\c3\a9\ff'`)
	wantText(t, text("[(<\",:>)]?"), `'[(<",:>)]?'`)
	wantText(t, api.Value{Kind: api.TString, Num: 7, Text: "x", Items: []api.Value{text("y")}}, "'x'")
}

func TestTextOfItems(t *testing.T) {
	leaf, neg, word := num(api.TOctet, 7), num(api.TInt64, minus(12)), text("a,b")
	for _, x := range []struct {
		kind      int
		open, end string
	}{{api.TSeq, "[", "]"}, {api.TArray, "[", "]"}, {api.TStruct, "(", ")"}} {
		wantText(t, node(x.kind), x.open+x.end)
		wantText(t, api.Value{Kind: x.kind, Items: []api.Value{}}, x.open+x.end)
		wantText(t, node(x.kind, leaf), x.open+"7"+x.end)
		wantText(t, node(x.kind, leaf, neg), x.open+"7,-12"+x.end)
		wantText(t, node(x.kind, word, leaf, neg), x.open+"'a,b',7,-12"+x.end)
		wantText(t, node(x.kind, node(x.kind), node(x.kind, leaf, leaf), word), x.open+x.open+x.end+","+x.open+"7,7"+x.end+",'a,b'"+x.end)
		wantText(t, node(x.kind, api.Value{}, api.Value{}), x.open+"?,?"+x.end)
		wantText(t, api.Value{Kind: x.kind, Num: 5, Text: "abc", Items: []api.Value{leaf}}, x.open+"7"+x.end)
	}
	wantText(t, node(api.TStruct, num(api.TInt16, minus(1)), text("it's")), `(-1,'it\27s')`)
}

func TestTextOfUnions(t *testing.T) {
	leaf := num(api.TBool, 1)
	wantText(t, union(0), "<0>")
	wantText(t, union(7, leaf), "<7:true>")
	wantText(t, union(minus(1)), "<18446744073709551615>")
	wantText(t, union(1<<63, text("x")), "<9223372036854775808:'x'>")
	wantText(t, union(256, leaf, num(api.TInt16, 65535), union(1, union(2))), "<256:true:-1:<1:<2>>>")
	wantText(t, union(3, node(api.TSeq, leaf, leaf)), "<3:[true,true]>")
	wantText(t, api.Value{Kind: api.TUnion, Num: 3, Text: "abc"}, "<3>")
}

func TestTextOfOtherKinds(t *testing.T) {
	for _, kind := range noKinds() {
		wantText(t, num(kind, 7), "?")
		wantText(t, api.Value{Kind: kind, Num: 1, Text: "abc", Items: []api.Value{text("d")}}, "?")
		wantText(t, node(api.TArray, num(kind, 1), num(api.TOctet, 2), num(kind, 3)), "[?,2,?]")
	}
	wantText(t, api.Value{}, "?")
	wantText(t, sample(), `(-1,'it\27s',[[true,false],[]],<3:(18446744073709551615)>,<18446744073709551615>,?)`)
}

func TestTextOfWhatIsLarge(t *testing.T) {
	wantText(t, tower(1<<16, text("ab")), "<7:([1,"+strings.Repeat("[<7:([1,", 1<<14-1)+"'ab'"+strings.Repeat("],'x')>]", 1<<14-1)+"],'x')>")
	wantText(t, text(strings.Repeat("\n", 1<<18)), "'"+strings.Repeat("\\0a", 1<<18)+"'")
	v := api.Value{Kind: api.TSeq, Items: make([]api.Value, 1<<18)}
	wantText(t, v, "["+strings.Repeat("?,", 1<<18-1)+"?]")
}

// Promise 8.3.

func wantAt(t *testing.T, v api.Value, l []int, want api.Value) {
	t.Helper()
	if x, ok := At(v, l); !ok || !Same(x, want) {
		t.Errorf("At %v: %s, %v, want %s", l, brief(x), ok, brief(want))
	}
}

func wantNowhere(t *testing.T, v api.Value, l []int) {
	t.Helper()
	if x, ok := At(v, l); ok || !reflect.DeepEqual(x, api.Value{}) {
		t.Errorf("At %v: %s, %v, want nothing", l, brief(x), ok)
	}
}

func TestAtGoesStepByStep(t *testing.T) {
	v := sample()
	for _, l := range [][]int{nil, {}, []int{0, 1}[:0]} {
		wantAt(t, v, l, v)
		wantAt(t, api.Value{}, l, api.Value{})
	}
	wantAt(t, v, []int{0}, num(api.TInt16, minus(1)))
	wantAt(t, v, []int{1}, text("it's"))
	wantAt(t, v, []int{2}, v.Items[2])
	wantAt(t, v, []int{2, 0}, node(api.TArray, num(api.TBool, 1), num(api.TBool, 0)))
	wantAt(t, v, []int{2, 0, 0}, num(api.TBool, 1))
	wantAt(t, v, []int{2, 0, 1}, num(api.TBool, 0))
	wantAt(t, v, []int{2, 1}, node(api.TArray))
	wantAt(t, v, []int{3}, v.Items[3])
	wantAt(t, v, []int{3, 0, 0}, num(api.TUint64, math.MaxUint64))
	wantAt(t, v, []int{4}, union(minus(1)))
	wantAt(t, v, []int{5}, v.Items[5])
	wantAt(t, v, []int{5, 0}, text("de"))
	for _, kind := range allKinds() {
		wantAt(t, node(kind, text("a"), text("b")), []int{1}, text("b"))
	}
}

func TestAtFindsNothing(t *testing.T) {
	v := sample()
	for _, i := range []int{math.MinInt, math.MinInt + 1, -1 << 32, -7, -6, -2, -1, 6, 7, 8, 1 << 32, 1<<32 + 1, math.MaxInt - 1, math.MaxInt} {
		wantNowhere(t, v, []int{i})
		wantNowhere(t, v, []int{i, 0})
		wantNowhere(t, v, []int{2, i})
		wantNowhere(t, v, []int{2, 0, i})
		wantNowhere(t, api.Value{}, []int{i})
	}
	wantNowhere(t, api.Value{}, []int{0})
	wantNowhere(t, text("abc"), []int{0})
	for _, l := range [][]int{{0, 0}, {1, 0}, {2, 2}, {2, 0, 2}, {2, 1, 0}, {2, 0, 1, 0}, {3, 1}, {4, 0}, {5, 1}, {5, 0, 0}, {0, 0, 0, 0}} {
		wantNowhere(t, v, l)
	}
}

func TestAtOfWhatIsDeep(t *testing.T) {
	v := node(api.TSeq, text("end"))
	for range 1<<16 - 2 {
		v = node(api.TSeq, v)
	}
	l := make([]int, 1<<16)
	wantAt(t, v, l[:1<<16-1], text("end"))
	wantAt(t, v, l[:1<<16-2], node(api.TSeq, text("end")))
	wantAt(t, v, nil, v)
	wantNowhere(t, v, l)
}

// spoil changes each field of what was answered, and what it can reach behind its lists' ends.
func spoil(v *api.Value) {
	for i := range v.Items {
		spoil(&v.Items[i])
	}
	for i := range v.Items[:cap(v.Items)] {
		v.Items[:cap(v.Items)][i].Text = "spoilt"
	}
	v.Kind, v.Num, v.Text = -1, 99, "spoilt"
}

func TestAtAnswersNewMemory(t *testing.T) {
	for _, l := range [][]int{nil, {0}, {2}, {2, 0}, {2, 1}, {3}, {3, 0}, {5}} {
		v := sample()
		before := seen(v)
		x, _ := At(v, l)
		y, _ := At(v, l)
		spoil(&x)
		if seen(v) != before {
			t.Errorf("At %v shares memory with its argument", l)
		}
		wantAt(t, v, l, y)
	}
}

func TestAtAnswersListsThatShareNothing(t *testing.T) {
	twice := []api.Value{text("a"), node(api.TSeq, text("b"))}
	v := node(api.TStruct, node(api.TSeq, twice...), node(api.TSeq, twice...))
	x, _ := At(v, nil)
	y, _ := At(node(api.TArray, v), []int{0})
	spoil(&x.Items[0])
	spoil(&y.Items[0])
	wantSame(t, x.Items[1], v.Items[1], true)
	wantSame(t, y.Items[1], v.Items[1], true)
}

func TestArgumentsStayAsTheyAre(t *testing.T) {
	v, w := sample(), sample()
	before := seen(v)
	l := []int{2, 0, 1, 77}
	Same(v, w)
	Deep(v)
	Great(v)
	Text(v)
	At(v, l[:3])
	At(v, nil)
	At(v, l[3:])
	if seen(v) != before || seen(w) != before || !reflect.DeepEqual(l, []int{2, 0, 1, 77}) {
		t.Error("an argument was changed")
	}
}

// Promise 8.4.

// anyValue has nodes of all kinds and of none, whether its fields have a meaning for them or not.
func anyValue(r *rand.Rand, deep int) api.Value {
	v := api.Value{Kind: r.Intn(17) - 1}
	if r.Intn(2) == 0 {
		v.Num = r.Uint64() >> r.Intn(64)
	}
	if r.Intn(3) == 0 {
		v.Num = -v.Num
	}
	if r.Intn(2) == 0 {
		b := make([]byte, r.Intn(5))
		r.Read(b)
		v.Text = string(b)
	}
	if deep > 1 {
		for range r.Intn(5) {
			v.Items = append(v.Items, anyValue(r, deep-1))
		}
	}
	return v
}

// again is the same value in other memory.
func again(v api.Value) api.Value {
	w := v
	w.Text = string([]byte(v.Text))
	w.Items = []api.Value{}
	for _, m := range v.Items {
		w.Items = append(w.Items, again(m))
	}
	return w
}

// nodes are the lists of steps to all the values within one.
func nodes(v api.Value) [][]int {
	l := [][]int{nil}
	for i, m := range v.Items {
		for _, n := range nodes(m) {
			l = append(l, append([]int{i}, n...))
		}
	}
	return l
}

// inner is the value at a list of steps, in the value's own memory.
func inner(v *api.Value, l []int) *api.Value {
	for _, i := range l {
		v = &v.Items[i]
	}
	return v
}

func number(kind int, n uint64) string {
	switch kind {
	case api.TBool:
		return fmt.Sprint(n%2 != 0)
	case api.TOctet:
		return fmt.Sprint(uint8(n))
	case api.TInt16:
		return fmt.Sprint(int16(n))
	case api.TUint16:
		return fmt.Sprint(uint16(n))
	case api.TInt32, api.TEnum:
		return fmt.Sprint(int32(n))
	case api.TUint32:
		return fmt.Sprint(uint32(n))
	case api.TInt64:
		return fmt.Sprint(int64(n))
	case api.TUint64:
		return fmt.Sprint(n)
	}
	return "?"
}

// told is a value's text, put together from the texts of its Items.
func told(v api.Value) string {
	var l []string
	for _, m := range v.Items {
		l = append(l, told(m))
	}
	switch v.Kind {
	case api.TString:
		s := ""
		for _, c := range []byte(v.Text) {
			if c < ' ' || c > '~' || strings.IndexByte(`'\`, c) >= 0 {
				s += fmt.Sprintf(`\%02x`, c)
			} else {
				s += string(rune(c))
			}
		}
		return "'" + s + "'"
	case api.TSeq, api.TArray:
		return "[" + strings.Join(l, ",") + "]"
	case api.TStruct:
		return "(" + strings.Join(l, ",") + ")"
	case api.TUnion:
		return "<" + strings.Join(append([]string{fmt.Sprint(v.Num)}, l...), ":") + ">"
	}
	return number(v.Kind, v.Num)
}

// measured is a value's depth and its size, told by the steps to all the values within it.
func measured(v api.Value) (int, int) {
	deep, great := 0, 0
	for _, l := range nodes(v) {
		deep = max(deep, len(l)+1)
		great += 1 + len(inner(&v, l).Text)
	}
	return deep, great
}

func TestWhatIsTheSameHasTheSameMeasures(t *testing.T) {
	r := rand.New(rand.NewSource(8))
	for range 2000 {
		v := anyValue(r, 5)
		w := again(v)
		wantSame(t, v, w, true)
		deep, great := measured(v)
		wantMeasures(t, v, deep, great)
		wantMeasures(t, w, deep, great)
		wantText(t, v, told(v))
		wantText(t, w, told(v))
	}
}

func TestWhatIsChangedAnywhereIsAnother(t *testing.T) {
	r := rand.New(rand.NewSource(84))
	for range 500 {
		v := anyValue(r, 4)
		all := nodes(v)
		l := all[r.Intn(len(all))]
		for way := range 5 {
			w := again(v)
			m := inner(&w, l)
			switch way {
			case 0:
				m.Kind++
			case 1:
				m.Num ^= 1 << r.Intn(64)
			case 2:
				m.Text += "\x00"
			case 3:
				m.Items = append(m.Items, api.Value{})
			case 4:
				if len(m.Items) == 0 {
					continue
				}
				m.Items = m.Items[:len(m.Items)-1]
			}
			wantSame(t, v, w, false)
			wantAt(t, w, l, *m)
		}
	}
}

func TestAtFindsAllThatIsWithin(t *testing.T) {
	r := rand.New(rand.NewSource(83))
	for range 300 {
		v := anyValue(r, 4)
		for _, l := range nodes(v) {
			m := *inner(&v, l)
			wantAt(t, v, l, m)
			wantNowhere(t, v, append(l[:len(l):len(l)], len(m.Items)))
		}
	}
}
