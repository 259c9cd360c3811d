package truth

import (
	"fmt"
	"maps"
	"math"
	"math/big"
	"math/rand"
	"regexp"
	"slices"
	"strconv"
	"strings"
	"testing"
	"unsafe"

	"broadsheet/api"
	"broadsheet/check"
	"broadsheet/expr"
	"broadsheet/fits"
	"broadsheet/path"
	"broadsheet/types"
)

func at(s string) api.Operand { return api.Operand{Kind: api.OPath, Text: s} }

func num(n uint64) api.Operand { return api.Operand{Kind: api.ONum, Num: n} }

func minus(n uint64) api.Operand { return api.Operand{Kind: api.ONum, Neg: true, Num: n} }

func str(s string) api.Operand { return api.Operand{Kind: api.OText, Text: s} }

func boolean(n uint64) api.Operand { return api.Operand{Kind: api.OBool, Num: n} }

func param(n uint64) api.Operand { return api.Operand{Kind: api.OParam, Num: n} }

func test(op, rel int, args ...api.Operand) api.Expr { return api.Expr{Op: op, Rel: rel, Args: args} }

func rel(r int, a, b api.Operand) api.Expr { return test(api.XRel, r, a, b) }

func between(a, b, c api.Operand) api.Expr { return test(api.XBetween, 0, a, b, c) }

func alike(a, b api.Operand) api.Expr { return test(api.XLike, 0, a, b) }

func node(op int, kids ...api.Expr) api.Expr { return api.Expr{Op: op, Kids: kids} }

func not(x api.Expr) api.Expr { return node(api.XNot, x) }

func and(kids ...api.Expr) api.Expr { return node(api.XAnd, kids...) }

func or(kids ...api.Expr) api.Expr { return node(api.XOr, kids...) }

// always and never are the shortest tests that hold and do not hold for all values.
func always() api.Expr { return rel(api.RelEq, num(1), num(1)) }

func never() api.Expr { return rel(api.RelEq, num(1), num(2)) }

// same compares all fields; an empty list may be nil.
func same(a, b api.Expr) bool {
	return a.Op == b.Op && a.Rel == b.Rel && slices.Equal(a.Args, b.Args) && slices.EqualFunc(a.Kids, b.Kids, same)
}

// clone shares no memory with a tree.
func clone(x api.Expr) api.Expr {
	x.Args, x.Kids = slices.Clone(x.Args), slices.Clone(x.Kids)
	for i, k := range x.Kids {
		x.Kids[i] = clone(k)
	}
	return x
}

// brief is what a failed test says of a thing.
func brief(x any) string {
	s := fmt.Sprint(x)
	return s[:min(len(s), 1000)]
}

func parsed(t *testing.T, s string) api.Expr {
	t.Helper()
	x, f := expr.Parse(s)
	if f.Err != api.OK {
		t.Fatalf("%q: %v at %d", s, f.Err, f.At)
	}
	return x
}

// The types and values of the tests.

// good is a list whose last type has something of each kind.
func good() []api.Type {
	l := make([]api.Type, api.TUint64)
	for i := range l {
		l[i].Kind = i + 1 // TBool is at 0, TUint64 at 7
	}
	return append(l,
		api.Type{Kind: api.TEnum, Name: "Color", Items: []api.Item{{Name: "red", Num: 3}, {Name: "blue", Num: math.MaxUint64}, {Name: "low", Num: 1<<64 - 1<<31}}},
		api.Type{Kind: api.TEnum, Name: "Shade", Items: []api.Item{{Name: "grey", Num: 0}, {Name: "red", Num: 4}, {Name: "high", Num: 1<<31 - 1}}},
		api.Type{Kind: api.TString, Bound: 4},         // 10
		api.Type{Kind: api.TSeq, Bound: 3, Of: 8},     // 11
		api.Type{Kind: api.TArray, Bound: 12, Of: 10}, // 12
		api.Type{Kind: api.TStruct, Name: "In", Items: []api.Item{{Name: "e", Type: 8}, {Name: "n", Type: 2}, {Name: "l", Type: 11}}},    // 13
		api.Type{Kind: api.TUnion, Name: "U", Tag: 9, Items: []api.Item{{Name: "t", Num: 4, Type: 0}, {Name: "s", Rest: true, Type: 9}}}, // 14
		api.Type{Kind: api.TString, Bound: 0}, // 15
		api.Type{Kind: api.TStruct, Name: "Top", Items: []api.Item{
			{Name: "b", Type: 0}, {Name: "o", Type: 1}, {Name: "i", Type: 2}, {Name: "u", Type: 3}, {Name: "ii", Type: 4}, {Name: "uu", Type: 5}, {Name: "iii", Type: 6}, {Name: "uuu", Type: 7},
			{Name: "e", Type: 8}, {Name: "f", Type: 9}, {Name: "s", Type: 10}, {Name: "l", Type: 11}, {Name: "a", Type: 12}, {Name: "in", Type: 13}, {Name: "pick", Type: 14}, {Name: "z", Type: 15},
		}},
	)
}

// top is the last type of good.
const top = 16

func number(kind int, n uint64) api.Value { return api.Value{Kind: kind, Num: n} }

func text(s string) api.Value { return api.Value{Kind: api.TString, Text: s} }

func tree(kind int, items ...api.Value) api.Value { return api.Value{Kind: kind, Items: items} }

// below is the two's complement of a number below 0.
func below(n uint64) uint64 { return -n }

// here is a value of top.
func here() api.Value {
	color := func(n uint64) api.Value { return number(api.TEnum, n) }
	var texts []api.Value
	for i := range 12 {
		texts = append(texts, text("t"+strconv.Itoa(i)))
	}
	return tree(api.TStruct,
		number(api.TBool, 1), number(api.TOctet, 200), number(api.TInt16, below(7)), number(api.TUint16, 40000), number(api.TInt32, below(1<<31)), number(api.TUint32, 1<<31), number(api.TInt64, 1<<63), number(api.TUint64, 1<<63),
		color(math.MaxUint64), color(4), text("it's"), tree(api.TSeq, color(3), color(below(1<<31))), tree(api.TArray, texts...),
		tree(api.TStruct, color(3), number(api.TInt16, 5), tree(api.TSeq)), api.Value{Kind: api.TUnion, Num: 0, Items: []api.Value{color(1<<31 - 1)}}, text(""))
}

func isNum(n int64) api.Datum {
	if n < 0 {
		return api.Datum{Kind: api.DNum, Neg: true, Num: -uint64(n)}
	}
	return api.Datum{Kind: api.DNum, Num: uint64(n)}
}

func isText(s string) api.Datum { return api.Datum{Kind: api.DText, Text: s} }

func isTruth(n uint64) api.Datum { return api.Datum{Kind: api.DBool, Num: n} }

// facts are what is here at some paths; in all others that the tests know there is nothing that can be compared.
func facts() map[string]api.Datum {
	return map[string]api.Datum{
		"b": isTruth(1), "o": isNum(200), "i": isNum(-7), "u": isNum(40000), "ii": isNum(-1 << 31), "uu": isNum(1 << 31), "iii": isNum(math.MinInt64), "uuu": {Kind: api.DNum, Num: 1 << 63},
		"e": isNum(-1), "f": isNum(4), "s": isText("it's"), "l[0]": isNum(3), "l[1]": isNum(-1 << 31), "a[0]": isText("t0"), "a[7]": isText("t7"), "a[11]": isText("t11"),
		"in.e": isNum(3), "in.n": isNum(5), "pick.s": isNum(1<<31 - 1), "z": isText(""),
	}
}

// nowhere are texts of paths of top at which nothing is here.
func nowhere() []string { return []string{"l[2]", "in.l[0]", "in.l[2]", "pick.t"} }

// whole are texts of paths to what has parts.
func whole() []string { return []string{"l", "a", "in", "pick", "in.l"} }

// noPaths are texts that are no paths of top.
func noPaths() []string {
	return []string{
		"", ".", "b.", ".b", "b b", " b", "b ", "l[", "l[00]", "l[100]", "l [0]", "1", "'b'", "x", "B", "in.x", "pick.f", "AND", "TRUE", "bb", "b.x", "o.x", "e.red", "red", "s[0]", "[0]", "l.x", "in[0]", "pick[1]", "l[0][0]", "l[3]", "a[12]", "in.l[99]", "in.l[3]", "%0", "*", "\x00", strings.Repeat("b", 300),
	}
}

func TestHereFits(t *testing.T) {
	l := good()
	if f := types.Check(l); f.Err != api.OK || len(l) != top+1 {
		t.Fatal(f, len(l))
	}
	if e := fits.Fits(l, top, here()); e != api.OK {
		t.Fatal(e)
	}
	for _, s := range slices.Concat(slices.Sorted(maps.Keys(facts())), nowhere(), whole()) {
		if _, _, e := path.Find(l, top, s); e != api.OK {
			t.Error(s, e)
		}
	}
	for _, s := range noPaths() {
		if _, _, e := path.Find(l, top, s); e == api.OK {
			t.Error(s)
		}
	}
}

// pathsHere are the texts of paths, and of what is none.
func pathsHere() []string {
	return slices.Concat(slices.Sorted(maps.Keys(facts())), nowhere(), whole(), noPaths())
}

// literals are operands that a filter may have besides paths.
func literals() []api.Operand {
	return []api.Operand{num(0), num(1), num(3), num(4), num(200), num(1 << 31), num(1 << 63), num(math.MaxUint64), minus(0), minus(1), minus(7), minus(1 << 31), minus(1 << 63), minus(math.MaxUint64), boolean(0), boolean(1), str(""), str("it's"), str("red"), str("blue"), str("grey"), str("high"), str("low"), str("%"), str("t_%"), str("e"), str("4")}
}

// oddities are operands that no filter has.
func oddities() []api.Operand {
	return []api.Operand{{}, param(0), param(9), {Kind: api.OParam, Text: "b", Neg: true, Num: 1}, {Kind: 6, Text: "b", Num: 1}, {Kind: -1, Text: "red"}, {Kind: math.MaxInt, Num: 1}, {Kind: math.MinInt}, boolean(2), boolean(math.MaxUint64)}
}

func operands() []api.Operand {
	l := append(literals(), oddities()...)
	for _, s := range pathsHere() {
		l = append(l, at(s))
	}
	return l
}

// Promise 19.1, Datum.

func wantDatum(t *testing.T, o, other api.Operand, want api.Datum) {
	t.Helper()
	if d := Datum(good(), top, o, other, here()); d != want {
		t.Errorf("Datum of %v with %v: %v, want %v", brief(o), brief(other), d, want)
	}
}

func TestDataOfPaths(t *testing.T) {
	for _, s := range pathsHere() {
		want := facts()[s] // a zero datum is DNone
		for _, other := range operands() {
			wantDatum(t, at(s), other, want)
			wantDatum(t, api.Operand{Kind: api.OPath, Text: s, Neg: true, Num: 3}, other, want)
		}
	}
}

// meant is what some bits mean as a number of a kind.
func meant(kind int, n uint64) *big.Int {
	x := new(big.Int).SetUint64(n)
	if slices.Contains([]int{api.TInt16, api.TInt32, api.TInt64, api.TEnum}, kind) {
		x.SetInt64(int64(n))
	}
	return x
}

// numberOf is the datum of a number of a kind.
func numberOf(kind int, n uint64) api.Datum {
	if kind == api.TBool {
		return isTruth(n)
	}
	x := meant(kind, n)
	return api.Datum{Kind: api.DNum, Neg: x.Sign() < 0, Num: new(big.Int).Abs(x).Uint64()}
}

// bounds are numbers of a numeric kind: the least, the greatest, and those about 0.
func bounds(kind int) []uint64 {
	bits := []int{0, 1, 8, 16, 16, 32, 32, 64, 64, 32}[kind]
	switch kind {
	case api.TInt16, api.TInt32, api.TInt64, api.TEnum:
		return []uint64{0, 1, 2, below(1), below(2), below(1 << (bits - 1)), 1<<(bits-1) - 1, below(1<<(bits-1) - 1)}
	}
	return []uint64{0, 1, 1<<bits - 1, 1 << (bits - 1), 1<<(bits-1) - 1}
}

func TestDataOfEachNumber(t *testing.T) {
	for kind := api.TBool; kind <= api.TEnum; kind++ {
		l := []api.Type{{Kind: kind}, {Kind: api.TStruct, Name: "P", Items: []api.Item{{Name: "x"}}}, {Kind: api.TSeq, Bound: 2, Of: 1}}
		if kind == api.TEnum {
			l[0].Name = "E"
			for i, n := range bounds(kind) {
				l[0].Items = append(l[0].Items, api.Item{Name: "n" + strconv.Itoa(i), Num: n})
			}
		}
		for _, n := range bounds(kind) {
			v := tree(api.TStruct, number(kind, n))
			want := numberOf(kind, n)
			if d := Datum(l, 1, at("x"), num(1), v); d != want {
				t.Errorf("kind %d, %d: %v, want %v", kind, n, d, want)
			}
			if d := Datum(l, 2, at("[1].x"), str("n0"), tree(api.TSeq, tree(api.TStruct, number(kind, 0)), v)); d != want {
				t.Errorf("kind %d, %d within a TSeq: %v, want %v", kind, n, d, want)
			}
		}
	}
}

func TestDataOfTexts(t *testing.T) {
	l := []api.Type{{Kind: api.TString, Bound: 4}, {Kind: api.TArray, Bound: 1}}
	for _, s := range []string{"", "a", "abcd", "\x00", "\xff\x00\xfe ", "é", "1", "'", "%0"} {
		if d := Datum(l, 1, at("[0]"), num(1), tree(api.TArray, text(s))); d != isText(s) {
			t.Errorf("%q: %v", s, d)
		}
	}
}

// Where the other operand is a value of a TEnum, a text is the number of the value with that name, whatever is in the value.
func TestDataOfOtherOperands(t *testing.T) {
	l, v := good(), here()
	for _, other := range operands() {
		for _, o := range slices.Concat(literals(), oddities()) {
			wantDatum(t, o, other, check.Datum(l, top, o, other))
		}
	}
	for _, c := range []struct {
		o, other api.Operand
		want     api.Datum
	}{
		{num(5), at("b"), isNum(5)}, {minus(5), at("s"), isNum(-5)}, {minus(0), minus(0), isNum(0)}, {boolean(1), at("e"), isTruth(1)}, {boolean(0), boolean(1), isTruth(0)},
		{str("red"), at("s"), isText("red")}, {str("red"), at("e"), isNum(3)}, {str("red"), at("f"), isNum(4)}, {str("blue"), at("in.e"), isNum(-1)}, {str("blue"), at("f"), isText("blue")}, {str("red"), str("e"), isText("red")},
		{str("low"), at("l[1]"), isNum(-1 << 31)}, {str("low"), at("l[2]"), isNum(-1 << 31)}, {str("low"), at("l[3]"), isText("low")}, {str("red"), at("pick.t"), isText("red")}, {str("red"), at("pick.s"), isNum(4)},
		{param(0), at("b"), api.Datum{}}, {api.Operand{}, at("b"), api.Datum{}}, {api.Operand{Kind: 6, Text: "b"}, at("b"), api.Datum{}},
	} {
		wantDatum(t, c.o, c.other, c.want)
		// The other branch, and no elements.
		w := here()
		w.Items[14] = api.Value{Kind: api.TUnion, Num: 4, Items: []api.Value{number(api.TBool, 1)}}
		w.Items[11].Items = nil
		if d := Datum(l, top, c.o, c.other, w); d != c.want {
			t.Errorf("Datum of %v with %v in another value: %v, want %v", c.o, c.other, d, c.want)
		}
	}
	if fits.Fits(l, top, v) != api.OK {
		t.Error("here")
	}
}

// A path's datum is the same with each other operand; that of the branch that is there goes by the tag.
func TestDataOfBranches(t *testing.T) {
	l := good()
	for _, c := range []struct {
		tag  uint64
		v    api.Value
		t, s api.Datum
	}{
		{4, number(api.TBool, 1), isTruth(1), api.Datum{}}, {4, number(api.TBool, 0), isTruth(0), api.Datum{}},
		{0, number(api.TEnum, 4), api.Datum{}, isNum(4)}, {1<<31 - 1, number(api.TEnum, 0), api.Datum{}, isNum(0)},
	} {
		v := api.Value{Kind: api.TUnion, Num: c.tag, Items: []api.Value{c.v}}
		if e := fits.Fits(l, 14, v); e != api.OK {
			t.Fatal(e)
		}
		w := here()
		w.Items[14] = v
		for p, want := range map[string]api.Datum{"t": c.t, "s": c.s} {
			for _, other := range operands() {
				if d := Datum(l, 14, at(p), other, v); d != want {
					t.Errorf("%s with the tag %d: %v, want %v", p, c.tag, d, want)
				}
				if d := Datum(l, top, at("pick."+p), other, w); d != want {
					t.Errorf("pick.%s with the tag %d: %v, want %v", p, c.tag, d, want)
				}
			}
		}
	}
}

// From a type without steps there are no paths: the value itself is at none.
func TestDataWithoutPaths(t *testing.T) {
	l := good()
	for i, v := range here().Items {
		of := l[top].Items[i].Type
		for _, s := range noPaths() {
			if s == "[0]" || s == "x" {
				continue
			}
			if d := Datum(l, of, at(s), num(1), v); d != (api.Datum{}) && facts()[l[top].Items[i].Name+"."+s] != d {
				t.Errorf("type %d, %q: %v", of, s, d)
			}
		}
	}
	for i, v := range []api.Value{number(api.TBool, 1), number(api.TOctet, 7)} {
		if d := Datum(l, i, at(""), num(1), v); d != (api.Datum{}) {
			t.Error(i, d)
		}
	}
}

// Promise 19.1, Rel.

// relations are all of them, and numbers that are none.
func relations() []int { return []int{1, 2, 3, 4, 5, 6, 0, -1, 7, 8, math.MaxInt, math.MinInt} }

// order is how two data stand that have the same kind, other than DNone.
func order(a, b api.Datum) int {
	value := func(d api.Datum) *big.Int {
		n := new(big.Int).SetUint64(d.Num)
		if d.Neg && d.Kind == api.DNum {
			n.Neg(n)
		}
		return n
	}
	switch a.Kind {
	case api.DNum, api.DBool:
		return value(a).Cmp(value(b))
	case api.DText:
		return strings.Compare(a.Text, b.Text)
	}
	return 0
}

// holdsRel tells whether a relation holds.
func holdsRel(r int, a, b api.Datum) bool {
	signs := map[int][]int{api.RelEq: {0}, api.RelNe: {-1, 1}, api.RelLt: {-1}, api.RelLe: {-1, 0}, api.RelGt: {1}, api.RelGe: {0, 1}}
	return a.Kind == b.Kind && a.Kind != api.DNone && slices.Contains(signs[r], order(a, b))
}

// someData are data of each kind, in some of which fields are set that do not count.
func someData() []api.Datum {
	l := []api.Datum{{}, {Kind: 4}, {Kind: -1}, {Kind: 4, Num: 1, Text: "x"}, {Kind: math.MaxInt}, {Num: 1, Text: "x"}, {Kind: api.DNum, Num: 1, Text: "x"}, {Kind: api.DText, Neg: true, Num: 1, Text: "x"}, {Kind: api.DBool, Neg: true, Num: 1, Text: "x"}}
	for _, n := range []uint64{0, 1, 2, 255, 1<<31 - 1, 1 << 31, 1<<63 - 1, 1 << 63, 1<<63 + 1, math.MaxUint64} {
		l = append(l, api.Datum{Kind: api.DNum, Num: n}, api.Datum{Kind: api.DNum, Neg: true, Num: n}, isTruth(n))
	}
	for _, s := range []string{"", "a", "b", "ab", "a\x00", "\x00", "\xff", "é", "1", "10", "9"} {
		l = append(l, isText(s))
	}
	return l
}

func TestRel(t *testing.T) {
	for _, a := range someData() {
		for _, b := range someData() {
			for _, r := range relations() {
				if want := holdsRel(r, a, b); Rel(r, a, b) != want {
					t.Errorf("Rel(%d, %v, %v): want %t", r, a, b, want)
				}
			}
		}
	}
}

func TestRelations(t *testing.T) {
	less := [][2]api.Datum{{isNum(1), isNum(2)}, {isNum(-2), isNum(-1)}, {isNum(-1), isNum(0)}, {isNum(math.MinInt64), {Kind: api.DNum, Num: math.MaxUint64}}, {isText("a"), isText("b")}, {isText(""), isText("a")}, {isText("Z"), isText("a")}, {isTruth(0), isTruth(1)}}
	for r, want := range map[int][3]bool{ // of a less datum with a greater one, of one with itself, and of a greater one with a less one
		api.RelEq: {false, true, false}, api.RelNe: {true, false, true}, api.RelLt: {true, false, false}, api.RelLe: {true, true, false}, api.RelGt: {false, false, true}, api.RelGe: {false, true, true},
		0: {}, 7: {}, -1: {},
	} {
		for _, p := range less {
			if got := [3]bool{Rel(r, p[0], p[1]), Rel(r, p[0], p[0]), Rel(r, p[1], p[0])}; got != want {
				t.Error(r, p, got)
			}
		}
		zero := api.Datum{Kind: api.DNum, Neg: true}
		if Rel(r, zero, isNum(0)) != want[1] || Rel(r, isNum(0), zero) != want[1] || Rel(r, zero, zero) != want[1] {
			t.Error(r, "0 with Neg")
		}
		for _, d := range someData() {
			if Rel(r, api.Datum{}, d) || Rel(r, d, api.Datum{}) || d.Kind != api.DNum && Rel(r, isNum(1), d) || d.Kind != api.DText && Rel(r, d, isText("1")) {
				t.Error(r, d)
			}
		}
	}
}

// Promise 19.1, Holds.

// step finds the steps of a path's text.
var step = regexp.MustCompile(`^(?:\.?([A-Za-z][A-Za-z0-9_]{0,15})|\[(\d|[1-9]\d)\])`)

// found is what is at a path's text in a value of a type; nil if nothing is there, or it is no path.
func found(l []api.Type, t int, v api.Value, s string) *api.Value {
	if s == "" || s[0] == '.' {
		return nil
	}
	for isFirst := true; s != ""; isFirst = false {
		m := step.FindStringSubmatch(s)
		if m == nil || !isFirst && s[0] != '.' && s[0] != '[' {
			return nil
		}
		s = s[len(m[0]):]
		kind, i := l[t].Kind, 0
		if m[2] != "" {
			i, _ = strconv.Atoi(m[2])
			if kind != api.TSeq && kind != api.TArray || i >= l[t].Bound || i >= len(v.Items) {
				return nil
			}
			t = l[t].Of
		} else {
			named := slices.IndexFunc(l[t].Items, func(x api.Item) bool { return x.Name == m[1] })
			if kind != api.TStruct && kind != api.TUnion || named < 0 {
				return nil
			}
			if kind == api.TStruct {
				i = named
			} else if named != branchOf(l[t], v.Num) {
				return nil
			}
			t = l[t].Items[named].Type
		}
		v = v.Items[i]
	}
	return &v
}

// branchOf is the index of the branch of a tag.
func branchOf(x api.Type, tag uint64) int {
	if i := slices.IndexFunc(x.Items, func(x api.Item) bool { return !x.Rest && x.Num == tag }); i >= 0 {
		return i
	}
	return slices.IndexFunc(x.Items, func(x api.Item) bool { return x.Rest })
}

// model evaluates trees for a value of a type, by the chapter's words.
type model struct {
	l []api.Type
	t int
	v api.Value
}

func (m model) datum(o, other api.Operand) api.Datum {
	if o.Kind != api.OPath {
		return check.Datum(m.l, m.t, o, other)
	}
	v := found(m.l, m.t, m.v, o.Text)
	switch {
	case v == nil || v.Kind > api.TString:
		return api.Datum{}
	case v.Kind == api.TString:
		return isText(v.Text)
	}
	return numberOf(v.Kind, v.Num)
}

func (m model) rel(r int, a, b api.Operand) bool { return holdsRel(r, m.datum(a, b), m.datum(b, a)) }

func (m model) like(a, b api.Operand) bool {
	x, y := m.datum(a, b), m.datum(b, a)
	return x.Kind == api.DText && y.Kind == api.DText && matches(y.Text, x.Text)
}

// matches tells whether a pattern matches a text.
func matches(p, s string) bool {
	if p == "" {
		return s == ""
	}
	if p[0] == '%' {
		return matches(p[1:], s) || s != "" && matches(p, s[1:])
	}
	return s != "" && (p[0] == '_' || p[0] == s[0]) && matches(p[1:], s[1:])
}

// holds counts for how many Kids the tree holds, and goes by that.
func (m model) holds(x api.Expr) bool {
	var first bool
	n := 0
	for i, k := range x.Kids {
		if m.holds(k) {
			n, first = n+1, first || i == 0
		}
	}
	a := x.Args
	return x.Op == api.XRel && len(a) == 2 && m.rel(x.Rel, a[0], a[1]) ||
		x.Op == api.XBetween && len(a) == 3 && m.rel(api.RelGe, a[0], a[1]) && m.rel(api.RelLe, a[0], a[2]) ||
		x.Op == api.XLike && len(a) == 2 && m.like(a[0], a[1]) ||
		x.Op == api.XNot && len(x.Kids) > 0 && !first ||
		x.Op == api.XAnd && n == len(x.Kids) ||
		x.Op == api.XOr && n > 0
}

func wantHolds(t *testing.T, x api.Expr, want bool) {
	t.Helper()
	had := clone(x)
	if got := Holds(good(), top, x, here()); got != want {
		t.Errorf("%s: %t, want %t", brief(x), got, want)
	}
	if !same(x, had) {
		t.Errorf("Holds of %s changed it to %s", brief(had), brief(x))
	}
}

// wantModel wants what the model tells, and tells it.
func wantModel(t *testing.T, x api.Expr) bool {
	t.Helper()
	want := model{good(), top, here()}.holds(x)
	wantHolds(t, x, want)
	return want
}

// In the chapter's example an element is absent.
func TestExample(t *testing.T) {
	l := []api.Type{{Kind: api.TOctet}, {Kind: api.TSeq, Bound: 4}, {Kind: api.TStruct, Name: "P", Items: []api.Item{{Name: "s", Type: 1}}}}
	v := tree(api.TStruct, tree(api.TSeq, number(api.TOctet, 5)))
	for s, want := range map[string]bool{"s[0] = 5": true, "s[1] = 5": false, "s[1] <> 5": false, "NOT s[1] = 5": true, "NOT s[1] <> 5": true, "s[0] <> 5": false, "s[1] = s[1]": false, "s[1] = s[2]": false, "s[4] = 5": false, "NOT s[4] = 5": true, "s = s": false} {
		if got := Holds(l, 2, parsed(t, s), v); got != want {
			t.Errorf("%q: %t", s, got)
		}
	}
}

func TestTexts(t *testing.T) {
	for s, want := range map[string]bool{
		"o = 200": true, "o <> 200": false, "o < 201": true, "o < 200": false, "o <= 200": true, "o <= 199": false, "o > 199": true, "o > 200": false, "o >= 200": true, "o >= 201": false, "200 = o": true, "199 < o": true, "o < 199": false, "o = o": true, "1 = 1": true, "1 > 2": false, "-1 < 0": true, "-0 = 0": true,
		"i = -7": true, "i < -6": true, "i < 7": true, "i < o": true, "i = 65529": false, "ii = -2147483648": true, "uu > ii": true, "iii = -9223372036854775808": true, "iii < uuu": true, "uuu = 9223372036854775808": true, "uuu > iii": true, "uuu < 18446744073709551615": true, "iii > -18446744073709551615": true, "uu = 2147483648": true,
		"b = TRUE": true, "b <> TRUE": false, "b = FALSE": false, "FALSE <> b": true, "TRUE = TRUE": true, "b = b": true, "b = 1": false, "b <> 1": false, "b > FALSE": true, "FALSE <= b": true,
		"s = 'it''s'": true, "s > 'is'": true, "s < 'its'": true, "s >= ''": true, "z = ''": true, "z < s": true, "a[0] < a[11]": true, "a[11] = 't11'": true, "a[7] = 't1'": false, "'a' < 'b'": true, "s = s": true, "s <> z": true, "s = 5": false, "s <> 5": false,
		"e = 'blue'": true, "e <> 'blue'": false, "'blue' = e": true, "e < 'red'": true, "'red' > e": true, "e > 'low'": true, "f = 'red'": true, "f > 'grey'": true, "f < 'high'": true, "l[0] = 'red'": true, "l[1] = 'low'": true, "l[1] < l[0]": true, "l[0] = in.e": true, "e = 'grey'": false, "e <> 'grey'": false, "pick.s = 'high'": true,
		"e = -1": true, "f = 4": true, "l[0] < f": true, "e <> f": true, // these do not fit, but hold
		"l[2] = 'red'": false, "l[2] <> 'red'": false, "NOT l[2] = 'red'": true, "l[2] = l[2]": false, "pick.t = TRUE": false, "pick.t <> TRUE": false, "NOT pick.t = TRUE": true, "NOT pick.t <> TRUE": true, "in.l[0] = in.l[0]": false,
		"l = l": false, "in <> pick": false, "x = 1": false, "x <> 1": false, "NOT x = 1": true, "o.o = 200": false, "l[9] = 'red'": false, "%0 = 1": false, "%0 = %0": false, "NOT %0 = %0": true,
		"o BETWEEN 1 AND 200": true, "o BETWEEN 200 AND 200": true, "o BETWEEN 201 AND 300": false, "o BETWEEN 1 AND 199": false, "o BETWEEN 300 AND 1": false, "5 BETWEEN i AND o": true, "i BETWEEN -7 AND -7": true, "o NOT BETWEEN 1 AND 200": false, "o NOT BETWEEN 1 AND 199": true, "o BETWEEN i AND uu": true,
		"s BETWEEN 'is' AND 'it''s'": true, "s BETWEEN 'it' AND 'it'": false, "b BETWEEN FALSE AND TRUE": true, "e BETWEEN 'low' AND 'red'": true, "e BETWEEN 'red' AND 'low'": false, "o BETWEEN 1 AND 's'": false, "o BETWEEN 's' AND 300": false, "o NOT BETWEEN 1 AND 's'": true, "l[2] BETWEEN 'low' AND 'red'": false, "l[2] NOT BETWEEN 'low' AND 'red'": true,
		"s LIKE 'it%'": true, "s LIKE '__''s'": true, "s LIKE 'it'": false, "z LIKE ''": true, "z LIKE '%'": true, "z LIKE '_'": false, "a[11] LIKE 't_1'": true, "'it''s' LIKE s": true, "'t' LIKE 't'": true, "s LIKE z": false, "'%' LIKE 'x'": false, "'x' LIKE '%'": true, "o LIKE '%'": false, "'%' LIKE o": false, "e LIKE 'blue'": false, "e LIKE '%'": false, "'blue' LIKE e": false, "l[2] LIKE '%'": false, "NOT l[2] LIKE '%'": true, "b LIKE TRUE": false, "1 LIKE 1": false, "a LIKE '%'": false, "x LIKE '%'": false, "s LIKE %0": false,
		"o = 200 AND i = -7": true, "o = 200 AND i = 7": false, "o = 1 AND i = -7": false, "o = 1 OR i = -7": true, "o = 200 OR i = 7": true, "o = 1 OR i = 7": false, "o = 200 AND i = -7 AND b = TRUE": true, "o = 200 AND i = -7 AND b = FALSE": false, "o = 1 OR i = 7 OR b = TRUE": true, "o = 1 OR i = 7 OR b = FALSE": false,
		"NOT o = 200": false, "NOT NOT o = 200": true, "NOT (o = 200 AND i = 7)": true, "o = 200 AND NOT (i = 7 OR s LIKE 'x%')": true, "o = 1 AND x = 1 OR b = TRUE": true,
	} {
		x := parsed(t, s)
		wantHolds(t, x, want)
		if got := (model{good(), top, here()}).holds(x); got != want {
			t.Errorf("%q: the model tells %t", s, got)
		}
	}
}

func TestEachPair(t *testing.T) {
	n := 0
	l := operands()
	for _, a := range l {
		for _, b := range l {
			for r := range api.RelGe + 2 { // with numbers that are none at both ends
				if wantModel(t, rel(r, a, b)) {
					n++
				}
			}
			if wantModel(t, alike(a, b)) {
				n++
			}
		}
	}
	if n < 1000 {
		t.Error(n)
	}
}

func TestEachTriple(t *testing.T) {
	n := 0
	l := []api.Operand{num(1), num(3), num(4), minus(0), minus(1), minus(1 << 31), boolean(0), boolean(1), str("red"), str("blue"), str("grey"), str("it's"), at("b"), at("o"), at("iii"), at("e"), at("in.e"), at("f"), at("s"), at("l[2]"), at("pick.t"), at("in"), at("x"), {}, param(0), boolean(2)}
	for _, a := range l {
		for _, b := range l {
			for _, c := range l {
				if wantModel(t, between(a, b, c)) {
					n++
				}
			}
		}
	}
	if n < 400 {
		t.Error(n)
	}
}

// A name is compared with each other operand on its own: in one TEnum it is another number than in the other one.
func TestNamesInBetween(t *testing.T) {
	for s, want := range map[string]bool{
		"'red' BETWEEN in.e AND f":     true,  // 3 >= 3, and 4 <= 4
		"'red' BETWEEN f AND in.e":     true,  // 4 >= 4, and 3 <= 3
		"'red' BETWEEN 3 AND f":        false, // as a text it is not compared with 3
		"'red' BETWEEN e AND 'z'":      true,  // 3 >= -1, and a text before z
		"'red' BETWEEN 'a' AND f":      true,  // a text behind a, and 4 <= 4
		"'blue' BETWEEN e AND in.e":    true,  // -1 >= -1, and -1 <= 3
		"'blue' BETWEEN in.e AND e":    false, // -1 < 3
		"'blue' BETWEEN f AND in.e":    false, // no value of f's TEnum
		"in.e BETWEEN 'red' AND 'red'": true, "f BETWEEN 'red' AND 'red'": true, "f BETWEEN 'grey' AND 'red'": true, "f BETWEEN 'grey' AND 'blue'": false, "in.e BETWEEN 'blue' AND f": true,
		"'red' = 'red'": true, "'red' BETWEEN 'red' AND 'red'": true,
	} {
		wantHolds(t, parsed(t, s), want)
		if got := (model{good(), top, here()}).holds(parsed(t, s)); got != want {
			t.Errorf("%q: the model tells %t", s, got)
		}
	}
}

// Each Op, and numbers that are none, with each Rel and each number of Args and Kids.
func TestEachShape(t *testing.T) {
	n := 0
	for _, op := range []int{1, 2, 3, 4, 5, 6, 0, -1, 7, 8, math.MaxInt, math.MinInt} {
		for _, r := range []int{1, 2, 3, 6, 0, -1, 7} {
			for args := range 5 {
				for _, o := range []api.Operand{str("x"), num(1), at("b"), at("s"), at("l[2]"), {}} {
					for kids := range 4 {
						for which := range 1 << kids { // the Kids that hold
							x := test(op, r, slices.Repeat([]api.Operand{o}, args)...)
							for i := range kids {
								x.Kids = append(x.Kids, []api.Expr{never(), always()}[which>>i&1])
							}
							if wantModel(t, x) {
								n++
							}
							wantModel(t, not(x))
							wantModel(t, or(never(), x))
						}
					}
				}
			}
		}
	}
	if n < 1000 {
		t.Error(n)
	}
}

func TestShapes(t *testing.T) {
	s, yes, no := str("x"), always(), never()
	for _, x := range []api.Expr{
		{}, node(api.XNot), node(api.XOr), node(7, yes), node(0, yes), node(-1, no), test(api.XRel, 1), test(api.XRel, 1, s), test(api.XRel, 1, s, s, s), rel(0, s, s), rel(7, s, s), rel(-1, s, s), test(api.XBetween, 0), test(api.XBetween, 0, s), test(api.XBetween, 0, s, s), test(api.XBetween, 0, s, s, s, s), test(api.XLike, 0), test(api.XLike, 0, s), test(api.XLike, 0, s, s, s),
		node(api.XNot, yes, no), node(api.XNot, yes), node(api.XRel, yes, yes), node(api.XLike, yes, yes), node(api.XBetween, yes, yes, yes), and(no), or(no), and(yes, no), and(no, yes), or(no, no), and(api.Expr{}), or(api.Expr{}), test(7, 1, s, s), test(api.XOr, 1, s, s), test(api.XNot, 1, s, s),
	} {
		wantHolds(t, x, false)
		wantHolds(t, not(x), true)
	}
	for _, x := range []api.Expr{
		node(api.XAnd), test(api.XAnd, 1, s), and(yes), or(yes), node(api.XNot, no, no), node(api.XNot, no, yes), not(api.Expr{}), and(yes, yes, yes), or(no, no, yes), or(yes, no), rel(1, s, s), alike(s, s), between(s, s, s), not(node(api.XOr)), not(node(api.XNot)),
		{Op: api.XRel, Rel: 1, Args: []api.Operand{s, s}, Kids: []api.Expr{no}}, {Op: api.XLike, Rel: 9, Args: []api.Operand{s, s}, Kids: []api.Expr{no}}, {Op: api.XBetween, Rel: 2, Args: []api.Operand{s, s, s}, Kids: []api.Expr{no}}, {Op: api.XAnd, Rel: 3, Args: []api.Operand{s}, Kids: []api.Expr{yes}}, {Op: api.XOr, Args: []api.Operand{s}, Kids: []api.Expr{yes}}, {Op: api.XNot, Args: []api.Operand{s}, Kids: []api.Expr{no}},
	} {
		wantHolds(t, x, true)
		wantHolds(t, not(x), false)
	}
}

// The pattern is the second operand; the name of a value that is compared with such a value is no text.
func TestPatterns(t *testing.T) {
	for _, c := range []struct {
		s, p string
		want bool
	}{{"abc", "a%", true}, {"a%", "abc", false}, {"abc", "%", true}, {"%", "abc", false}, {"_", "_", true}, {"x", "_", true}, {"_", "x", false}, {"", "%", true}, {"", "", true}, {"%", "", false}, {"abc", "abc", true}, {"abc", "ab", false}, {"abc", "_b_", true}, {"\x00\xff", "_\xff", true}} {
		wantHolds(t, alike(str(c.s), str(c.p)), c.want)
	}
	for _, s := range []string{"red", "blue", "low"} {
		for _, p := range []string{"e", "l[0]", "l[2]", "in.e"} {
			wantHolds(t, alike(str(s), at(p)), false)
			wantHolds(t, alike(at(p), str(s)), false)
		}
	}
}

type maker struct{ *rand.Rand }

func one[T any](m maker, l ...T) T { return l[m.Intn(len(l))] }

// value is a value of a type of good.
func (m maker) value(l []api.Type, t int) api.Value {
	x := l[t]
	v := api.Value{Kind: x.Kind}
	switch x.Kind {
	case api.TEnum:
		v.Num = one(m, x.Items...).Num
	case api.TString:
		for len(v.Text) < x.Bound && m.Intn(4) > 0 {
			v.Text += one(m, "a", "b", "x", "%", "_", "\xff")
		}
	case api.TSeq:
		for range m.Intn(x.Bound + 1) {
			v.Items = append(v.Items, m.value(l, x.Of))
		}
	case api.TArray:
		for range x.Bound {
			v.Items = append(v.Items, m.value(l, x.Of))
		}
	case api.TStruct:
		for _, f := range x.Items {
			v.Items = append(v.Items, m.value(l, f.Type))
		}
	case api.TUnion:
		v.Num = m.value(l, x.Tag).Num
		v.Items = []api.Value{m.value(l, x.Items[branchOf(x, v.Num)].Type)}
	default:
		v.Num = one(m, bounds(x.Kind)...)
	}
	return v
}

// tree is a tree of a filter, with operands that a function makes.
func (m maker) tree(n int, operand func() api.Operand) api.Expr {
	if n == 0 || m.Intn(4) == 0 {
		switch m.Intn(5) {
		case 0:
			return alike(operand(), operand())
		case 1:
			return between(operand(), operand(), operand())
		}
		return rel(1+m.Intn(6), operand(), operand())
	}
	if m.Intn(4) == 0 {
		return not(m.tree(n-1, operand))
	}
	x := node(one(m, api.XAnd, api.XOr))
	for range 2 + m.Intn(4)/2 {
		x.Kids = append(x.Kids, m.tree(m.Intn(n), operand))
	}
	return x
}

// nodes are a tree's expressions.
func nodes(x *api.Expr) []*api.Expr {
	l := []*api.Expr{x}
	for i := range x.Kids {
		l = append(l, nodes(&x.Kids[i])...)
	}
	return l
}

// spoil makes a tree into one that no filter may have.
func (m maker) spoil(x *api.Expr) {
	l := nodes(x)
	y := l[m.Intn(len(l))]
	switch m.Intn(6) {
	case 0:
		y.Op = m.Intn(9) - 1
	case 1:
		y.Rel = m.Intn(9) - 1
	case 2:
		y.Args = append(y.Args, num(1))
	case 3:
		y.Kids = append(y.Kids, one(m, always(), never()))
	case 4:
		y.Args = y.Args[:len(y.Args)/2]
	case 5:
		y.Kids = y.Kids[:len(y.Kids)/2]
	}
}

// groups are operands that can often be compared with one another.
func groups() [][]api.Operand {
	paths := func(l ...string) (o []api.Operand) {
		for _, s := range l {
			o = append(o, at(s))
		}
		return o
	}
	return [][]api.Operand{
		append(paths("o", "i", "u", "ii", "uu", "iii", "uuu", "in.n"), num(0), num(1), minus(1), num(255), num(1<<63), minus(1<<63)),
		append(paths("b", "pick.t", "b"), boolean(0), boolean(1)),
		append(paths("s", "z", "a[0]", "a[3]", "a[11]"), str(""), str("a"), str("%a%"), str("_%"), str("%x_")),
		append(paths("e", "l[0]", "l[2]", "in.e", "in.l[1]"), str("red"), str("blue"), str("low")),
		append(paths("f", "pick.s"), str("red"), str("grey"), str("high")),
		operands(),
	}
}

func TestRandomTrees(t *testing.T) {
	m, l := maker{rand.New(rand.NewSource(19))}, good()
	counts := map[[2]bool]int{}
	all := groups()
	for range 30000 {
		group := one(m, all...)
		x := m.tree(m.Intn(5), func() api.Operand {
			if m.Intn(5) == 0 {
				group = one(m, all...)
			}
			return one(m, group...)
		})
		isSpoilt := m.Intn(3) == 0
		if isSpoilt {
			m.spoil(&x)
		}
		v := m.value(l, top)
		want := model{l, top, v}.holds(x)
		counts[[2]bool{want, isSpoilt}]++
		if got := Holds(l, top, x, v); got != want {
			t.Errorf("%s in %s: %t", brief(x), brief(v), got)
		}
	}
	for _, k := range [][2]bool{{true, true}, {true, false}, {false, true}, {false, false}} {
		if counts[k] < 1500 {
			t.Error(counts)
		}
	}
}

// From each type that has steps.
func TestRandomTreesOfOtherTypes(t *testing.T) {
	m, l := maker{rand.New(rand.NewSource(191))}, good()
	texts := []string{"[0]", "[1]", "[2]", "[11]", "[12]", "e", "n", "l", "l[0]", "l[1]", "l[2]", "t", "s", "b", ""}
	n := 0
	for range 30000 {
		of := m.Intn(len(l))
		x := m.tree(m.Intn(3), func() api.Operand {
			if m.Intn(2) == 0 {
				return at(one(m, texts...))
			}
			return one(m, literals()...)
		})
		v := m.value(l, of)
		want := model{l, of, v}.holds(x)
		if want {
			n++
		}
		if got := Holds(l, of, x, v); got != want {
			t.Errorf("%s in %s of type %d: %t", brief(x), brief(v), of, got)
		}
	}
	if n < 5000 {
		t.Error(n)
	}
}

// badLists are lists that are not valid, in which the first types are those of good.
func badLists() [][]api.Type {
	long := good()
	for len(long) <= api.MaxTypes {
		long = append(long, api.Type{Kind: api.TBool})
	}
	l := [][]api.Type{long}
	for _, x := range []api.Type{{}, {Kind: 15}, {Kind: -1}, {Kind: api.TBool, Bound: 1}, {Kind: api.TSeq, Bound: 1, Of: 17}, {Kind: api.TString, Bound: 65}, {Kind: api.TEnum, Name: "Color", Items: []api.Item{{Name: "a"}}}, {Kind: api.TStruct, Name: "AND", Items: []api.Item{{Name: "a"}}}, {Kind: api.TUnion, Name: "V"}} {
		l = append(l, append(good(), x))
	}
	spoilt := good()
	spoilt[0].Kind = 0
	return append(l, spoilt)
}

// wantNoPaths wants that there are no paths from a type: only literals are compared, and no text is a value of a TEnum.
func wantNoPaths(t *testing.T, l []api.Type, of int) {
	t.Helper()
	v := here()
	for _, s := range pathsHere() {
		if d := Datum(l, of, at(s), num(1), v); d != (api.Datum{}) {
			t.Errorf("%d types, type %d, %q: %v", len(l), of, s, d)
		}
	}
	if d := Datum(l, of, str("red"), at("e"), v); d != isText("red") {
		t.Errorf("%d types, type %d: %v", len(l), of, d)
	}
	for s, want := range map[string]bool{"o = 200": false, "o <> 200": false, "NOT o = 200": true, "1 = 1": true, "'a' LIKE '%'": true, "2 BETWEEN 1 AND 3": true, "o = o": false, "o BETWEEN 1 AND 3": false, "s LIKE '%'": false, "1 = 1 AND (o = 1 OR TRUE = TRUE)": true} {
		if got := Holds(l, of, parsed(t, s), v); got != want {
			t.Errorf("%d types, type %d, %q: %t", len(l), of, s, got)
		}
	}
}

func TestListsThatAreNotValid(t *testing.T) {
	for i, l := range badLists() {
		if types.Check(l).Err == api.OK {
			t.Error("list", i)
		}
		wantNoPaths(t, l, top)
	}
	for _, l := range [][]api.Type{nil, {}, good()[:1], good()} {
		for _, of := range []int{-1, len(l), len(l) + 1, api.MaxTypes, math.MaxInt, math.MinInt} {
			wantNoPaths(t, l, of)
		}
	}
	wantNoPaths(t, good()[:top], top) // what lies behind the end of a list is no type of it
	long := badLists()[0][:api.MaxTypes]
	if !Holds(long, top, parsed(t, "o = 200 AND e = 'blue'"), here()) {
		t.Error("as many types as may be")
	}
}

// inner is a value within a value, or that value itself.
func (m maker) inner(v *api.Value) *api.Value {
	for len(v.Items) > 0 && m.Intn(4) > 0 {
		v = &v.Items[m.Intn(len(v.Items))]
	}
	return v
}

// In a value without the type, what path.At returns counts.
func TestOtherValues(t *testing.T) {
	m, l := maker{rand.New(rand.NewSource(192))}, good()
	for range 400 {
		v := m.value(l, top)
		for range 1 + m.Intn(3) {
			w := m.inner(&v)
			switch m.Intn(5) {
			case 0:
				w.Kind = m.Intn(17) - 1
			case 1:
				w.Num = m.Uint64()
			case 2:
				w.Items = w.Items[:len(w.Items)/2]
			case 3:
				w.Items = append(w.Items, text("more"))
			case 4:
				*w = m.value(l, m.Intn(len(l)))
			}
		}
		for _, s := range pathsHere() {
			p, _, e := path.Find(l, top, s)
			w, isThere := path.At(l, top, p, v)
			want := api.Datum{}
			switch {
			case e != api.OK || !isThere:
			case w.Kind == api.TString:
				want = isText(w.Text)
			case w.Kind == api.TBool:
				want = isTruth(w.Num & 1)
			case w.Kind >= api.TOctet && w.Kind <= api.TEnum:
				bits := []uint64{0, 1, 8, 16, 16, 32, 32, 64, 64, 32}[w.Kind]
				n := w.Num << (64 - bits)
				if slices.Contains([]int{api.TInt16, api.TInt32, api.TInt64, api.TEnum}, w.Kind) {
					n = uint64(int64(n) >> (64 - bits))
				} else {
					n >>= 64 - bits
				}
				want = numberOf(w.Kind, n)
			}
			if d := Datum(l, top, at(s), num(1), v); d != want {
				t.Errorf("%q in %s: %v, want %v", s, brief(v), d, want)
			}
			_ = Holds(l, top, or(rel(api.RelEq, at(s), at("o")), alike(at(s), at(s)), between(at("e"), at(s), at(s))), v)
		}
	}
	for _, v := range []api.Value{{}, {Kind: -1}, number(api.TBool, 1), text("o"), tree(api.TStruct), {Kind: api.TUnion, Num: 4}} {
		for of := range l {
			for _, s := range pathsHere() {
				_ = Datum(l, of, at(s), num(1), v)
				_ = Holds(l, of, not(rel(api.RelEq, at(s), at(s))), v)
			}
		}
	}
}

// Promise 19.2.

// tests are tests of which some hold here and others do not, also for want of something.
func tests(t *testing.T) []api.Expr {
	l := []api.Expr{{}, node(api.XNot), node(api.XAnd), node(api.XOr), test(api.XRel, 1)}
	for _, s := range []string{"o = 200", "o = 1", "l[2] = 'red'", "l[2] <> 'red'", "pick.t = TRUE", "x = 1", "s LIKE 'it%'", "s LIKE 'x%'", "e BETWEEN 'low' AND 'red'", "o = 's'", "NOT l[2] = 'red'", "o = 1 OR b = TRUE", "o = 200 AND b = FALSE"} {
		l = append(l, parsed(t, s))
	}
	return l
}

func TestLaws(t *testing.T) {
	l, v := good(), here()
	holds := func(x api.Expr) bool { return Holds(l, top, x, v) }
	for _, a := range tests(t) {
		p := holds(a)
		if holds(not(a)) == p || holds(not(not(a))) != p || holds(and(a)) != p || holds(or(a)) != p || holds(and(a, not(a))) || !holds(or(a, not(a))) || holds(and(a, a)) != p || holds(or(a, a)) != p {
			t.Errorf("%s", brief(a))
		}
		if holds(and(a, always())) != p || holds(or(a, never())) != p || holds(and(a, never())) || !holds(or(a, always())) {
			t.Errorf("%s with what always or never holds", brief(a))
		}
		for _, b := range tests(t) {
			q := holds(b)
			if holds(and(a, b)) != (p && q) || holds(or(a, b)) != (p || q) || holds(not(and(a, b))) != holds(or(not(a), not(b))) || holds(not(or(a, b))) != holds(and(not(a), not(b))) || holds(or(a, and(a, b))) != p || holds(and(a, or(a, b))) != p {
				t.Errorf("%s and %s", brief(a), brief(b))
			}
			for _, c := range tests(t) {
				r := holds(c)
				if holds(and(a, b, c)) != (p && q && r) || holds(or(a, b, c)) != (p || q || r) || holds(and(and(a, b), c)) != holds(and(a, and(b, c))) || holds(or(or(a, b), c)) != holds(or(a, or(b, c))) || holds(and(a, or(b, c))) != holds(or(and(a, b), and(a, c))) || holds(or(a, and(b, c))) != holds(and(or(a, b), or(a, c))) {
					t.Errorf("%s, %s and %s", brief(a), brief(b), brief(c))
				}
			}
		}
	}
}

// Of each number of Kids, each one counts.
func TestEachKidCounts(t *testing.T) {
	for n := 1; n <= 40; n++ {
		all, none := slices.Repeat([]api.Expr{always()}, n), slices.Repeat([]api.Expr{never()}, n)
		wantHolds(t, and(all...), true)
		wantHolds(t, or(none...), false)
		for i := range n {
			x, y := slices.Clone(all), slices.Clone(none)
			x[i], y[i] = never(), always()
			wantHolds(t, and(x...), false)
			wantHolds(t, or(y...), true)
			wantHolds(t, node(api.XNot, x...), i == 0)
			wantHolds(t, node(api.XNot, y...), i != 0)
		}
	}
}

// Between two numbers exactly one of RelLt, RelEq and RelGt holds; the others are what these are together.
func TestTrichotomy(t *testing.T) {
	var l []api.Datum
	for _, d := range someData() {
		if d.Kind == api.DNum {
			l = append(l, d)
		}
	}
	for kind := api.TOctet; kind <= api.TEnum; kind++ {
		for _, n := range bounds(kind) {
			l = append(l, numberOf(kind, n))
		}
	}
	for _, a := range l {
		for _, b := range l {
			lt, eq, gt := Rel(api.RelLt, a, b), Rel(api.RelEq, a, b), Rel(api.RelGt, a, b)
			n := 0
			for _, x := range []bool{lt, eq, gt} {
				if x {
					n++
				}
			}
			if n != 1 || Rel(api.RelLe, a, b) != (lt || eq) || Rel(api.RelGe, a, b) != (gt || eq) || Rel(api.RelNe, a, b) == eq || Rel(api.RelLt, b, a) != gt || Rel(api.RelEq, b, a) != eq {
				t.Error(a, b, lt, eq, gt)
			}
		}
	}
	numbers := groups()[0]
	for _, a := range numbers {
		for _, b := range numbers {
			n := 0
			for _, r := range []int{api.RelLt, api.RelEq, api.RelGt} {
				if Holds(good(), top, rel(r, a, b), here()) {
					n++
				}
			}
			if n != 1 {
				t.Error(a, b, n)
			}
		}
	}
}

// A BETWEEN is an AND of two relations.
func TestBetweenIsAnAnd(t *testing.T) {
	l, v := good(), here()
	all := operands()
	m := maker{rand.New(rand.NewSource(193))}
	for range 20000 {
		a, b, c := one(m, all...), one(m, all...), one(m, all...)
		if x := and(rel(api.RelGe, a, b), rel(api.RelLe, a, c)); Holds(l, top, between(a, b, c), v) != Holds(l, top, x, v) {
			t.Error(a, b, c)
		}
	}
}

// The rules that hold everywhere.

func tower(x api.Expr, n int) api.Expr {
	for range n {
		x = not(x)
	}
	return x
}

// No call has a bound on a tree, a text or a value.
func TestLargeArguments(t *testing.T) {
	const n = 1 << 15
	wantHolds(t, tower(rel(api.RelEq, at("o"), num(200)), n), true)
	wantHolds(t, tower(rel(api.RelEq, at("o"), num(200)), n+1), false)
	wantHolds(t, and(slices.Repeat([]api.Expr{alike(at("s"), str("it%"))}, n)...), true)
	wantHolds(t, or(slices.Repeat([]api.Expr{alike(at("s"), str("x%"))}, n)...), false)
	wantHolds(t, test(api.XRel, 1, slices.Repeat([]api.Operand{num(1)}, n)...), false)
	long := strings.Repeat("x", 1<<20)
	wantHolds(t, rel(api.RelEq, at(long), at(long)), false)
	wantHolds(t, alike(str(long), str("%x_%x")), true)
	wantHolds(t, rel(api.RelLt, str(long[1:]), str(long)), true)
	wantHolds(t, rel(api.RelEq, at("e"), str(long)), false)
	deep := text("x")
	for range n {
		deep = tree(api.TSeq, deep)
	}
	v := here()
	v.Items[13] = deep
	for _, s := range []string{"in", "in.l", "in.e", "in.l[0]"} {
		_ = Datum(good(), top, at(s), num(1), v)
	}
	v.Items[13], v.Items[10] = here().Items[13], text(long)
	if d := Datum(good(), top, at("s"), num(1), v); d != isText(long) {
		t.Error(d.Kind, len(d.Text))
	}
}

func share(a, b string) bool {
	if a == "" || b == "" {
		return false
	}
	from, to := uintptr(unsafe.Pointer(unsafe.StringData(a))), uintptr(unsafe.Pointer(unsafe.StringData(b)))
	return from < to+uintptr(len(b)) && to < from+uintptr(len(a))
}

func TestDatumIsNewMemory(t *testing.T) {
	s, v := strings.Clone("some text"), here()
	if d := Datum(good(), top, str(s), at("s"), v); d.Text != s || share(d.Text, s) {
		t.Error(d)
	}
	had := strings.Clone(v.Items[10].Text)
	v.Items[10].Text = had
	if d := Datum(good(), top, at("s"), at("s"), v); d.Text != had || share(d.Text, had) {
		t.Error(d)
	}
}

func TestArgumentsStay(t *testing.T) {
	l, v := good(), here()
	// Behind the end of each list is what no call may read or change.
	l = append(l, api.Type{Kind: api.TBool})[:len(l)]
	v.Items = append(v.Items, text("behind"))[:len(v.Items)]
	v.Items[11].Items = append(v.Items[11].Items, number(api.TEnum, 3), number(api.TEnum, 3))[:2]
	wantL, wantV := fmt.Sprint(l[:len(l)+1]), fmt.Sprint(v, v.Items[:len(v.Items)+1], v.Items[11].Items[:3])
	args := []api.Operand{num(1), num(1), num(2)}
	kids := []api.Expr{always(), test(api.XRel, 1, args[:2]...), never()}
	for _, c := range []struct {
		x    api.Expr
		want bool
	}{
		{api.Expr{Op: api.XRel, Rel: 1, Args: args[:2]}, true}, {api.Expr{Op: api.XRel, Rel: 1, Args: args[:1]}, false}, {api.Expr{Op: api.XBetween, Args: args[:2]}, false}, {api.Expr{Op: api.XAnd, Kids: kids[:2]}, true}, {api.Expr{Op: api.XNot, Kids: kids[:0]}, false}, {api.Expr{Op: api.XOr, Kids: kids[:0]}, false},
		{rel(api.RelEq, at("l[2]"), at("l[0]")), false}, {rel(api.RelEq, at("l[1]"), str("low")), true},
	} {
		if got := Holds(l, top, c.x, v); got != c.want {
			t.Error(c, got)
		}
	}
	for _, o := range operands() {
		_ = Datum(l, top, o, at("e"), v)
		_ = Holds(l, top, or(rel(api.RelEq, o, o), alike(o, o)), v)
	}
	if fmt.Sprint(l[:len(l)+1]) != wantL || fmt.Sprint(v, v.Items[:len(v.Items)+1], v.Items[11].Items[:3]) != wantV {
		t.Error("an argument was changed")
	}
	if args[2] != num(2) || !same(kids[2], never()) {
		t.Error(args, kids)
	}
}

// Each call answers by its arguments alone, whatever was called before it.
func TestNothingKept(t *testing.T) {
	l := good()
	m := maker{rand.New(rand.NewSource(194))}
	all := []string{"e = 'red'", "x = 1", "b < TRUE", "%0 = 1", "s LIKE 'a%'", "o = 200 AND e = f", "NOT l[2] = 'low'"}
	for range 50 {
		v, w := here(), m.value(l, top)
		for _, s := range all {
			x := parsed(t, s)
			want, d := Holds(l, top, x, v), Datum(l, top, at("s"), num(1), v)
			for _, u := range all {
				_ = Holds(l, top, parsed(t, u), w)
				_ = Holds(l[:9], 8, parsed(t, u), w)
				_ = Datum(l, top, at("s"), at("e"), w)
				if Holds(l, top, x, v) != want || Datum(l, top, at("s"), num(1), v) != d {
					t.Errorf("%q behind %q", s, u)
				}
			}
		}
	}
}
