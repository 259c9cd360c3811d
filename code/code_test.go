package code

import (
	"fmt"
	"maps"
	"math"
	"math/rand"
	"slices"
	"strconv"
	"strings"
	"testing"
	"unsafe"

	"broadsheet/api"
	"broadsheet/check"
	"broadsheet/expr"
	"broadsheet/path"
	"broadsheet/types"
)

func at(s string) api.Operand { return api.Operand{Kind: api.OPath, Text: s} }

func num(n uint64) api.Operand { return api.Operand{Kind: api.ONum, Num: n} }

func minus(n uint64) api.Operand { return api.Operand{Kind: api.ONum, Neg: true, Num: n} }

func str(s string) api.Operand { return api.Operand{Kind: api.OText, Text: s} }

func boolean(n uint64) api.Operand { return api.Operand{Kind: api.OBool, Num: n} }

func param(n uint64) api.Operand { return api.Operand{Kind: api.OParam, Num: n} }

func test(op, rel int, args ...api.Operand) api.Expr { return api.Expr{Op: op, Rel: rel, Args: args} }

func rel(r int, a, b api.Operand) api.Expr { return test(api.XRel, r, a, b) }

func between(a, b, c api.Operand) api.Expr { return test(api.XBetween, 0, a, b, c) }

func like(a, b api.Operand) api.Expr { return test(api.XLike, 0, a, b) }

func node(op int, kids ...api.Expr) api.Expr { return api.Expr{Op: op, Kids: kids} }

func not(x api.Expr) api.Expr { return node(api.XNot, x) }

func and(kids ...api.Expr) api.Expr { return node(api.XAnd, kids...) }

func or(kids ...api.Expr) api.Expr { return node(api.XOr, kids...) }

// same compares all fields; an empty list may be nil.
func same(a, b api.Expr) bool {
	return a.Op == b.Op && a.Rel == b.Rel && slices.Equal(a.Args, b.Args) && slices.EqualFunc(a.Kids, b.Kids, same)
}

// clone shares no memory with a tree.
func clone(x api.Expr) api.Expr {
	x.Args, x.Kids = slices.Clone(x.Args), slices.Clone(x.Kids)
	for i, k := range x.Kids {
		x.Kids[i] = clone(k)
	}
	return x
}

// equal compares all parts of programs; an empty list may be nil.
func equal(p, q api.Prog) bool {
	return slices.Equal(p.Code, q.Code) && slices.EqualFunc(p.Paths, q.Paths, slices.Equal[[]api.Step]) && slices.Equal(p.Consts, q.Consts)
}

func isZero(p api.Prog) bool { return equal(p, api.Prog{}) }

// copied shares no memory with a program.
func copied(p api.Prog) api.Prog {
	p.Code, p.Consts, p.Paths = slices.Clone(p.Code), slices.Clone(p.Consts), slices.Clone(p.Paths)
	for i, s := range p.Paths {
		p.Paths[i] = slices.Clone(s)
	}
	for i := range p.Consts {
		p.Consts[i].Text = strings.Clone(p.Consts[i].Text)
	}
	return p
}

// brief is what a failed test says of a thing.
func brief(x any) string {
	s := fmt.Sprint(x)
	return s[:min(len(s), 1000)]
}

func parsed(t *testing.T, s string) api.Expr {
	t.Helper()
	x, f := expr.Parse(s)
	if f.Err != api.OK {
		t.Fatalf("%q: %v at %d", s, f.Err, f.At)
	}
	return x
}

// The types of the tests.

// good is a list whose last type has something of each kind.
func good() []api.Type {
	l := make([]api.Type, api.TUint64)
	for i := range l {
		l[i].Kind = i + 1 // TBool is at 0, TUint64 at 7
	}
	return append(l,
		api.Type{Kind: api.TEnum, Name: "Color", Items: []api.Item{{Name: "red", Num: 3}, {Name: "blue", Num: math.MaxUint64}, {Name: "low", Num: 1<<64 - 1<<31}}},
		api.Type{Kind: api.TEnum, Name: "Shade", Items: []api.Item{{Name: "grey", Num: 0}, {Name: "red", Num: 4}, {Name: "high", Num: 1<<31 - 1}}},
		api.Type{Kind: api.TString, Bound: 4},         // 10
		api.Type{Kind: api.TSeq, Bound: 3, Of: 8},     // 11
		api.Type{Kind: api.TArray, Bound: 12, Of: 10}, // 12
		api.Type{Kind: api.TStruct, Name: "In", Items: []api.Item{{Name: "e", Type: 8}, {Name: "n", Type: 2}, {Name: "l", Type: 11}}},    // 13
		api.Type{Kind: api.TUnion, Name: "U", Tag: 9, Items: []api.Item{{Name: "t", Num: 4, Type: 0}, {Name: "s", Rest: true, Type: 9}}}, // 14
		api.Type{Kind: api.TString, Bound: 0}, // 15
		api.Type{Kind: api.TStruct, Name: "Top", Items: []api.Item{
			{Name: "b", Type: 0}, {Name: "o", Type: 1}, {Name: "i", Type: 2}, {Name: "u", Type: 3}, {Name: "ii", Type: 4}, {Name: "uu", Type: 5}, {Name: "iii", Type: 6}, {Name: "uuu", Type: 7},
			{Name: "e", Type: 8}, {Name: "f", Type: 9}, {Name: "s", Type: 10}, {Name: "l", Type: 11}, {Name: "a", Type: 12}, {Name: "in", Type: 13}, {Name: "pick", Type: 14}, {Name: "z", Type: 15},
		}},
	)
}

// top is the last type of good.
const top = 16

func item(n int) api.Step { return api.Step{N: n} }

func elem(n int) api.Step { return api.Step{Elem: true, N: n} }

// steps are the paths of the texts that the tests compare, from top on.
func steps() map[string][]api.Step {
	m := map[string][]api.Step{"in.e": {item(13), item(0)}, "in.n": {item(13), item(1)}, "pick.t": {item(14), item(0)}, "pick.s": {item(14), item(1)}}
	for i, x := range good()[top].Items {
		if i <= 10 || i == 15 {
			m[x.Name] = []api.Step{item(i)}
		}
	}
	for i := range 12 {
		m["a["+strconv.Itoa(i)+"]"] = []api.Step{item(12), elem(i)}
	}
	for i := range 3 {
		m["l["+strconv.Itoa(i)+"]"] = []api.Step{item(11), elem(i)}
		m["in.l["+strconv.Itoa(i)+"]"] = []api.Step{item(13), item(2), elem(i)}
	}
	return m
}

// values are the numbers of the names that a text may be where a path leads to a value of a TEnum.
func values(path string) map[string]int64 {
	switch path {
	case "e", "in.e", "l[0]", "l[1]", "l[2]", "in.l[0]", "in.l[1]", "in.l[2]":
		return map[string]int64{"red": 3, "blue": -1, "low": -1 << 31}
	case "f", "pick.s":
		return map[string]int64{"grey": 0, "red": 4, "high": 1<<31 - 1}
	}
	return nil
}

func isNum(n int64) api.Datum {
	if n < 0 {
		return api.Datum{Kind: api.DNum, Neg: true, Num: -uint64(n)}
	}
	return api.Datum{Kind: api.DNum, Num: uint64(n)}
}

func isText(s string) api.Datum { return api.Datum{Kind: api.DText, Text: s} }

func isTruth(n uint64) api.Datum { return api.Datum{Kind: api.DBool, Num: n} }

func TestGood(t *testing.T) {
	l := good()
	if f := types.Check(l); f.Err != api.OK || len(l) != top+1 {
		t.Fatal(f, len(l))
	}
	for s, want := range steps() {
		if p, _, e := path.Find(l, top, s); !slices.Equal(p, want) || e != api.OK {
			t.Error(s, p, e)
		}
		for name := range values(s) {
			if e := check.Check(l, top, rel(api.RelEq, at(s), str(name))); e != api.OK {
				t.Error(s, name, e)
			}
		}
	}
}

// The model: a program whose instructions have their paths and data themselves, which get their indices at the end.

type line struct {
	op, n int
	path  string
	datum api.Datum
}

func modelOperand(o, other api.Operand) line {
	d := api.Datum{}
	switch o.Kind {
	case api.OPath:
		return line{op: api.IPath, path: o.Text}
	case api.ONum:
		d = api.Datum{Kind: api.DNum, Neg: o.Neg && o.Num > 0, Num: o.Num}
	case api.OBool:
		d = isTruth(o.Num)
	case api.OText:
		d = isText(o.Text)
		if other.Kind == api.OPath {
			if n, ok := values(other.Text)[o.Text]; ok {
				d = isNum(n)
			}
		}
	}
	return line{op: api.IConst, datum: d}
}

func modelTest(op, n int, a, b api.Operand) []line {
	return []line{modelOperand(a, b), modelOperand(b, a), {op: op, n: n}}
}

// modelJoin goes from the last part to the first one, so that what follows a jump is known when the jump is made.
func modelJoin(jump int, parts ...[]line) []line {
	all := parts[len(parts)-1]
	for i := len(parts) - 2; i >= 0; i-- {
		all = slices.Concat(parts[i], []line{{op: jump, n: len(all)}}, all)
	}
	return all
}

func modelTree(x api.Expr) []line {
	var kids [][]line
	for _, k := range x.Kids {
		kids = append(kids, modelTree(k))
	}
	a := x.Args
	switch x.Op {
	case api.XRel:
		return modelTest(3, x.Rel, a[0], a[1])
	case api.XBetween:
		return modelJoin(6, modelTest(3, 6, a[0], a[1]), modelTest(3, 4, a[0], a[2]))
	case api.XLike:
		return modelTest(4, 0, a[0], a[1])
	case api.XNot:
		return append(kids[0], line{op: 5})
	case api.XAnd:
		return modelJoin(6, kids...)
	}
	return modelJoin(7, kids...)
}

// model is the program of a tree that fits top.
func model(x api.Expr) (p api.Prog) {
	var paths []string
	for _, y := range modelTree(x) {
		switch y.op {
		case api.IPath:
			if !slices.Contains(paths, y.path) {
				paths = append(paths, y.path)
				p.Paths = append(p.Paths, steps()[y.path])
			}
			y.n = slices.Index(paths, y.path)
		case api.IConst:
			if !slices.Contains(p.Consts, y.datum) {
				p.Consts = append(p.Consts, y.datum)
			}
			y.n = slices.Index(p.Consts, y.datum)
		}
		p.Code = append(p.Code, api.Instr{Op: y.op, N: y.n})
	}
	return p
}

// Promise 20.1.

func compiled(t *testing.T, x api.Expr) api.Prog {
	t.Helper()
	had := clone(x)
	p, e := Compile(good(), top, x)
	if e != api.OK {
		t.Errorf("%s: %v", brief(x), e)
	}
	if !same(x, had) {
		t.Errorf("%s was changed to %s", brief(had), brief(x))
	}
	return p
}

func wantProg(t *testing.T, x api.Expr, want api.Prog) {
	t.Helper()
	if p := compiled(t, x); !equal(p, want) {
		t.Errorf("%s: %s, want %s", brief(x), brief(p), brief(want))
	}
}

func wantModel(t *testing.T, x api.Expr) {
	t.Helper()
	wantProg(t, x, model(x))
}

func wantNoProg(t *testing.T, l []api.Type, of int, x api.Expr, want api.Errno) {
	t.Helper()
	if p, e := Compile(l, of, x); !isZero(p) || e != want {
		t.Errorf("%s: %s, %v, want %v", brief(x), brief(p), e, want)
	}
}

func TestExample(t *testing.T) {
	l := []api.Type{{Kind: api.TOctet}, {Kind: api.TStruct, Name: "P", Items: []api.Item{{Name: "a"}, {Name: "b"}}}}
	p, e := Compile(l, 1, parsed(t, "a = 1 AND b = 1"))
	want := api.Prog{
		Code:   []api.Instr{{Op: 1, N: 0}, {Op: 2, N: 0}, {Op: 3, N: 1}, {Op: 6, N: 3}, {Op: 1, N: 1}, {Op: 2, N: 0}, {Op: 3, N: 1}},
		Paths:  [][]api.Step{{item(0)}, {item(1)}},
		Consts: []api.Datum{isNum(1)},
	}
	if !equal(p, want) || e != api.OK {
		t.Error(p, e)
	}
	if s := Text(p); s != "path 0\nconst 0\nrel 1\njumpf 3\npath 1\nconst 0\nrel 1\n" {
		t.Error(s)
	}
}

// lines are instructions as the lines of their text, but with commas between them.
func lines(p api.Prog) string {
	return strings.TrimSuffix(strings.ReplaceAll(Text(p), "\n", ", "), ", ")
}

func TestPrograms(t *testing.T) {
	for _, c := range []struct {
		s, code string
		paths   []string
		consts  []api.Datum
	}{
		{"o = 1", "path 0, const 0, rel 1", []string{"o"}, []api.Datum{isNum(1)}},
		{"1 = o", "const 0, path 0, rel 1", []string{"o"}, []api.Datum{isNum(1)}},
		{"o <> i", "path 0, path 1, rel 2", []string{"o", "i"}, nil},
		{"i < i", "path 0, path 0, rel 3", []string{"i"}, nil},
		{"1 <= 2", "const 0, const 1, rel 4", nil, []api.Datum{isNum(1), isNum(2)}},
		{"'a' > 'a'", "const 0, const 0, rel 5", nil, []api.Datum{isText("a")}},
		{"-5 >= uuu", "const 0, path 0, rel 6", []string{"uuu"}, []api.Datum{isNum(-5)}},
		{"b = TRUE", "path 0, const 0, rel 1", []string{"b"}, []api.Datum{isTruth(1)}},
		{"FALSE <> pick.t", "const 0, path 0, rel 2", []string{"pick.t"}, []api.Datum{isTruth(0)}},
		{"s LIKE 'x%'", "path 0, const 0, like 0", []string{"s"}, []api.Datum{isText("x%")}},
		{"'x%' LIKE s", "const 0, path 0, like 0", []string{"s"}, []api.Datum{isText("x%")}},
		{"'x' LIKE 'x'", "const 0, const 0, like 0", nil, []api.Datum{isText("x")}},
		{"a[11] LIKE z", "path 0, path 1, like 0", []string{"a[11]", "z"}, nil},
		{"NOT o = 1", "path 0, const 0, rel 1, not 0", []string{"o"}, []api.Datum{isNum(1)}},
		{"NOT NOT NOT o = 1", "path 0, const 0, rel 1, not 0, not 0, not 0", []string{"o"}, []api.Datum{isNum(1)}},
		{"o BETWEEN 1 AND 2", "path 0, const 0, rel 6, jumpf 3, path 0, const 1, rel 4", []string{"o"}, []api.Datum{isNum(1), isNum(2)}},
		{"1 BETWEEN o AND i", "const 0, path 0, rel 6, jumpf 3, const 0, path 1, rel 4", []string{"o", "i"}, []api.Datum{isNum(1)}},
		{"o NOT BETWEEN 1 AND 1", "path 0, const 0, rel 6, jumpf 3, path 0, const 0, rel 4, not 0", []string{"o"}, []api.Datum{isNum(1)}},
		{"o BETWEEN 1 AND 2 AND i = 2", "path 0, const 0, rel 6, jumpf 3, path 0, const 1, rel 4, jumpf 3, path 1, const 1, rel 1", []string{"o", "i"}, []api.Datum{isNum(1), isNum(2)}},
		{"i = 2 OR o BETWEEN 1 AND 2", "path 0, const 0, rel 1, jumpt 7, path 1, const 1, rel 6, jumpf 3, path 1, const 0, rel 4", []string{"i", "o"}, []api.Datum{isNum(2), isNum(1)}},
		{"o = 1 AND o = 2 AND o = 3", "path 0, const 0, rel 1, jumpf 7, path 0, const 1, rel 1, jumpf 3, path 0, const 2, rel 1", []string{"o"}, []api.Datum{isNum(1), isNum(2), isNum(3)}},
		{"o = 1 OR o = 2 OR o = 3 OR o = 4", "path 0, const 0, rel 1, jumpt 11, path 0, const 1, rel 1, jumpt 7, path 0, const 2, rel 1, jumpt 3, path 0, const 3, rel 1", []string{"o"}, []api.Datum{isNum(1), isNum(2), isNum(3), isNum(4)}},
		{"o = 1 AND (o = 2 OR o = 3) AND o = 4", "path 0, const 0, rel 1, jumpf 11, path 0, const 1, rel 1, jumpt 3, path 0, const 2, rel 1, jumpf 3, path 0, const 3, rel 1", []string{"o"}, []api.Datum{isNum(1), isNum(2), isNum(3), isNum(4)}},
		{"o = 1 AND (o = 2 AND o = 3)", "path 0, const 0, rel 1, jumpf 7, path 0, const 1, rel 1, jumpf 3, path 0, const 2, rel 1", []string{"o"}, []api.Datum{isNum(1), isNum(2), isNum(3)}},
		{"(o = 1 AND o = 2) AND o = 3", "path 0, const 0, rel 1, jumpf 3, path 0, const 1, rel 1, jumpf 3, path 0, const 2, rel 1", []string{"o"}, []api.Datum{isNum(1), isNum(2), isNum(3)}},
		{"NOT (o = 1 OR NOT o = 2) OR b = FALSE", "path 0, const 0, rel 1, jumpt 4, path 0, const 1, rel 1, not 0, not 0, jumpt 3, path 1, const 2, rel 1", []string{"o", "b"}, []api.Datum{isNum(1), isNum(2), isTruth(0)}},
		{"e = 'red' AND f = 'red' AND s = 'red'", "path 0, const 0, rel 1, jumpf 7, path 1, const 1, rel 1, jumpf 3, path 2, const 2, rel 1", []string{"e", "f", "s"}, []api.Datum{isNum(3), isNum(4), isText("red")}},
		{"'blue' = e OR i = -1", "const 0, path 0, rel 1, jumpt 3, path 1, const 0, rel 1", []string{"e", "i"}, []api.Datum{isNum(-1)}},
		{"o = 3 OR 'red' = in.l[2]", "path 0, const 0, rel 1, jumpt 3, const 0, path 1, rel 1", []string{"o", "in.l[2]"}, []api.Datum{isNum(3)}},
		{"pick.s < 'high' AND uu = 2147483647", "path 0, const 0, rel 3, jumpf 3, path 1, const 0, rel 1", []string{"pick.s", "uu"}, []api.Datum{isNum(1<<31 - 1)}},
		{"in.e BETWEEN 'low' AND 'blue'", "path 0, const 0, rel 6, jumpf 3, path 0, const 1, rel 4", []string{"in.e"}, []api.Datum{isNum(-1 << 31), isNum(-1)}},
		{"'red' BETWEEN e AND f", "const 0, path 0, rel 6, jumpf 3, const 1, path 1, rel 4", []string{"e", "f"}, []api.Datum{isNum(3), isNum(4)}},
		{"'red' BETWEEN s AND e", "const 0, path 0, rel 6, jumpf 3, const 1, path 1, rel 4", []string{"s", "e"}, []api.Datum{isText("red"), isNum(3)}},
		{"'red' = 'red' AND e = 'red'", "const 0, const 0, rel 1, jumpf 3, path 0, const 1, rel 1", []string{"e"}, []api.Datum{isText("red"), isNum(3)}},
		{"i = 0 AND i = -0 AND f = 'grey'", "path 0, const 0, rel 1, jumpf 7, path 0, const 0, rel 1, jumpf 3, path 1, const 0, rel 1", []string{"i", "f"}, []api.Datum{isNum(0)}},
		{"i = 1 AND i = -1 AND b = TRUE AND s = '1'", "path 0, const 0, rel 1, jumpf 11, path 0, const 1, rel 1, jumpf 7, path 1, const 2, rel 1, jumpf 3, path 2, const 3, rel 1", []string{"i", "b", "s"}, []api.Datum{isNum(1), isNum(-1), isTruth(1), isText("1")}},
		{"i = 0 AND b = FALSE AND s = ''", "path 0, const 0, rel 1, jumpf 7, path 1, const 1, rel 1, jumpf 3, path 2, const 2, rel 1", []string{"i", "b", "s"}, []api.Datum{isNum(0), isTruth(0), isText("")}},
		{"s = 's' AND 's' = s", "path 0, const 0, rel 1, jumpf 3, const 0, path 0, rel 1", []string{"s"}, []api.Datum{isText("s")}},
		{"a[1] = a[10] AND a[0] = a[1]", "path 0, path 1, rel 1, jumpf 3, path 2, path 0, rel 1", []string{"a[1]", "a[10]", "a[0]"}, nil},
		{"in . l [ 1 ] = l[1] OR in.l[1] = e", "path 0, path 1, rel 1, jumpt 3, path 0, path 2, rel 1", []string{"in.l[1]", "l[1]", "e"}, nil},
		{"in.n = -18446744073709551615", "path 0, const 0, rel 1", []string{"in.n"}, []api.Datum{{Kind: api.DNum, Neg: true, Num: math.MaxUint64}}},
		{"s LIKE 'x' AND 's' LIKE s AND s = 'x'", "path 0, const 0, like 0, jumpf 7, const 1, path 0, like 0, jumpf 3, path 0, const 0, rel 1", []string{"s"}, []api.Datum{isText("x"), isText("s")}},
	} {
		p := compiled(t, parsed(t, c.s))
		want := api.Prog{Code: p.Code, Consts: c.consts}
		for _, s := range c.paths {
			want.Paths = append(want.Paths, steps()[s])
		}
		if got := lines(p); got != c.code || !equal(p, want) {
			t.Errorf("%q: %s %v %v, want %s %v %v", c.s, got, p.Paths, p.Consts, c.code, want.Paths, want.Consts)
		}
		wantModel(t, parsed(t, c.s))
	}
}

// operands are such as may be compared, of each sort.
func operands() []api.Operand {
	var l []api.Operand
	for _, s := range slices.Sorted(maps.Keys(steps())) {
		l = append(l, at(s))
	}
	return append(l,
		num(0), num(1), num(3), num(200), num(1<<63), num(math.MaxUint64), minus(0), minus(1), minus(1<<63), minus(math.MaxUint64), boolean(0), boolean(1), boolean(2), boolean(math.MaxUint64),
		str(""), str("red"), str("blue"), str("grey"), str("high"), str("e"), str("s%"), str("it's"), str("\x00\xff"))
}

// wrong are operands that fit nowhere.
func wrong() []api.Operand {
	return []api.Operand{{}, param(0), {Kind: 6, Text: "o"}, {Kind: -1}, {Kind: math.MaxInt}, {Kind: math.MinInt}, at(""), at("x"), at("in"), at("l"), at("a"), at("pick"), at("l[3]"), at("o.o"), at("s[0]"), at("[0]"), at(" o"), at("in . e"), at("l[01]")}
}

// fits wants the program of the model where a tree fits, and the error where it does not; it tells whether it fits.
func fits(t *testing.T, x api.Expr) bool {
	t.Helper()
	if e := check.Check(good(), top, x); e != api.OK {
		wantNoProg(t, good(), top, x, e)
		return false
	}
	wantModel(t, x)
	return true
}

func TestEachPair(t *testing.T) {
	l := append(operands(), wrong()...)
	n := map[bool]int{}
	for _, a := range l {
		for _, b := range l {
			for _, r := range []int{1, 2, 3, 6} {
				n[fits(t, rel(r, a, b))]++
			}
			n[fits(t, like(a, b))]++
		}
	}
	if n[true] < 3000 || n[false] < 3000 {
		t.Error(n)
	}
}

func TestEachRelation(t *testing.T) {
	for r := -2; r <= 10; r++ {
		x := rel(r, at("o"), num(7))
		if r < 1 || r > 6 {
			wantNoProg(t, good(), top, x, api.ErrForm)
			continue
		}
		wantProg(t, x, api.Prog{Code: []api.Instr{{Op: 1}, {Op: 2}, {Op: 3, N: r}}, Paths: [][]api.Step{{item(1)}}, Consts: []api.Datum{isNum(7)}})
	}
	for _, r := range []int{math.MaxInt, math.MinInt} {
		wantNoProg(t, good(), top, rel(r, at("o"), num(7)), api.ErrForm)
	}
}

func TestEachTriple(t *testing.T) {
	l := []api.Operand{at("o"), at("iii"), num(0), minus(0), at("b"), boolean(1), at("s"), at("a[3]"), str("red"), str("low"), str("s"), at("e"), at("in.l[0]"), at("f"), param(0), at("x")}
	n := map[bool]int{}
	for _, a := range l {
		for _, b := range l {
			for _, c := range l {
				n[fits(t, between(a, b, c))]++
			}
		}
	}
	if n[true] < 250 || n[false] < 3000 {
		t.Error(n)
	}
}

// Fields that an Op does not use have no say.
func TestOtherFields(t *testing.T) {
	r, n := rel(api.RelEq, at("o"), num(1)), num(1)
	for _, k := range []int{1, 6, 7, -1, math.MaxInt} {
		like, between, no, all, any := like(at("s"), at("z")), between(at("o"), n, n), not(r), and(r, r), or(r, r)
		for _, x := range []*api.Expr{&like, &between, &no, &all, &any} {
			want := compiled(t, *x)
			x.Rel = k
			wantProg(t, *x, want)
		}
	}
	want := compiled(t, rel(api.RelEq, at("o"), minus(0)))
	wantProg(t, rel(api.RelEq, api.Operand{Kind: api.OPath, Text: "o", Neg: true, Num: 7}, api.Operand{Kind: api.ONum, Text: "o"}), want)
	x := and(rel(api.RelEq, at("o"), at("i")), rel(api.RelEq, api.Operand{Kind: api.OPath, Text: "i", Neg: true}, api.Operand{Kind: api.OPath, Text: "o", Num: 1}))
	if p := compiled(t, x); lines(p) != "path 0, path 1, rel 1, jumpf 3, path 1, path 0, rel 1" || len(p.Paths) != 2 {
		t.Error(p)
	}
	x = or(rel(api.RelEq, at("s"), str("x")), rel(api.RelEq, at("s"), api.Operand{Kind: api.OText, Text: "x", Neg: true, Num: 5}))
	if p := compiled(t, x); lines(p) != "path 0, const 0, rel 1, jumpt 3, path 0, const 0, rel 1" || len(p.Consts) != 1 {
		t.Error(p)
	}
}

func TestEachShape(t *testing.T) {
	n := map[bool]int{}
	for op := -1; op <= 8; op++ {
		for args := range 5 {
			for kids := range 6 {
				x := api.Expr{Op: op, Rel: 1, Args: slices.Repeat([]api.Operand{at("s")}, args)}
				for i := range kids {
					x.Kids = append(x.Kids, rel(api.RelEq, at("o"), num(uint64(i))))
				}
				n[fits(t, x)]++
				fits(t, not(x))
				fits(t, and(rel(api.RelEq, at("o"), at("i")), x, x))
			}
		}
	}
	if n[true] != 12 { // three kinds of tests, NOT, and four numbers of Kids of AND and OR
		t.Error(n)
	}
}

func TestErrors(t *testing.T) {
	l := good()
	for s, want := range map[string]api.Errno{
		"o = 's'": api.ErrType, "s LIKE 1": api.ErrType, "e LIKE 'red'": api.ErrType, "e = 'grey'": api.ErrName, "b < TRUE": api.ErrKind, "x = 1": api.ErrName, "l[3] = 'red'": api.ErrRange, "o.o = 1": api.ErrKind, "in = 1": api.ErrType, "o = %0": api.ErrNone,
		"o = 1 AND x = 1": api.ErrName, "e = 'grey' OR o = 's'": api.ErrName, "NOT (o = 1 OR NOT b > FALSE)": api.ErrKind, "o BETWEEN 1 AND 'x'": api.ErrType, "e BETWEEN 'red' AND 'x'": api.ErrName,
	} {
		wantNoProg(t, l, top, parsed(t, s), want)
	}
	wantNoProg(t, l, top, api.Expr{}, api.ErrForm)
	wantNoProg(t, l, top, and(), api.ErrForm)
	wantNoProg(t, l, top, and(rel(api.RelEq, at("o"), num(1))), api.ErrForm)
	wantNoProg(t, l, top, or(rel(api.RelEq, at("o"), num(1)), api.Expr{}), api.ErrForm)
	x := rel(api.RelEq, at("o"), num(1))
	for _, i := range []int{-1, top + 1, math.MaxInt, math.MinInt} {
		wantNoProg(t, l, i, x, api.ErrType)
		wantNoProg(t, l, i, api.Expr{}, api.ErrType)
	}
	wantNoProg(t, nil, 0, x, api.ErrType)
	wantNoProg(t, nil, -1, x, api.ErrType)
	wantNoProg(t, l[:top], top, x, api.ErrType)
	for _, bad := range []api.Type{{}, {Kind: 15}, {Kind: -1}, {Kind: api.TSeq, Bound: 1, Of: 17}, {Kind: api.TEnum, Name: "Color", Items: []api.Item{{Name: "a"}}}} {
		wantNoProg(t, append(good(), bad), top, x, api.ErrType)
	}
}

func TestOtherTypes(t *testing.T) {
	l := good()
	for i := range l {
		p, e := Compile(l, i, parsed(t, "1 = 2 OR 'a' LIKE 'a'"))
		if want := (api.Prog{Code: []api.Instr{{Op: 2, N: 0}, {Op: 2, N: 1}, {Op: 3, N: 1}, {Op: 7, N: 3}, {Op: 2, N: 2}, {Op: 2, N: 2}, {Op: 4}}, Consts: []api.Datum{isNum(1), isNum(2), isText("a")}}); !equal(p, want) || e != api.OK {
			t.Error(i, p, e)
		}
	}
	for _, c := range []struct {
		t    int
		x    api.Expr
		want api.Prog
	}{
		{11, rel(2, at("[2]"), str("low")), api.Prog{Code: []api.Instr{{Op: 1}, {Op: 2}, {Op: 3, N: 2}}, Paths: [][]api.Step{{elem(2)}}, Consts: []api.Datum{isNum(-1 << 31)}}},
		{12, like(at("[11]"), at("[0]")), api.Prog{Code: []api.Instr{{Op: 1}, {Op: 1, N: 1}, {Op: 4}}, Paths: [][]api.Step{{elem(11)}, {elem(0)}}}},
		{13, rel(3, str("red"), at("l[0]")), api.Prog{Code: []api.Instr{{Op: 2}, {Op: 1}, {Op: 3, N: 3}}, Paths: [][]api.Step{{item(2), elem(0)}}, Consts: []api.Datum{isNum(3)}}},
		{14, rel(4, at("s"), str("red")), api.Prog{Code: []api.Instr{{Op: 1}, {Op: 2}, {Op: 3, N: 4}}, Paths: [][]api.Step{{item(1)}}, Consts: []api.Datum{isNum(4)}}},
	} {
		if p, e := Compile(l, c.t, c.x); !equal(p, c.want) || e != api.OK {
			t.Error(c.t, p, e)
		}
	}
}

type maker struct{ *rand.Rand }

func one[T any](m maker, l ...T) T { return l[m.Intn(len(l))] }

// groups are operands that can often be compared with one another.
func groups() [][]api.Operand {
	paths := func(l ...string) (o []api.Operand) {
		for _, s := range l {
			o = append(o, at(s))
		}
		return o
	}
	return [][]api.Operand{
		append(paths("o", "i", "u", "ii", "uu", "iii", "uuu", "in.n"), num(0), num(1), minus(0), minus(1), num(3), num(4), num(1<<63), minus(1<<63)),
		append(paths("s", "z", "a[0]", "a[3]", "a[11]"), str(""), str("a"), str("%a%"), str("red"), str("low")),
		paths("e", "l[0]", "l[2]", "in.e", "in.l[1]"),
		append(paths("e", "in.l[2]", "e", "in.e", "l[1]", "in.l[1]"), str("red")),
		append(paths("f", "pick.s", "f"), str("high")),
	}
}

// test is a test of a filter, whose operands can often be compared.
func (m maker) test() api.Expr {
	all := groups()
	group := one(m, all...)
	operand := func() api.Operand { return one(m, group...) }
	switch m.Intn(8) {
	case 0:
		group = all[1]
		return like(operand(), operand())
	case 1, 2:
		return between(operand(), operand(), operand())
	case 3:
		return rel(1+m.Intn(2), one(m, at("b"), at("pick.t")), one(m, boolean(0), boolean(1), at("b")))
	}
	return rel(1+m.Intn(6), operand(), operand())
}

// tree is a tree of a filter.
func (m maker) tree(n int) api.Expr {
	if n == 0 || m.Intn(4) == 0 {
		return m.test()
	}
	if m.Intn(4) == 0 {
		return not(m.tree(n - 1))
	}
	x := node(one(m, api.XAnd, api.XOr))
	for range 2 + m.Intn(4)/2*m.Intn(4) {
		x.Kids = append(x.Kids, m.tree(m.Intn(n)))
	}
	return x
}

// fitting is a tree that fits top.
func (m maker) fitting(n int) api.Expr {
	for {
		if x := m.tree(n); check.Check(good(), top, x) == api.OK {
			return x
		}
	}
}

// nodes are a tree's expressions.
func nodes(x *api.Expr) []*api.Expr {
	l := []*api.Expr{x}
	for i := range x.Kids {
		l = append(l, nodes(&x.Kids[i])...)
	}
	return l
}

// spoil changes one expression of a tree, mostly so that no filter has it.
func (m maker) spoil(x *api.Expr) {
	y := one(m, nodes(x)...)
	switch m.Intn(7) {
	case 0:
		y.Op = m.Intn(9) - 1
	case 1:
		y.Rel = m.Intn(9) - 1
	case 2:
		y.Args = append(y.Args, num(1))
	case 3:
		y.Kids = append(y.Kids, m.test())
	case 4:
		y.Args = y.Args[:len(y.Args)/2]
	case 5:
		y.Kids = y.Kids[:len(y.Kids)/2]
	case 6:
		if len(y.Args) > 0 {
			y.Args[m.Intn(len(y.Args))] = one(m, wrong()...)
		}
	}
}

func TestRandomTrees(t *testing.T) {
	m := maker{rand.New(rand.NewSource(20))}
	n := map[bool]int{}
	for range 3000 {
		x := m.fitting(1 + m.Intn(5))
		wantModel(t, x)
		m.spoil(&x)
		n[fits(t, x)]++
	}
	if n[true] < 300 || n[false] < 1000 {
		t.Error(n)
	}
}

// The nesting of a text's parentheses has no say, only its tree.
func TestParentheses(t *testing.T) {
	for _, s := range []string{"o = 1", "s LIKE 'x' AND o = 1", "NOT o = 1 OR i = 2", "o BETWEEN 1 AND 2 AND b = TRUE"} {
		want := compiled(t, parsed(t, s))
		wantProg(t, parsed(t, "(("+s+"))"), want)
	}
}

// A bound parameter is compiled as its literal.
func TestParams(t *testing.T) {
	x, e := check.Bind(parsed(t, "o > %0 AND e = %1 OR NOT s LIKE %2"), []string{"-7", "'red'", "'red'"})
	if e != api.OK {
		t.Fatal(e)
	}
	wantProg(t, x, compiled(t, parsed(t, "o > -7 AND e = 'red' OR NOT s LIKE 'red'")))
}

// Promise 20.2.

func TestText(t *testing.T) {
	for op, word := range map[int]string{
		1: "path", 2: "const", 3: "rel", 4: "like", 5: "not", 6: "jumpf", 7: "jumpt",
		0: "none", -1: "none", 8: "none", 9: "none", 257: "none", 1 << 32: "none", 1<<32 + 1: "none", math.MaxInt: "none", math.MinInt: "none",
	} {
		for n, digits := range map[int]string{0: "0", 1: "1", -1: "-1", 9: "9", 10: "10", -10: "-10", 1000: "1000", 1234567: "1234567", math.MaxInt: "9223372036854775807", math.MinInt: "-9223372036854775808"} {
			want := word + " " + digits + "\n"
			code := []api.Instr{{Op: op, N: n}}
			if s := Text(api.Prog{Code: code}); s != want {
				t.Errorf("%d %d: %q", op, n, s)
			}
			if s := Text(api.Prog{Code: slices.Repeat(code, 3)}); s != want+want+want {
				t.Errorf("%d %d: %q", op, n, s)
			}
		}
	}
}

func TestTextOfAll(t *testing.T) {
	p := api.Prog{Code: []api.Instr{{Op: 7, N: 2}, {Op: 1, N: -5}, {}, {Op: 5, N: 3}, {Op: 4}, {Op: 3, N: 99}, {Op: 2, N: 12}, {Op: 6, N: -1}}}
	want := "jumpt 2\npath -5\nnone 0\nnot 3\nlike 0\nrel 99\nconst 12\njumpf -1\n"
	if s := Text(p); s != want {
		t.Errorf("%q", s)
	}
	// Paths and constants have no say, nor has what lies behind the end of the instructions.
	p.Paths, p.Consts = [][]api.Step{{elem(3)}, nil}, []api.Datum{isText("x\n")}
	had := copied(p)
	if s := Text(p); s != want || !equal(p, had) {
		t.Errorf("%q", s)
	}
	p.Code = p.Code[:2]
	if s := Text(p); s != "jumpt 2\npath -5\n" {
		t.Errorf("%q", s)
	}
}

func TestTextOfNothing(t *testing.T) {
	for _, p := range []api.Prog{{}, {Code: []api.Instr{}}, {Paths: [][]api.Step{{elem(1)}}, Consts: []api.Datum{isNum(1)}}} {
		if s := Text(p); s != "" {
			t.Errorf("%q", s)
		}
	}
}

// Promise 20.3.

// wantSound wants of a program what is promised of those of trees.
func wantSound(t *testing.T, p api.Prog) {
	t.Helper()
	usedPaths, usedConsts := make([]bool, len(p.Paths)), make([]bool, len(p.Consts))
	for i, x := range p.Code {
		switch x.Op {
		case api.IPath:
			usedPaths[x.N] = true
		case api.IConst:
			usedConsts[x.N] = true
		case api.IJumpF, api.IJumpT:
			if x.N < 1 || i+1+x.N > len(p.Code) {
				t.Errorf("jump at %d of %s", i, brief(p))
			}
		}
	}
	if slices.Contains(usedPaths, false) || slices.Contains(usedConsts, false) {
		t.Errorf("unused: %s", brief(p))
	}
	for i, s := range p.Paths {
		if slices.ContainsFunc(p.Paths[:i], func(q []api.Step) bool { return slices.Equal(q, s) }) {
			t.Errorf("%v twice in %s", s, brief(p))
		}
	}
	for i, d := range p.Consts {
		if slices.Contains(p.Consts[:i], d) {
			t.Errorf("%v twice in %s", d, brief(p))
		}
	}
}

func TestConsequences(t *testing.T) {
	m := maker{rand.New(rand.NewSource(203))}
	jumps := 0
	for range 2000 {
		x := m.fitting(1 + m.Intn(6))
		for _, y := range []api.Expr{x, not(x), and(x, x), or(not(x), x, m.test())} {
			p, e := Compile(good(), top, y)
			if e != api.OK {
				continue
			}
			wantSound(t, p)
			jumps += strings.Count(Text(p), "jump")
		}
	}
	if jumps < 20000 {
		t.Error(jumps)
	}
}

// The rules that hold everywhere.

func tower(x api.Expr, n int) api.Expr {
	for range n {
		x = not(x)
	}
	return x
}

// No call has a bound on a tree or a program.
func TestLargeTrees(t *testing.T) {
	const n = 1 << 14
	p := compiled(t, tower(rel(api.RelEq, at("o"), num(200)), n))
	if want := "path 0\nconst 0\nrel 1\n" + strings.Repeat("not 0\n", n); Text(p) != want {
		t.Error(len(p.Code))
	}
	// An AND of many tests, each with a datum of its own.
	var kids []api.Expr
	for i := range n {
		kids = append(kids, rel(api.RelNe, at("o"), num(uint64(i/2))))
	}
	p = compiled(t, and(kids...))
	if len(p.Code) != 4*n-1 || len(p.Paths) != 1 || len(p.Consts) != n/2 {
		t.Fatal(len(p.Code), len(p.Paths), len(p.Consts))
	}
	for i := range n {
		at := 4 * i
		if p.Code[at] != (api.Instr{Op: 1}) || p.Code[at+1] != (api.Instr{Op: 2, N: i / 2}) || p.Code[at+2] != (api.Instr{Op: 3, N: 2}) || p.Consts[i/2] != isNum(int64(i/2)) {
			t.Fatal(i, p.Code[at:at+3])
		}
		if i < n-1 && p.Code[at+3] != (api.Instr{Op: 6, N: len(p.Code) - at - 4}) {
			t.Fatal(i, p.Code[at+3])
		}
	}
	// ORs within one another.
	x, y := rel(api.RelEq, at("o"), num(1)), rel(api.RelEq, at("o"), num(2))
	for range n {
		x = or(y, x)
	}
	p = compiled(t, x)
	for i := range n {
		if p.Code[4*i+3] != (api.Instr{Op: 7, N: len(p.Code) - 4*i - 4}) {
			t.Fatal(i, p.Code[4*i+3])
		}
	}
	long := strings.Repeat("x", 1<<20)
	wantModel(t, like(at("s"), str(long)))
	wantNoProg(t, good(), top, rel(api.RelEq, at(long), num(1)), api.ErrName)
	wantNoProg(t, good(), top, rel(api.RelEq, at("e"), str(long)), api.ErrName)
}

func TestManyPaths(t *testing.T) {
	l := []api.Type{{Kind: api.TOctet}, {Kind: api.TArray, Bound: 20, Of: 0}, {Kind: api.TSeq, Bound: 20, Of: 1}}
	var kids []api.Expr
	var want [][]api.Step
	for i := range 20 {
		for j := range 20 {
			kids = append(kids, rel(api.RelEq, at("["+strconv.Itoa(i)+"]["+strconv.Itoa(j)+"]"), at("[0]["+strconv.Itoa(j)+"]")))
			want = append(want, []api.Step{elem(i), elem(j)})
		}
	}
	p, e := Compile(l, 2, or(kids...))
	if e != api.OK || !equal(api.Prog{Paths: p.Paths}, api.Prog{Paths: want}) || len(p.Consts) != 0 {
		t.Fatal(len(p.Paths), e)
	}
	for i := range kids {
		if p.Code[4*i] != (api.Instr{Op: 1, N: i}) || p.Code[4*i+1] != (api.Instr{Op: 1, N: i % 20}) {
			t.Fatal(i, p.Code[4*i:4*i+2])
		}
	}
}

func share(a, b string) bool {
	if a == "" || b == "" {
		return false
	}
	from, to := uintptr(unsafe.Pointer(unsafe.StringData(a))), uintptr(unsafe.Pointer(unsafe.StringData(b)))
	return from < to+uintptr(len(b)) && to < from+uintptr(len(a))
}

func TestNewMemory(t *testing.T) {
	a, b := strings.Clone("some text"), strings.Clone("other text")
	x := and(rel(api.RelEq, at("s"), str(a)), like(str(b), at("s")), not(between(str(a), at("s"), at("z"))), rel(api.RelEq, at("in.l[1]"), at("in.l[2]")))
	had := clone(x)
	p := compiled(t, x)
	want := copied(p)
	for _, d := range p.Consts {
		if share(d.Text, a) || share(d.Text, b) {
			t.Errorf("%q shares memory with the tree", d.Text)
		}
	}
	for _, y := range nodes(&x) {
		y.Op, y.Rel = 99, 99
		for i := range y.Args {
			y.Args[i] = api.Operand{Kind: 99}
		}
	}
	if !equal(p, want) {
		t.Error("a changed argument changes the result")
	}
	// Neither does a changed result change another one, or a list of it another list.
	q := compiled(t, had)
	for i := range p.Paths {
		_ = append(p.Paths[i], elem(97))
		for j := range p.Paths[i] {
			p.Paths[i][j] = elem(99)
		}
		if !equal(api.Prog{Paths: p.Paths[i+1:]}, api.Prog{Paths: want.Paths[i+1:]}) {
			t.Errorf("path %d shares memory with others", i)
		}
	}
	for i := range p.Code {
		p.Code[i] = api.Instr{Op: 99}
	}
	for i := range p.Consts {
		p.Consts[i] = api.Datum{Kind: 99}
	}
	if !equal(q, want) {
		t.Error("a changed result changes another one")
	}
	wantProg(t, had, want)
}

// What lies behind the end of a list is neither read nor written.
func TestArgumentsStay(t *testing.T) {
	l := append(good(), api.Type{Kind: 99})[:top+1]
	args := []api.Operand{at("o"), num(1), param(7)}
	kids := []api.Expr{test(api.XRel, 1, args[:2]...), {Op: api.XRel, Rel: 2, Args: args[:2]}, {Op: 99}}
	wantL, wantX := fmt.Sprint(l[:top+2]), fmt.Sprint(args, kids)
	p, e := Compile(l, top, api.Expr{Op: api.XAnd, Kids: kids[:2]})
	if lines(p) != "path 0, const 0, rel 1, jumpf 3, path 0, const 0, rel 2" || e != api.OK {
		t.Error(p, e)
	}
	if p, e = Compile(l, top, api.Expr{Op: api.XRel, Rel: 1, Args: args[:2], Kids: kids[:0]}); lines(p) != "path 0, const 0, rel 1" || e != api.OK {
		t.Error(p, e)
	}
	for _, s := range []string{"e BETWEEN 'red' AND 'low'", "NOT l[1] = e", "x = 1", "'red' = f OR s LIKE 'a'"} {
		_, _ = Compile(l, top, parsed(t, s))
	}
	if fmt.Sprint(l[:top+2]) != wantL || fmt.Sprint(args, kids) != wantX {
		t.Error("an argument was changed")
	}
}

// Each call answers by its arguments alone, whatever was called before it.
func TestNothingKept(t *testing.T) {
	l, m := good(), maker{rand.New(rand.NewSource(204))}
	short := []api.Type{{Kind: api.TOctet}, {Kind: api.TStruct, Name: "P", Items: []api.Item{{Name: "i"}, {Name: "o"}}}}
	all := []string{"e = 'red'", "x = 1", "o = 1", "i = 1 AND o = 2", "b < TRUE", "s LIKE 'a%'", "NOT l[2] = 'low' OR e = f"}
	for range 20 {
		x := m.fitting(3)
		want := model(x)
		for _, s := range all {
			_, _ = Compile(l, top, parsed(t, s))
			_, _ = Compile(short, 1, parsed(t, s))
			_ = Text(want)
			wantProg(t, x, want)
		}
	}
}
