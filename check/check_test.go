package check

import (
	"fmt"
	"maps"
	"math"
	"math/rand"
	"slices"
	"strconv"
	"strings"
	"testing"
	"unsafe"

	"broadsheet/api"
	"broadsheet/expr"
	"broadsheet/path"
	"broadsheet/types"
)

func at(s string) api.Operand { return api.Operand{Kind: api.OPath, Text: s} }

func num(n uint64) api.Operand { return api.Operand{Kind: api.ONum, Num: n} }

func minus(n uint64) api.Operand { return api.Operand{Kind: api.ONum, Neg: true, Num: n} }

func str(s string) api.Operand { return api.Operand{Kind: api.OText, Text: s} }

func boolean(n uint64) api.Operand { return api.Operand{Kind: api.OBool, Num: n} }

func param(n uint64) api.Operand { return api.Operand{Kind: api.OParam, Num: n} }

func test(op, rel int, args ...api.Operand) api.Expr { return api.Expr{Op: op, Rel: rel, Args: args} }

func rel(r int, a, b api.Operand) api.Expr { return test(api.XRel, r, a, b) }

func between(a, b, c api.Operand) api.Expr { return test(api.XBetween, 0, a, b, c) }

func like(a, b api.Operand) api.Expr { return test(api.XLike, 0, a, b) }

func node(op int, kids ...api.Expr) api.Expr { return api.Expr{Op: op, Kids: kids} }

func not(x api.Expr) api.Expr { return node(api.XNot, x) }

func and(kids ...api.Expr) api.Expr { return node(api.XAnd, kids...) }

func or(kids ...api.Expr) api.Expr { return node(api.XOr, kids...) }

// same compares all fields; an empty list may be nil.
func same(a, b api.Expr) bool {
	return a.Op == b.Op && a.Rel == b.Rel && slices.Equal(a.Args, b.Args) && slices.EqualFunc(a.Kids, b.Kids, same)
}

func isZero(x api.Expr) bool {
	return x.Op == 0 && x.Rel == 0 && len(x.Args) == 0 && len(x.Kids) == 0
}

// clone shares no memory with a tree.
func clone(x api.Expr) api.Expr {
	x.Args, x.Kids = slices.Clone(x.Args), slices.Clone(x.Kids)
	for i, k := range x.Kids {
		x.Kids[i] = clone(k)
	}
	return x
}

// brief is what a failed test says of a thing.
func brief(x any) string {
	s := fmt.Sprint(x)
	return s[:min(len(s), 1000)]
}

func parsed(t *testing.T, s string) api.Expr {
	t.Helper()
	x, f := expr.Parse(s)
	if f.Err != api.OK {
		t.Fatalf("%q: %v at %d", s, f.Err, f.At)
	}
	return x
}

// Promise 18.1.

func wantBind(t *testing.T, x api.Expr, params []string, want api.Expr) {
	t.Helper()
	had, told := clone(x), slices.Clone(params)
	if y, e := Bind(x, params); !same(y, want) || e != api.OK {
		t.Errorf("Bind of %s with %s: %s, %v, want %s", brief(x), brief(params), brief(y), e, brief(want))
	}
	if !same(x, had) || !slices.Equal(params, told) {
		t.Errorf("Bind of %s with %s changed them to %s and %s", brief(had), brief(told), brief(x), brief(params))
	}
}

func wantNoBind(t *testing.T, x api.Expr, params []string, want api.Errno) {
	t.Helper()
	had := clone(x)
	if y, e := Bind(x, params); !isZero(y) || e != want {
		t.Errorf("Bind of %s with %s: %s, %v, want %v", brief(x), brief(params), brief(y), e, want)
	}
	if !same(x, had) {
		t.Errorf("Bind of %s with %s changed it to %s", brief(had), brief(params), brief(x))
	}
}

// wantLiteral wants a text to be the literal of an operand, wherever its parameter stands.
func wantLiteral(t *testing.T, s string, want api.Operand) {
	t.Helper()
	p, a := param(0), at("a")
	wantBind(t, rel(api.RelEq, a, p), []string{s}, rel(api.RelEq, a, want))
	wantBind(t, rel(api.RelLt, p, a), []string{s}, rel(api.RelLt, want, a))
	wantBind(t, between(p, p, p), []string{s}, between(want, want, want))
	wantBind(t, and(like(a, p), not(like(p, a))), []string{s}, and(like(a, want), not(like(want, a))))
	wantBind(t, rel(api.RelEq, param(1), param(2)), []string{"'#'", s, s}, rel(api.RelEq, want, want))
}

func wantNoLiteral(t *testing.T, s string) {
	t.Helper()
	p, a := param(0), at("a")
	wantNoBind(t, rel(api.RelEq, a, p), []string{s}, api.ErrForm)
	wantNoBind(t, rel(api.RelEq, p, a), []string{s}, api.ErrForm)
	wantNoBind(t, or(not(between(a, a, p)), rel(api.RelEq, a, a)), []string{s}, api.ErrForm)
	wantNoBind(t, rel(api.RelEq, param(1), param(2)), []string{"1", "2", s}, api.ErrForm)
}

func TestLiterals(t *testing.T) {
	for s, want := range map[string]api.Operand{
		"0": num(0), "7": num(7), "10": num(10), "18446744073709551615": num(math.MaxUint64), "9223372036854775808": num(1 << 63),
		"-0": minus(0), "-7": minus(7), "- 7": minus(7), " -  7 ": minus(7), "-18446744073709551615": minus(math.MaxUint64),
		" 7": num(7), "7 ": num(7), "\t7\n": num(7), "\r7\r": num(7), "-\n7": minus(7),
		"''": str(""), "'a'": str("a"), "' '": str(" "), "''''": str("'"), "'it''s'": str("it's"), " 'a' ": str("a"), "'TRUE'": str("TRUE"), "'7'": str("7"), "'%0'": str("%0"), "'-'": str("-"), "'a%_'": str("a%_"), "'~'": str("~"),
		"TRUE": boolean(1), "FALSE": boolean(0), " TRUE": boolean(1), "FALSE\n": boolean(0),
	} {
		wantLiteral(t, s, want)
	}
}

func TestNoLiterals(t *testing.T) {
	for _, s := range []string{
		"", " ", "\t\n\r", "-", "--7", "- - 7", "7-", "-'a'", "- 'a'", "-TRUE", "-FALSE", "- FALSE", "-a", "+7", "=7", "(7)", "('a')", "[7]", ".7", "7.", "7.5", "<7", ">7", "<-7", "7 7", "-7 7", "-7-7", "'a' 'b'", "'a'7", "7'a'", "TRUE TRUE", "TRUE FALSE", "TRUE 1", "1 TRUE",
		"true", "True", "false", "TRUE1", "TRUES", "_TRUE", "FALSE_", "AND", "OR", "NOT", "LIKE", "BETWEEN", "NOT TRUE", "a", "a.b", "a[1]", "[1]", "red", "a = 1",
		"%0", "%1", "%", "-%0", "%10", "00", "01", "-01", "07", "18446744073709551616", "-18446744073709551616", "99999999999999999999", "0x1", "1e2", "1_0",
		"'", "'a", "a'", "'a''", "'''", "'a\x1f'", "'a\x7f'", "'\n'", "'é'", "7\x00", "\x007", "7,", "#", "\xff", "7;", "\"a\"", "7\v",
	} {
		wantNoLiteral(t, s)
	}
}

// A text of more than MaxFilter bytes has no tokens.
func TestLongLiterals(t *testing.T) {
	for _, n := range []int{api.MaxFilter - 1, api.MaxFilter, api.MaxFilter + 1, 2 * api.MaxFilter, 1 << 16} {
		x, blanks := strings.Repeat("x", n-2), strings.Repeat(" ", n-1)
		if n > api.MaxFilter {
			for _, s := range []string{"'" + x + "'", blanks + "7", "7" + blanks, blanks[1:] + "-7", "TRU" + blanks, blanks[3:] + "TRUE"} {
				wantNoLiteral(t, s)
			}
			continue
		}
		wantLiteral(t, "'"+x+"'", str(x))
		wantLiteral(t, blanks+"7", num(7))
		wantLiteral(t, "7"+blanks, num(7))
		wantLiteral(t, "-"+blanks[1:]+"7", minus(7))
		wantLiteral(t, blanks[3:]+"TRUE", boolean(1))
		wantNoLiteral(t, blanks+"a")
		wantNoLiteral(t, blanks+" ")
	}
}

// eachText calls a function with each text of up to n pieces of an alphabet.
func eachText(n int, alphabet []string, f func(s string)) {
	var longer func(s string, n int)
	longer = func(s string, n int) {
		f(s)
		if n == 0 {
			return
		}
		for _, p := range alphabet {
			longer(s+p, n-1)
		}
	}
	longer("", n)
}

// spelt is the operand that the parser finds in a text, if that is all it finds and it is neither a path nor a parameter.
func spelt(s string) (api.Operand, bool) {
	x, f := expr.Parse("a=\n" + s)
	if f.Err != api.OK || x.Op != api.XRel || x.Rel != api.RelEq {
		return api.Operand{}, false
	}
	o := x.Args[1]
	return o, o.Kind != api.OPath && o.Kind != api.OParam
}

func TestEachShortLiteral(t *testing.T) {
	found := 0
	each := func(s string) {
		want, ok := spelt(s)
		y, e := Bind(rel(api.RelEq, at("a"), param(0)), []string{s})
		switch {
		case !ok && (e != api.ErrForm || !isZero(y)), ok && (e != api.OK || !same(y, rel(api.RelEq, at("a"), want))):
			t.Errorf("%q: %v, %v; is a literal: %t", s, y, e, ok)
		}
		if ok {
			found++
		}
	}
	eachText(6, []string{"-", "0", "1", "'", " ", "x"}, each)
	eachText(4, []string{"-", "TRUE", "FALSE", " ", "'", "''", "7", "%", "NOT", ".", "[", "]", "a", "("}, each)
	for c := range 256 {
		b := string([]byte{byte(c)})
		eachText(3, []string{b, "'", "7"}, each)
		eachText(3, []string{b, "TRUE", "-"}, each)
	}
	if found < 2000 {
		t.Error(found)
	}
}

func TestNumbersOfParams(t *testing.T) {
	var params []string
	for i := range 300 {
		params = append(params, strconv.Itoa(i+1000))
		wantNoBind(t, rel(api.RelEq, param(uint64(i)), at("a")), params[:i], api.ErrNone)
		for j := range params {
			wantBind(t, rel(api.RelEq, param(uint64(j)), at("a")), params, rel(api.RelEq, num(uint64(j)+1000), at("a")))
		}
		for _, n := range []uint64{uint64(i) + 1, 1000, 1 << 16, 1<<31 - 1, 1 << 31, 1 << 32, 1 << 63, 1<<63 + 1, math.MaxUint64 - 1, math.MaxUint64} {
			wantNoBind(t, rel(api.RelEq, param(n), at("a")), params, api.ErrNone)
			wantNoBind(t, like(at("a"), param(n)), params, api.ErrNone)
		}
	}
	wantNoBind(t, rel(api.RelEq, param(0), at("a")), nil, api.ErrNone)
	wantNoBind(t, rel(api.RelEq, param(0), at("a")), []string{}, api.ErrNone)
}

// What lies behind the end of the parameters is none.
func TestParamsBehindTheEnd(t *testing.T) {
	all := []string{"1", "2", "3"}
	wantNoBind(t, rel(api.RelEq, param(0), param(2)), all[:2], api.ErrNone)
	wantBind(t, rel(api.RelEq, param(0), param(1)), all[1:], rel(api.RelEq, num(2), num(3)))
}

// A parameter whose number no operand has is not looked at.
func TestUnusedParams(t *testing.T) {
	bad := strings.Repeat("x", 1000)
	wantBind(t, rel(api.RelEq, at("a"), num(1)), []string{bad, "", "%0"}, rel(api.RelEq, at("a"), num(1)))
	wantBind(t, rel(api.RelEq, at("a"), param(1)), []string{bad, "5", "%0"}, rel(api.RelEq, at("a"), num(5)))
	wantBind(t, api.Expr{}, []string{bad}, api.Expr{})
	wantBind(t, not(node(api.XAnd)), []string{bad}, not(node(api.XAnd)))
}

// A literal is not bound anew, whatever its text is.
func TestLiteralsStay(t *testing.T) {
	params := []string{"'%1'", "'b'"}
	wantBind(t, like(param(0), param(1)), params, like(str("%1"), str("b")))
	wantBind(t, between(param(1), param(0), param(1)), params, between(str("b"), str("%1"), str("b")))
}

// others are operands that are no parameters, also such as no filter has.
func others() []api.Operand {
	return []api.Operand{
		{}, at("a"), at(""), at("%0"), num(0), num(1), minus(0), minus(9), str(""), str("%0"), boolean(0), boolean(1), boolean(7),
		{Kind: api.OPath, Text: "a", Neg: true, Num: 3}, {Kind: api.ONum, Text: "t", Neg: true, Num: 3}, {Kind: api.OText, Neg: true, Num: 1}, {Kind: api.OBool, Text: "t", Neg: true, Num: 2},
		{Kind: 6, Num: 0}, {Kind: -1}, {Kind: 10, Text: "t", Neg: true, Num: 1}, {Kind: math.MaxInt}, {Kind: math.MinInt},
	}
}

func TestOtherOperandsStay(t *testing.T) {
	for _, o := range others() {
		for _, p := range []api.Operand{param(0), {Kind: api.OParam, Text: "x", Neg: true}} {
			x := test(77, 88, o, p, o)
			x.Kids = []api.Expr{like(o, p), {}, test(-5, -6, o), not(between(p, o, p))}
			y := test(77, 88, o, num(5), o)
			y.Kids = []api.Expr{like(o, num(5)), {}, test(-5, -6, o), not(between(num(5), o, num(5)))}
			wantBind(t, x, []string{"5"}, y)
		}
		wantBind(t, rel(api.RelEq, o, o), nil, rel(api.RelEq, o, o))
	}
}

// Trees that are none of a filter's are bound too: the numbers of Args and Kids, Op and Rel are as they are.
func TestEachShapeIsBound(t *testing.T) {
	for op := -1; op <= 8; op++ {
		for r := -1; r <= 8; r++ {
			for args := range 5 {
				for kids := range 4 {
					x, y := api.Expr{Op: op, Rel: r}, api.Expr{Op: op, Rel: r}
					for range args {
						x.Args, y.Args = append(x.Args, param(0)), append(y.Args, boolean(1))
					}
					for range kids {
						x.Kids, y.Kids = append(x.Kids, test(op, r, param(1))), append(y.Kids, test(op, r, str("t")))
					}
					wantBind(t, x, []string{"TRUE", "'t'"}, y)
				}
			}
		}
	}
}

// The Args of an expression come ahead of its Kids, and all of a Kid ahead of the Kid behind it.
func TestTheFirstErrorOfBind(t *testing.T) {
	none, form, good, a := param(9), param(1), param(0), at("a")
	params := []string{"1", "x"}
	for _, c := range []struct {
		x    api.Expr
		want api.Errno
	}{
		{rel(api.RelEq, none, form), api.ErrNone}, {rel(api.RelEq, form, none), api.ErrForm},
		{between(good, form, none), api.ErrForm}, {between(good, none, form), api.ErrNone}, {between(a, a, none), api.ErrNone}, {between(a, a, form), api.ErrForm},
		{and(rel(api.RelEq, a, none), rel(api.RelEq, a, form)), api.ErrNone}, {and(rel(api.RelEq, a, form), rel(api.RelEq, a, none)), api.ErrForm},
		{or(rel(api.RelEq, a, good), not(not(rel(api.RelEq, a, form))), rel(api.RelEq, none, none)), api.ErrForm}, {or(rel(api.RelEq, a, good), not(not(rel(api.RelEq, a, none))), rel(api.RelEq, form, form)), api.ErrNone},
		{or(and(rel(api.RelEq, a, a), rel(api.RelEq, a, none)), rel(api.RelEq, form, a)), api.ErrNone},
		{api.Expr{Args: []api.Operand{good, none}, Kids: []api.Expr{rel(api.RelEq, form, form)}}, api.ErrNone}, {api.Expr{Args: []api.Operand{a, form}, Kids: []api.Expr{rel(api.RelEq, none, form)}}, api.ErrForm},
		{api.Expr{Args: []api.Operand{a, a}, Kids: []api.Expr{rel(api.RelEq, none, form)}}, api.ErrNone},
		{api.Expr{Kids: []api.Expr{{Args: []api.Operand{a}, Kids: []api.Expr{rel(api.RelEq, form, a)}}, rel(api.RelEq, none, a)}}, api.ErrForm},
	} {
		wantNoBind(t, c.x, params, c.want)
	}
}

// nodes are a tree's expressions, each ahead of its Kids.
func nodes(x *api.Expr) []*api.Expr {
	l := []*api.Expr{x}
	for i := range x.Kids {
		l = append(l, nodes(&x.Kids[i])...)
	}
	return l
}

// args are the operands of a tree, in their order.
func args(x *api.Expr) []*api.Operand {
	var l []*api.Operand
	for _, y := range nodes(x) {
		for i := range y.Args {
			l = append(l, &y.Args[i])
		}
	}
	return l
}

type maker struct{ *rand.Rand }

func one[T any](m maker, l ...T) T { return l[m.Intn(len(l))] }

// tree is a tree of a filter, with operands that a function makes.
func (m maker) tree(n int, operand func() api.Operand) api.Expr {
	if n == 0 || m.Intn(4) == 0 {
		switch m.Intn(5) {
		case 0:
			return like(operand(), operand())
		case 1:
			return between(operand(), operand(), operand())
		}
		return rel(1+m.Intn(6), operand(), operand())
	}
	if m.Intn(4) == 0 {
		return not(m.tree(n-1, operand))
	}
	x := node(one(m, api.XAnd, api.XOr))
	for range 2 + m.Intn(4)/2 {
		x.Kids = append(x.Kids, m.tree(m.Intn(n), operand))
	}
	return x
}

func TestRandomTreesBound(t *testing.T) {
	m, found := maker{rand.New(rand.NewSource(18))}, map[api.Errno]int{}
	texts := []string{"1", "-2", "'a'", "TRUE", "FALSE", "'it''s'", " 3 ", "x", "", "1 2", "%0"}
	for range 20000 {
		var params []string
		for range 3 + m.Intn(8) {
			params = append(params, texts[m.Intn(7+m.Intn(2)*m.Intn(5))])
		}
		x := m.tree(m.Intn(5), func() api.Operand {
			if m.Intn(3) == 0 {
				return param(uint64(m.Intn(3 + m.Intn(2)*m.Intn(8))))
			}
			return one(m, at("a"), num(1), str("%1"), boolean(1))
		})
		y, e := clone(x), api.OK
		for _, o := range args(&y) {
			if o.Kind != api.OParam || e != api.OK {
				continue
			}
			if o.Num >= uint64(len(params)) {
				e = api.ErrNone
				continue
			}
			var ok bool
			if *o, ok = spelt(params[o.Num]); !ok {
				e = api.ErrForm
			}
		}
		found[e]++
		if e == api.OK {
			wantBind(t, x, params, y)
		} else {
			wantNoBind(t, x, params, e)
		}
	}
	for _, e := range []api.Errno{api.OK, api.ErrNone, api.ErrForm} {
		if found[e] < 1000 {
			t.Error(found)
		}
	}
}

// Promise 18.2.

// enums are the names of the values of each TEnum of good, by their numbers.
func enums() map[string]map[string]uint64 {
	return map[string]map[string]uint64{
		"Color": {"red": 3, "blue": math.MaxUint64, "low": 1<<64 - 1<<31},
		"Shade": {"red": 4, "grey": 0, "high": 1<<31 - 1},
	}
}

// good is a list whose last type has something of each kind.
func good() []api.Type {
	l := make([]api.Type, api.TUint64)
	for i := range l {
		l[i].Kind = i + 1 // TBool is at 0, TUint64 at 7
	}
	return append(l,
		api.Type{Kind: api.TEnum, Name: "Color", Items: []api.Item{{Name: "red", Num: 3}, {Name: "blue", Num: math.MaxUint64}, {Name: "low", Num: 1<<64 - 1<<31}}},
		api.Type{Kind: api.TEnum, Name: "Shade", Items: []api.Item{{Name: "grey", Num: 0}, {Name: "red", Num: 4}, {Name: "high", Num: 1<<31 - 1}}},
		api.Type{Kind: api.TString, Bound: 4},         // 10
		api.Type{Kind: api.TSeq, Bound: 3, Of: 8},     // 11
		api.Type{Kind: api.TArray, Bound: 12, Of: 10}, // 12
		api.Type{Kind: api.TStruct, Name: "In", Items: []api.Item{{Name: "e", Type: 8}, {Name: "n", Type: 2}, {Name: "l", Type: 11}}},    // 13
		api.Type{Kind: api.TUnion, Name: "U", Tag: 9, Items: []api.Item{{Name: "t", Num: 4, Type: 0}, {Name: "s", Rest: true, Type: 9}}}, // 14
		api.Type{Kind: api.TString, Bound: 0}, // 15
		api.Type{Kind: api.TStruct, Name: "Top", Items: []api.Item{
			{Name: "b", Type: 0}, {Name: "o", Type: 1}, {Name: "i", Type: 2}, {Name: "u", Type: 3}, {Name: "ii", Type: 4}, {Name: "uu", Type: 5}, {Name: "iii", Type: 6}, {Name: "uuu", Type: 7},
			{Name: "e", Type: 8}, {Name: "f", Type: 9}, {Name: "s", Type: 10}, {Name: "l", Type: 11}, {Name: "a", Type: 12}, {Name: "in", Type: 13}, {Name: "pick", Type: 14}, {Name: "z", Type: 15},
		}},
	)
}

// top is the last type of good.
const top = 16

// sorts are the sorts of paths from top.
func sorts() map[string]string {
	return map[string]string{
		"b": "truth", "pick.t": "truth",
		"o": "number", "i": "number", "u": "number", "ii": "number", "uu": "number", "iii": "number", "uuu": "number", "in.n": "number",
		"e": "Color", "l[0]": "Color", "l[2]": "Color", "in.e": "Color", "in.l[1]": "Color", "f": "Shade", "pick.s": "Shade",
		"s": "text", "z": "text", "a[0]": "text", "a[11]": "text",
	}
}

// badPaths are texts of paths that lead from top to nothing that can be compared, by their errors.
func badPaths() map[string]api.Errno {
	return map[string]api.Errno{
		"l": api.ErrType, "a": api.ErrType, "in": api.ErrType, "pick": api.ErrType, "in.l": api.ErrType,
		"": api.ErrForm, ".": api.ErrForm, "b.": api.ErrForm, "b b": api.ErrForm, " b": api.ErrForm, "l[": api.ErrForm, "l[00]": api.ErrForm, "l[100]": api.ErrForm, "1": api.ErrForm, "'b'": api.ErrForm,
		"x": api.ErrName, "B": api.ErrName, "in.x": api.ErrName, "pick.f": api.ErrName, "AND": api.ErrName, "bb": api.ErrName,
		"b.x": api.ErrKind, "o.x": api.ErrKind, "e.red": api.ErrKind, "s[0]": api.ErrKind, "[0]": api.ErrKind, "l.x": api.ErrKind, "in[0]": api.ErrKind, "pick[1]": api.ErrKind, "l[0][0]": api.ErrKind,
		"l[3]": api.ErrRange, "a[12]": api.ErrRange, "in.l[99]": api.ErrRange,
	}
}

// sortOf is what an operand is for top, or its error.
func sortOf(o api.Operand) (string, api.Errno) {
	switch o.Kind {
	case api.OPath:
		if s, ok := sorts()[o.Text]; ok {
			return s, api.OK
		}
		if e, ok := badPaths()[o.Text]; ok {
			return "", e
		}
		panic("path " + o.Text)
	case api.ONum:
		return "number", api.OK
	case api.OText:
		return "text", api.OK
	case api.OBool:
		return "truth", api.OK
	case api.OParam:
		return "", api.ErrNone
	}
	return "", api.ErrForm
}

// unfit is the error of two operands without errors of their own in a relation.
func unfit(r int, a, b api.Operand) api.Errno {
	for range 2 {
		x, _ := sortOf(a)
		if names, isEnum := enums()[x]; isEnum && b.Kind == api.OText {
			if _, ok := names[b.Text]; !ok {
				return api.ErrName
			}
			return api.OK
		}
		a, b = b, a
	}
	x, _ := sortOf(a)
	y, _ := sortOf(b)
	switch {
	case x != y:
		return api.ErrType
	case x == "truth" && !slices.Contains([]int{api.RelEq, api.RelNe}, r):
		return api.ErrKind
	}
	return api.OK
}

// isFormed tells whether a tree's root has the Args, the Kids and the Rel of its Op.
func isFormed(x api.Expr) bool {
	shape := [2]int{len(x.Args), min(len(x.Kids), 2)}
	if x.Op == api.XRel && (x.Rel < 1 || x.Rel > 6) {
		return false
	}
	want, ok := map[int][2]int{api.XRel: {2, 0}, api.XBetween: {3, 0}, api.XLike: {2, 0}, api.XNot: {0, 1}, api.XAnd: {0, 2}, api.XOr: {0, 2}}[x.Op]
	return ok && shape == want
}

// reasons are all that is wrong with a tree for top, in its order.
func reasons(x api.Expr) []api.Errno {
	l := []api.Errno{}
	for _, y := range nodes(&x) {
		isWrong := false
		for _, o := range y.Args {
			_, e := sortOf(o)
			l, isWrong = append(l, e), isWrong || e != api.OK
		}
		if !isFormed(*y) {
			l, isWrong = append(l, api.ErrForm), true
		}
		if isWrong {
			continue
		}
		switch y.Op {
		case api.XRel:
			l = append(l, unfit(y.Rel, y.Args[0], y.Args[1]))
		case api.XBetween:
			l = append(l, unfit(api.RelGe, y.Args[0], y.Args[1]), unfit(api.RelLe, y.Args[0], y.Args[2]))
		case api.XLike:
			x, _ := sortOf(y.Args[0])
			y, _ := sortOf(y.Args[1])
			if x != "text" || y != "text" {
				l = append(l, api.ErrType)
			}
		}
	}
	return slices.DeleteFunc(l, func(e api.Errno) bool { return e == api.OK })
}

func wantCheck(t *testing.T, x api.Expr, want api.Errno) {
	t.Helper()
	had, l := clone(x), good()
	if e := Check(l, top, x); e != want {
		t.Errorf("Check of %s: %v, want %v", brief(x), e, want)
	}
	if !same(x, had) {
		t.Errorf("Check of %s changed it to %s", brief(had), brief(x))
	}
}

// wantTold wants the first of the reasons.
func wantTold(t *testing.T, x api.Expr) api.Errno {
	t.Helper()
	want := append(reasons(x), api.OK)[0]
	wantCheck(t, x, want)
	return want
}

// fits are operands without errors of their own, at least two of each sort.
func fits() []api.Operand {
	l := []api.Operand{num(0), num(300), minus(0), minus(7), num(math.MaxUint64), boolean(0), boolean(1), str(""), str("x"), str("Color"), str("e"), str("3"), str("RED"), str("red "), str("\x00é")}
	for _, names := range enums() {
		for _, s := range slices.Sorted(maps.Keys(names)) {
			l = append(l, str(s))
		}
	}
	for _, s := range slices.Sorted(maps.Keys(sorts())) {
		l = append(l, at(s))
	}
	return l
}

// wrong are operands with errors of their own.
func wrong() []api.Operand {
	l := []api.Operand{{}, {Kind: 6}, {Kind: -1, Text: "b"}, {Kind: math.MaxInt, Num: 1}, {Kind: math.MinInt}, param(0), param(9), param(10), {Kind: api.OParam, Text: "1", Num: math.MaxUint64}}
	for _, s := range slices.Sorted(maps.Keys(badPaths())) {
		l = append(l, at(s))
	}
	return l
}

func TestGood(t *testing.T) {
	l := good()
	if f := types.Check(l); f.Err != api.OK || len(l) != top+1 {
		t.Fatal(f, len(l))
	}
	for s, sort := range sorts() {
		_, to, e := path.Find(l, top, s)
		kind := map[string]int{"truth": api.TBool, "text": api.TString, "Color": api.TEnum, "Shade": api.TEnum}[sort]
		if e != api.OK || kind != 0 && l[to].Kind != kind || kind == api.TEnum && l[to].Name != sort || kind == 0 && (l[to].Kind < api.TOctet || l[to].Kind > api.TUint64) {
			t.Error(s, sort, to, e)
		}
	}
	for s, want := range badPaths() {
		if _, _, e := path.Find(l, top, s); e != want && (want != api.ErrType || e != api.OK) {
			t.Error(s, want, e)
		}
	}
}

func TestExamples(t *testing.T) {
	l := []api.Type{{Kind: api.TOctet}, {Kind: api.TString, Bound: 3}, {Kind: api.TStruct, Name: "P", Items: []api.Item{{Name: "a"}, {Name: "s", Type: 1}}}}
	for s, want := range map[string]api.Errno{"a = 'x'": api.ErrType, "s LIKE 'x'": api.OK, "a = 1": api.OK, "a LIKE 'x'": api.ErrType, "s = 'x'": api.OK, "a.s = 1": api.ErrKind, "b = 1": api.ErrName} {
		if e := Check(l, 2, parsed(t, s)); e != want {
			t.Errorf("%q: %v, want %v", s, e, want)
		}
	}
}

func TestTexts(t *testing.T) {
	for s, want := range map[string]api.Errno{
		"o = 5": api.OK, "5 < 6": api.OK, "i <> uuu": api.OK, "o = 300": api.OK, "u = -1": api.OK, "o < s": api.ErrType, "o = TRUE": api.ErrType, "o = b": api.ErrType, "o = '5'": api.ErrType, "s = 5": api.ErrType,
		"s = 'x'": api.OK, "s < z": api.OK, "'x' >= 'y'": api.OK, "a[11] = 'longer than that'": api.OK, "s = TRUE": api.ErrType, "'x' = TRUE": api.ErrType,
		"b = TRUE": api.OK, "FALSE <> b": api.OK, "TRUE = FALSE": api.OK, "b = pick.t": api.OK, "b < TRUE": api.ErrKind, "b <= TRUE": api.ErrKind, "b > pick.t": api.ErrKind, "TRUE >= FALSE": api.ErrKind, "b < 1": api.ErrType, "b = 'TRUE'": api.ErrType, "b > 'TRUE'": api.ErrType,
		"e = 'red'": api.OK, "'blue' < e": api.OK, "e >= in.l[1]": api.OK, "f = 'grey'": api.OK, "f = 'red'": api.OK, "'high' = pick.s": api.OK, "e = 'grey'": api.ErrName, "'blue' = f": api.ErrName, "e = ''": api.ErrName, "e = 'Color'": api.ErrName, "e <> 'Red'": api.ErrName,
		"e = 3": api.ErrType, "3 = e": api.ErrType, "e = f": api.ErrType, "e = s": api.ErrType, "s = e": api.ErrType, "e = TRUE": api.ErrType, "e = b": api.ErrType, "e = o": api.ErrType, "ii = f": api.ErrType,
		"o BETWEEN 1 AND i": api.OK, "s BETWEEN 'a' AND z": api.OK, "e BETWEEN 'red' AND 'blue'": api.OK, "'red' BETWEEN e AND f": api.OK, "'blue' BETWEEN e AND f": api.ErrName, "e BETWEEN e AND f": api.ErrType, "e BETWEEN f AND 'grey'": api.ErrType, "e BETWEEN 'grey' AND f": api.ErrName, "'red' BETWEEN 'x' AND e": api.OK, "'x' BETWEEN 'red' AND e": api.ErrName,
		"b BETWEEN TRUE AND FALSE": api.ErrKind, "b BETWEEN 1 AND TRUE": api.ErrType, "b BETWEEN TRUE AND 1": api.ErrKind, "o BETWEEN 1 AND 'x'": api.ErrType, "o BETWEEN 'x' AND 1": api.ErrType, "1 BETWEEN 'x' AND 'y'": api.ErrType, "o BETWEEN e AND f": api.ErrType,
		"s LIKE 'x%'": api.OK, "'x' LIKE z": api.OK, "s LIKE s": api.OK, "'a' LIKE 'b'": api.OK, "e LIKE 'red'": api.ErrType, "'red' LIKE e": api.ErrType, "o LIKE '5'": api.ErrType, "s LIKE 5": api.ErrType, "5 LIKE 5": api.ErrType, "b LIKE TRUE": api.ErrType, "e LIKE e": api.ErrType,
		"l = 1": api.ErrType, "in = in": api.ErrType, "pick LIKE 'x'": api.ErrType, "a BETWEEN a AND a": api.ErrType, "l[3] = 'red'": api.ErrRange, "x = 1": api.ErrName, "o.x = 1": api.ErrKind, "l[100] = 'red'": api.ErrForm, "%0 = 1": api.ErrNone, "s LIKE %9": api.ErrNone,
		"o = 1 AND s = 1": api.ErrType, "NOT (o = 1 OR x = 1)": api.ErrName, "o = 1 AND (s = 'x' OR NOT e = 'red')": api.OK, "b < TRUE AND s = 1": api.ErrKind, "s = 1 AND b < TRUE": api.ErrType,
	} {
		x := parsed(t, s)
		wantCheck(t, x, want)
		if l := append(reasons(x), api.OK); l[0] != want {
			t.Errorf("%q: told %v, want %v", s, l, want)
		}
	}
}

// relations are all of them, and numbers that are none.
func relations() []int { return []int{1, 2, 3, 4, 5, 6, 0, -1, 7, math.MaxInt, math.MinInt} }

func TestEachPair(t *testing.T) {
	found := map[api.Errno]int{}
	l := append(fits(), wrong()...)
	for _, a := range l {
		for _, b := range l {
			for _, r := range relations() {
				found[wantTold(t, rel(r, a, b))]++
			}
			found[wantTold(t, like(a, b))]++
		}
	}
	for _, e := range []api.Errno{api.OK, api.ErrType, api.ErrName, api.ErrKind, api.ErrForm, api.ErrNone, api.ErrRange} {
		if found[e] < 100 {
			t.Error(found)
		}
	}
}

func TestEachTriple(t *testing.T) {
	l := []api.Operand{num(1), minus(0), boolean(1), str("red"), str("blue"), str("grey"), str("x"), at("b"), at("o"), at("iii"), at("e"), at("in.e"), at("f"), at("s"), at("a[0]"), {}, param(0), at("l"), at("x"), at("o.x"), at("l[3]")}
	found := map[api.Errno]int{}
	for _, a := range l {
		for _, b := range l {
			for _, c := range l {
				found[wantTold(t, between(a, b, c))]++
			}
		}
	}
	for _, e := range []api.Errno{api.OK, api.ErrType, api.ErrName, api.ErrKind, api.ErrForm, api.ErrNone, api.ErrRange} {
		if found[e] < 50 {
			t.Error(found)
		}
	}
}

// Each numeric kind but TBool and TEnum is one of numbers; of TBool are truth values; what has parts is nothing that can be compared.
func TestEachKind(t *testing.T) {
	l := good()
	for i, x := range l {
		inside := append(slices.Clone(l), api.Type{Kind: api.TStruct, Name: "Q", Items: []api.Item{{Name: "x", Type: i}}})
		want := map[int]api.Operand{api.TBool: boolean(1), api.TEnum: str("red"), api.TString: str("x")}
		if o, ok := want[x.Kind]; ok {
			if e := Check(inside, len(l), rel(api.RelEq, at("x"), o)); e != api.OK {
				t.Error(x, e)
			}
			if e := Check(inside, len(l), rel(api.RelEq, at("x"), num(1))); e != api.ErrType {
				t.Error(x, e)
			}
			continue
		}
		isNumber := x.Kind <= api.TUint64
		for _, o := range []api.Operand{num(1), minus(1)} {
			if e := Check(inside, len(l), rel(api.RelLt, o, at("x"))); isNumber != (e == api.OK) || !isNumber && e != api.ErrType {
				t.Error(x, e)
			}
		}
		for _, o := range []api.Operand{boolean(1), str("red"), at("x")} {
			e := Check(inside, len(l), rel(api.RelEq, o, at("x")))
			if isNumber && o.Kind == api.OPath {
				if e != api.OK {
					t.Error(x, e)
				}
			} else if e != api.ErrType {
				t.Error(x, e)
			}
		}
	}
}

// Fields of an operand that its kind does not have, and a Rel of another expression than an XRel, are not looked at.
func TestOtherFields(t *testing.T) {
	wantCheck(t, rel(api.RelEq, api.Operand{Kind: api.OPath, Text: "o", Neg: true, Num: 9}, api.Operand{Kind: api.ONum, Text: "x", Num: 1}), api.OK)
	wantCheck(t, rel(api.RelEq, api.Operand{Kind: api.OPath, Text: "e", Neg: true, Num: 9}, api.Operand{Kind: api.OText, Text: "red", Neg: true, Num: 1}), api.OK)
	wantCheck(t, rel(api.RelEq, at("b"), api.Operand{Kind: api.OBool, Text: "red", Neg: true, Num: 7}), api.OK)
	wantCheck(t, rel(api.RelEq, at("e"), api.Operand{Kind: api.ONum, Text: "red"}), api.ErrType)
	wantCheck(t, rel(api.RelEq, at("e"), api.Operand{Kind: api.OBool, Text: "red"}), api.ErrType)
	for _, r := range relations() {
		wantCheck(t, test(api.XBetween, r, at("o"), num(1), num(2)), api.OK)
		wantCheck(t, test(api.XBetween, r, at("b"), boolean(1), boolean(1)), api.ErrKind)
		wantCheck(t, test(api.XLike, r, at("s"), str("x")), api.OK)
		kids := []api.Expr{like(at("s"), at("z")), like(at("s"), at("z"))}
		wantCheck(t, api.Expr{Op: api.XNot, Rel: r, Kids: kids[:1]}, api.OK)
		wantCheck(t, api.Expr{Op: api.XAnd, Rel: r, Kids: kids}, api.OK)
		wantCheck(t, api.Expr{Op: api.XOr, Rel: r, Kids: kids}, api.OK)
	}
}

// Each Op, and numbers that are none, with each number of Args and Kids.
func TestEachShape(t *testing.T) {
	found := map[api.Errno]int{}
	for _, op := range []int{1, 2, 3, 4, 5, 6, 0, -1, 7, 8, math.MaxInt, math.MinInt} {
		for _, r := range []int{1, 2, 6, 0, -1, 7} {
			for n := range 5 {
				for _, o := range []api.Operand{str("x"), num(1), boolean(1), param(0), at("l[3]"), {}} {
					for kids := range 5 {
						for _, k := range []api.Expr{like(at("s"), at("z")), rel(api.RelEq, at("x"), num(1)), {}} {
							x := test(op, r, slices.Repeat([]api.Operand{o}, n)...)
							x.Kids = slices.Repeat([]api.Expr{k}, kids)
							found[wantTold(t, x)]++
							found[wantTold(t, not(x))]++
						}
					}
				}
			}
		}
	}
	for _, e := range []api.Errno{api.OK, api.ErrType, api.ErrName, api.ErrKind, api.ErrForm, api.ErrNone, api.ErrRange} {
		if found[e] < 30 {
			t.Error(found)
		}
	}
}

func TestShapes(t *testing.T) {
	s, kid := at("s"), like(at("s"), at("s"))
	for _, x := range []api.Expr{
		{}, {Op: 7}, {Op: -1}, node(api.XAnd), node(api.XOr), node(api.XNot), node(api.XNot, kid, kid), and(kid), or(kid), test(api.XLike, 0, s), test(api.XLike, 0, s, s, s), test(api.XLike, 0), test(api.XRel, 1), test(api.XRel, 1, s), test(api.XRel, 1, s, s, s), rel(0, s, s), rel(7, s, s), rel(-1, s, s),
		test(api.XBetween, 0), test(api.XBetween, 0, s, s), test(api.XBetween, 0, s, s, s, s), {Op: 7, Kids: []api.Expr{kid, kid}}, {Op: 7, Args: []api.Operand{s, s}},
		{Op: api.XRel, Rel: 1, Args: []api.Operand{s, s}, Kids: []api.Expr{kid}}, {Op: api.XNot, Args: []api.Operand{s}, Kids: []api.Expr{kid}}, {Op: api.XAnd, Args: []api.Operand{s}, Kids: []api.Expr{kid, kid}},
		rel(0, s, num(1)), rel(7, at("b"), boolean(1)), // ahead of ErrType and ErrKind
	} {
		wantCheck(t, x, api.ErrForm)
		wantCheck(t, not(x), api.ErrForm)
		wantCheck(t, or(kid, and(kid, kid, x)), api.ErrForm)
	}
	// An operand's error comes ahead of it.
	for _, o := range wrong() {
		_, want := sortOf(o)
		wantCheck(t, test(7, 0, o), want)
		wantCheck(t, test(api.XLike, 0, o), want)
		wantCheck(t, rel(0, s, o), want)
		wantCheck(t, test(api.XRel, 1, s, s, o), want)
		wantCheck(t, api.Expr{Op: api.XNot, Args: []api.Operand{s, o}, Kids: []api.Expr{rel(1, s, num(1))}}, want)
	}
}

// An expression's own errors come ahead of those of its Kids, and all of a Kid's ahead of those of the Kid behind it.
func TestTheFirstErrorOfCheck(t *testing.T) {
	bad := map[api.Errno]api.Expr{
		api.ErrType: rel(api.RelEq, at("s"), num(1)), api.ErrName: rel(api.RelEq, at("e"), str("x")), api.ErrKind: rel(api.RelLt, at("b"), boolean(1)), api.ErrForm: rel(9, at("s"), at("s")),
		api.ErrNone: rel(api.RelEq, param(0), at("s")), api.ErrRange: like(at("l[9]"), at("s")), api.OK: between(at("o"), num(1), num(2)),
	}
	for d, x := range bad {
		for e, y := range bad {
			want := d
			if d == api.OK {
				want = e
			}
			for _, z := range []api.Expr{and(x, y), or(x, y), and(bad[api.OK], x, y), or(x, bad[api.OK], y), not(and(not(x), y)), and(or(bad[api.OK], x), not(not(y))), or(not(not(not(x))), and(y, x))} {
				wantCheck(t, z, want)
			}
			// A test has no Kids; its operands' errors come ahead of that.
			z := clone(x)
			z.Kids = []api.Expr{y}
			if d != api.ErrNone && d != api.ErrRange {
				want = api.ErrForm
			}
			wantCheck(t, z, want)
		}
	}
	for _, o := range []api.Operand{num(1), boolean(1), str("red"), at("e"), at("s")} {
		for i, p := range wrong() {
			for _, q := range wrong()[i:] {
				_, want := sortOf(p)
				wantCheck(t, between(o, p, q), want)
				wantCheck(t, between(p, o, q), want)
				wantCheck(t, between(p, q, o), want)
				wantCheck(t, like(p, q), want)
				wantCheck(t, rel(0, p, q), want)
			}
		}
	}
}

func TestRandomTreesChecked(t *testing.T) {
	m, found := maker{rand.New(rand.NewSource(182))}, map[api.Errno]int{}
	all, bad := fits(), wrong()
	bySort := map[string][]api.Operand{}
	for _, o := range all {
		s, _ := sortOf(o)
		bySort[s] = append(bySort[s], o)
	}
	kinds := slices.Sorted(maps.Keys(bySort))
	for range 30000 {
		sort := ""
		x := m.tree(m.Intn(5), func() api.Operand {
			switch {
			case m.Intn(40) == 0:
				return one(m, bad...)
			case m.Intn(40) == 0:
				return one(m, all...)
			case sort == "" || m.Intn(4) == 0:
				sort = one(m, kinds...)
			}
			return one(m, bySort[sort]...)
		})
		if m.Intn(2) == 0 { // as many tests as may be fit
			for _, y := range nodes(&x) {
				for i := range y.Args {
					y.Args[i] = one(m, bySort[one(m, "text", "text", "text", "number")]...)
				}
				if y.Op == api.XRel {
					y.Args[1] = y.Args[0]
				}
			}
		}
		if l := nodes(&x); m.Intn(4) == 0 {
			y := l[m.Intn(len(l))]
			switch m.Intn(5) {
			case 0:
				y.Op = m.Intn(9) - 1
			case 1:
				y.Rel = m.Intn(9) - 1
			case 2:
				y.Args = append(y.Args, one(m, all...))
			case 3:
				y.Kids = append(y.Kids, like(at("s"), str("x")))
			case 4:
				y.Args = y.Args[:len(y.Args)/2]
			}
		}
		found[wantTold(t, x)]++
	}
	for _, e := range []api.Errno{api.OK, api.ErrType, api.ErrName, api.ErrKind, api.ErrForm, api.ErrNone, api.ErrRange} {
		if found[e] < 50 {
			t.Error(found)
		}
	}
}

// badLists are lists that are not valid, in which the first types are those of good.
func badLists() [][]api.Type {
	long := good()
	for len(long) <= api.MaxTypes {
		long = append(long, api.Type{Kind: api.TBool})
	}
	l := [][]api.Type{long}
	for _, x := range []api.Type{{}, {Kind: 15}, {Kind: -1}, {Kind: api.TBool, Bound: 1}, {Kind: api.TSeq, Bound: 1, Of: 17}, {Kind: api.TString, Bound: 65}, {Kind: api.TEnum, Name: "Color", Items: []api.Item{{Name: "a"}}}, {Kind: api.TStruct, Name: "AND", Items: []api.Item{{Name: "a"}}}, {Kind: api.TUnion, Name: "V"}} {
		l = append(l, append(good(), x))
	}
	spoilt := good()
	spoilt[0].Kind = 0
	return append(l, spoilt)
}

func TestListsThatAreNotValid(t *testing.T) {
	trees := []api.Expr{{}, rel(api.RelEq, at("o"), num(1)), like(str("a"), str("b")), rel(0, param(0), at("x")), not(api.Expr{}), and(like(at("s"), at("s")), rel(api.RelEq, param(1), num(1)))}
	for i, l := range badLists() {
		if types.Check(l).Err == api.OK {
			t.Error("list", i)
		}
		for _, x := range trees {
			for j := range l {
				if e := Check(l, j, x); e != api.ErrType {
					t.Errorf("list %d, type %d, %s: %v", i, j, brief(x), e)
				}
			}
		}
	}
	for _, l := range [][]api.Type{nil, {}, good()[:1], good()} {
		for _, j := range []int{-1, len(l), len(l) + 1, api.MaxTypes, math.MaxInt, math.MinInt} {
			for _, x := range trees {
				if e := Check(l, j, x); e != api.ErrType {
					t.Errorf("%d types, type %d, %s: %v", len(l), j, brief(x), e)
				}
			}
		}
	}
	// What lies behind the end of a list is no type of it.
	if e := Check(good()[:top], top, rel(api.RelEq, at("o"), num(1))); e != api.ErrType {
		t.Error(e)
	}
	// As many types as may be.
	long := badLists()[0][:api.MaxTypes]
	if e := Check(long, top, rel(api.RelEq, at("e"), str("red"))); e != api.OK {
		t.Error(e)
	}
}

// From a type without steps, paths lead nowhere; a tree without paths fits each.
func TestOtherTypes(t *testing.T) {
	l := good()
	for i, x := range l {
		if e := Check(l, i, and(rel(api.RelEq, num(1), num(2)), like(str("a"), str("b")))); e != api.OK {
			t.Error(i, e)
		}
		want := api.ErrKind
		if x.Kind == api.TStruct || x.Kind == api.TUnion {
			want = api.ErrName
		}
		if e := Check(l, i, rel(api.RelEq, at("nothing"), num(2))); e != want {
			t.Error(i, e)
		}
	}
	for _, c := range []struct {
		t    int
		o, p api.Operand
		want api.Errno
	}{
		{11, at("[0]"), str("red"), api.OK}, {11, at("[2]"), at("[1]"), api.OK}, {11, at("[3]"), str("red"), api.ErrRange}, {11, at("[0]"), str("grey"), api.ErrName}, {12, at("[11]"), str("red"), api.OK}, {12, at("[12]"), str("red"), api.ErrRange},
		{13, at("e"), str("low"), api.OK}, {13, at("n"), num(1), api.OK}, {13, at("o"), num(1), api.ErrName}, {14, at("t"), boolean(0), api.OK}, {14, at("s"), str("grey"), api.OK}, {14, at("s"), str("blue"), api.ErrName},
	} {
		if e := Check(l, c.t, rel(api.RelEq, c.o, c.p)); e != c.want {
			t.Error(c, e)
		}
	}
}

// Two TEnums with the same items are two.
func TestEqualEnums(t *testing.T) {
	items := []api.Item{{Name: "x", Num: 1}, {Name: "y", Num: 2}}
	l := []api.Type{{Kind: api.TEnum, Name: "A", Items: items}, {Kind: api.TEnum, Name: "B", Items: items}, {Kind: api.TStruct, Name: "P", Items: []api.Item{{Name: "a", Type: 0}, {Name: "b", Type: 1}, {Name: "c", Type: 0}}}}
	for _, c := range []struct {
		a, b string
		want api.Errno
	}{{"a", "b", api.ErrType}, {"b", "a", api.ErrType}, {"a", "c", api.OK}, {"c", "a", api.OK}, {"b", "c", api.ErrType}, {"b", "b", api.OK}} {
		for r := api.RelEq; r <= api.RelGe; r++ {
			if e := Check(l, 2, rel(r, at(c.a), at(c.b))); e != c.want {
				t.Error(c, r, e)
			}
		}
	}
}

// Promise 18.3.

func wantDatum(t *testing.T, o, other api.Operand, want api.Datum) {
	t.Helper()
	if d := Datum(good(), top, o, other); d != want {
		t.Errorf("Datum of %v with %v: %v, want %v", o, other, d, want)
	}
}

func TestDataOfNumbersAndTruthValues(t *testing.T) {
	for _, other := range append(fits(), wrong()...) {
		for _, n := range []uint64{0, 1, 2, 255, 1<<31 - 1, 1 << 31, 1<<63 - 1, 1 << 63, math.MaxUint64} {
			wantDatum(t, num(n), other, api.Datum{Kind: api.DNum, Num: n})
			wantDatum(t, minus(n), other, api.Datum{Kind: api.DNum, Neg: n != 0, Num: n})
			wantDatum(t, api.Operand{Kind: api.ONum, Text: "red", Num: n}, other, api.Datum{Kind: api.DNum, Num: n})
			wantDatum(t, boolean(n), other, api.Datum{Kind: api.DBool, Num: n})
			wantDatum(t, api.Operand{Kind: api.OBool, Text: "red", Neg: true, Num: n}, other, api.Datum{Kind: api.DBool, Num: n})
		}
	}
}

func TestDataOfTexts(t *testing.T) {
	for _, other := range append(fits(), wrong()...) {
		sort, _ := sortOf(other)
		for _, o := range fits() {
			if o.Kind != api.OText {
				continue
			}
			want := api.Datum{Kind: api.DText, Text: o.Text}
			if n, ok := enums()[sort][o.Text]; ok {
				want = api.Datum{Kind: api.DNum, Neg: n >= 1<<63, Num: n}
				if want.Neg {
					want.Num = -n
				}
			}
			wantDatum(t, o, other, want)
			o.Neg, o.Num = true, 9
			wantDatum(t, o, other, want)
		}
	}
	e, f := at("e"), at("pick.s")
	wantDatum(t, str("red"), e, api.Datum{Kind: api.DNum, Num: 3})
	wantDatum(t, str("red"), f, api.Datum{Kind: api.DNum, Num: 4})
	wantDatum(t, str("blue"), e, api.Datum{Kind: api.DNum, Neg: true, Num: 1})
	wantDatum(t, str("low"), at("l[2]"), api.Datum{Kind: api.DNum, Neg: true, Num: 1 << 31})
	wantDatum(t, str("high"), f, api.Datum{Kind: api.DNum, Num: 1<<31 - 1})
	wantDatum(t, str("grey"), f, api.Datum{Kind: api.DNum})
	wantDatum(t, str("grey"), e, api.Datum{Kind: api.DText, Text: "grey"})
	wantDatum(t, str("red"), at("s"), api.Datum{Kind: api.DText, Text: "red"})
	wantDatum(t, str("red"), at("l[3]"), api.Datum{Kind: api.DText, Text: "red"})
	wantDatum(t, str("red"), str("e"), api.Datum{Kind: api.DText, Text: "red"})
	wantDatum(t, str("red"), api.Operand{Kind: api.OParam, Text: "e"}, api.Datum{Kind: api.DText, Text: "red"})
	wantDatum(t, str("red"), api.Operand{Text: "e"}, api.Datum{Kind: api.DText, Text: "red"})
	wantDatum(t, str("e"), at("in"), api.Datum{Kind: api.DText, Text: "e"}) // the name of an item, but of no value
	wantDatum(t, str("red"), api.Operand{Kind: api.OPath, Text: "e", Neg: true, Num: 1}, api.Datum{Kind: api.DNum, Num: 3})
}

func TestDataOfOthers(t *testing.T) {
	for _, other := range fits() {
		for _, o := range append(wrong(), at("e"), at("o"), at("s"), api.Operand{Kind: api.OPath, Text: "red", Neg: true, Num: 3}, api.Operand{Kind: 6, Text: "red", Neg: true, Num: 3}) {
			wantDatum(t, o, other, api.Datum{})
		}
	}
}

// Without a type there is no value of a TEnum.
func TestDataWithoutAType(t *testing.T) {
	none := func(l []api.Type, i int) {
		t.Helper()
		for o, want := range map[api.Operand]api.Datum{str("red"): {Kind: api.DText, Text: "red"}, minus(3): {Kind: api.DNum, Neg: true, Num: 3}, boolean(1): {Kind: api.DBool, Num: 1}, at("e"): {}, param(0): {}} {
			if d := Datum(l, i, o, at("e")); d != want {
				t.Error(len(l), i, o, d)
			}
		}
	}
	for _, l := range badLists() {
		none(l, top)
	}
	for _, i := range []int{-1, 0, 8, top + 1, math.MaxInt, math.MinInt} {
		none(good(), i)
	}
	none(nil, 0)
	none(good()[:top], top)
	if d := Datum(good(), 13, str("red"), at("e")); d != (api.Datum{Kind: api.DNum, Num: 3}) {
		t.Error(d)
	}
	if d := Datum(good(), 11, str("red"), at("[2]")); d != (api.Datum{Kind: api.DNum, Num: 3}) {
		t.Error(d)
	}
}

// A TEnum at index 0 is not that of what is no value of a TEnum.
func TestFirstEnum(t *testing.T) {
	l := []api.Type{
		{Kind: api.TEnum, Name: "E", Items: []api.Item{{Name: "x", Num: 5}}}, {Kind: api.TString, Bound: 3}, {Kind: api.TBool}, {Kind: api.TOctet}, {Kind: api.TSeq, Bound: 2},
		{Kind: api.TStruct, Name: "P", Items: []api.Item{{Name: "e"}, {Name: "s", Type: 1}, {Name: "b", Type: 2}, {Name: "o", Type: 3}, {Name: "l", Type: 4}}},
	}
	for _, c := range []struct {
		other api.Operand
		isNum bool
		want  api.Errno
	}{
		{at("e"), true, api.OK}, {at("l[1]"), true, api.OK}, {at("s"), false, api.OK}, {at("b"), false, api.ErrType}, {at("o"), false, api.ErrType}, {at("l"), false, api.ErrType}, {at("l[2]"), false, api.ErrRange}, {at("x"), false, api.ErrName},
		{str("x"), false, api.OK}, {str("e"), false, api.OK}, {num(5), false, api.ErrType}, {boolean(1), false, api.ErrType}, {param(0), false, api.ErrNone},
	} {
		want := api.Datum{Kind: api.DText, Text: "x"}
		if c.isNum {
			want = api.Datum{Kind: api.DNum, Num: 5}
		}
		if d := Datum(l, 5, str("x"), c.other); d != want {
			t.Error(c, d)
		}
		for _, x := range []api.Expr{rel(api.RelEq, str("x"), c.other), rel(api.RelEq, c.other, str("x"))} {
			if e := Check(l, 5, x); e != c.want {
				t.Error(c, e)
			}
		}
	}
}

// Promise 18.4.

func TestBoundTreesHaveNoParams(t *testing.T) {
	for _, s := range []string{"o = %0", "%0 = %0", "o BETWEEN %0 AND %1 OR s LIKE %2", "NOT (%2 LIKE %2 AND NOT %0 < %1)", "o = 1", "%9 = %8 AND (%7 = %6 OR %5 = %4) AND NOT %3 = %2"} {
		y, e := Bind(parsed(t, s), []string{"1", "-2", "'x'", "TRUE", "5", "6", "7", "8", "9", "10"})
		if e != api.OK {
			t.Error(s, e)
		}
		for _, o := range args(&y) {
			if o.Kind == api.OParam {
				t.Error(s, *o)
			}
		}
	}
	x := parsed(t, "o BETWEEN %0 AND %1 OR s LIKE %2")
	wantCheck(t, x, api.ErrNone)
	y, _ := Bind(x, []string{"1", "2", "'x'"})
	wantCheck(t, y, api.OK)
	y, _ = Bind(x, []string{"1", "2", "3"})
	wantCheck(t, y, api.ErrType)
}

// A bound tree is that of the text with the literals in it.
func TestBoundTreesAreThoseOfTheirTexts(t *testing.T) {
	params := []string{"-1", "'red'", "'it''s'", "FALSE", " 7"}
	for _, s := range []string{"o < %0", "e BETWEEN %1 AND 'blue'", "NOT s LIKE %2 AND b = %3", "%4 <> %0 OR (%1 = %2 AND NOT %3 = %3)", "e = %2", "b > %3"} {
		u := s
		for i, p := range params {
			u = strings.ReplaceAll(u, "%"+strconv.Itoa(i), p)
		}
		wantBind(t, parsed(t, s), params, parsed(t, u))
	}
}

func TestWhatFitsAlsoFitsInside(t *testing.T) {
	m := maker{rand.New(rand.NewSource(184))}
	all := []string{"o = 1", "i < uuu", "b = TRUE", "e <> 'red'", "s LIKE 'x%'", "f BETWEEN 'grey' AND 'high'", "o = 's'", "x = 1", "b < TRUE", "e = 'grey'", "l[3] = 'red'", "%0 = 1", "o.o = 1"}
	for range 3000 {
		s, u := one(m, all...), one(m, all...)
		for range m.Intn(4) {
			s = one(m, "("+s+")", "NOT ("+s+")", "("+s+") AND o = 1", "i > 2 OR ("+s+")")
		}
		x, y := parsed(t, s), parsed(t, u)
		e, f := Check(good(), top, x), Check(good(), top, y)
		for _, v := range []string{"(" + s + ")", "NOT (" + s + ")", "((" + s + "))"} {
			wantCheck(t, parsed(t, v), e)
		}
		first := e
		if e == api.OK {
			first = f
		}
		for _, v := range []string{"(" + s + ") AND " + u, "(" + s + ") OR " + u, "NOT (" + s + ") AND (" + u + ")", "(" + s + ") OR NOT " + u} {
			wantCheck(t, parsed(t, v), first)
		}
		wantCheck(t, and(x, y), first)
		wantCheck(t, or(x, not(y)), first)
	}
}

// The rules that hold everywhere.

func tower(x api.Expr, n int) api.Expr {
	for range n {
		x = not(x)
	}
	return x
}

// Neither call has a bound on a tree: not on how deep it is, nor on its Kids and Args.
func TestLargeTrees(t *testing.T) {
	const n = 1 << 15
	x := tower(rel(api.RelEq, at("o"), param(0)), n)
	wantCheck(t, x, api.ErrNone)
	wantNoBind(t, x, nil, api.ErrNone)
	y, e := Bind(x, []string{"5"})
	if want := tower(rel(api.RelEq, at("o"), num(5)), n); e != api.OK || !same(y, want) {
		t.Error(e)
	}
	wantCheck(t, y, api.OK)
	kids := slices.Repeat([]api.Expr{like(str("x"), param(1))}, n)
	wantCheck(t, or(kids...), api.ErrNone)
	y, e = Bind(or(kids...), []string{"1", "'y'"})
	if e != api.OK || len(y.Kids) != n || !same(y.Kids[n-1], like(str("x"), str("y"))) {
		t.Error(e)
	}
	wantCheck(t, y, api.OK)
	wide := test(api.XLike, 0, slices.Repeat([]api.Operand{str("x")}, n)...)
	wantCheck(t, wide, api.ErrForm)
	wantBind(t, wide, nil, wide)
	wide.Args[n-1] = param(3)
	wantCheck(t, wide, api.ErrNone)
	wantNoBind(t, wide, nil, api.ErrNone)
	wantCheck(t, rel(api.RelEq, at(strings.Repeat("o", 1<<20)), num(1)), api.ErrName)
	wantCheck(t, rel(api.RelEq, at("e"), str(strings.Repeat("o", 1<<20))), api.ErrName)
	wantNoLiteral(t, strings.Repeat("1", 1<<20))
}

func share(a, b string) bool {
	if a == "" || b == "" {
		return false
	}
	from, to := uintptr(unsafe.Pointer(unsafe.StringData(a))), uintptr(unsafe.Pointer(unsafe.StringData(b)))
	return from < to+uintptr(len(b)) && to < from+uintptr(len(a))
}

func TestBindIsNewMemory(t *testing.T) {
	p := strings.Clone("'text'")
	fresh := func() api.Expr {
		return or(rel(api.RelEq, at(strings.Clone("path")), param(0)), and(like(str(strings.Clone("other")), at("p")), not(between(num(1), num(2), num(3)))))
	}
	x := fresh()
	y, e := Bind(x, []string{p, "1"})
	if e != api.OK {
		t.Fatal(e)
	}
	want := clone(y)
	for _, o := range args(&x) {
		for _, q := range args(&y) {
			if share(o.Text, q.Text) || o == q {
				t.Errorf("%v and %v share memory", *o, *q)
			}
		}
	}
	for _, q := range args(&y) {
		if share(q.Text, p) {
			t.Errorf("%v shares memory with its parameter", *q)
		}
	}
	for _, z := range nodes(&x) {
		z.Op, z.Rel = 99, 99
		for i := range z.Args {
			z.Args[i] = api.Operand{Kind: 99}
		}
		z.Args, z.Kids = append(z.Args[:0], api.Operand{Kind: 98}), append(z.Kids[:0], api.Expr{Op: 97})
	}
	if !same(y, want) {
		t.Errorf("a changed argument changes the result to %s", brief(y))
	}
	// And the other way round.
	x = fresh()
	y, _ = Bind(x, []string{p})
	for _, z := range nodes(&y) {
		z.Op, z.Rel = 99, 99
		for i := range z.Args {
			z.Args[i] = api.Operand{Kind: 99}
		}
		_, _ = append(z.Args, api.Operand{Kind: 98}), append(z.Kids, api.Expr{Op: 97})
	}
	if !same(x, fresh()) {
		t.Errorf("a changed result changes the argument to %s", brief(x))
	}
}

// Kids and Args that are one list in the argument are lists of their own in the result.
func TestEachListIsOneOfItsOwn(t *testing.T) {
	a := []api.Operand{at("s"), param(0)}
	k := []api.Expr{{Op: api.XLike, Args: a}, {Op: api.XRel, Rel: 1, Args: a}}
	x := api.Expr{Op: api.XAnd, Kids: []api.Expr{{Op: api.XOr, Kids: k}, {Op: api.XAnd, Kids: k}}}
	y, e := Bind(x, []string{"'x'"})
	if e != api.OK {
		t.Fatal(e)
	}
	want := clone(y)
	for _, z := range nodes(&y) {
		had := clone(*z)
		for i := range z.Args {
			z.Args[i] = api.Operand{Kind: 99}
		}
		for i := range z.Kids {
			z.Kids[i] = api.Expr{Op: 98}
		}
		_, _ = append(z.Args, api.Operand{Kind: 97}), append(z.Kids, api.Expr{Op: 96})
		z.Args, z.Kids = had.Args, had.Kids
		if !same(y, want) {
			t.Fatalf("%s shares a list with others", brief(had))
		}
	}
	if a[1] != param(0) || len(k) != 2 {
		t.Error(a, k)
	}
}

// What lies behind the end of a list is neither read nor written.
func TestBehindTheEnd(t *testing.T) {
	operands := []api.Operand{at("s"), param(0), param(7), at("x")}
	kids := []api.Expr{test(api.XLike, 0, operands[:2]...), {Op: api.XLike, Args: operands[:2]}, {Op: 99, Args: operands}}
	x := api.Expr{Op: api.XAnd, Kids: kids[:2]}
	had := clone(api.Expr{Kids: kids})
	y, e := Bind(x, []string{"'x'"})
	if e != api.OK || !same(y, and(like(at("s"), str("x")), like(at("s"), str("x")))) {
		t.Error(y, e)
	}
	wantCheck(t, y, api.OK)
	wantCheck(t, x, api.ErrNone)
	if !same(api.Expr{Kids: kids}, had) {
		t.Error(kids)
	}
	all := []api.Operand{at("s"), at("s"), param(7)}
	wantCheck(t, api.Expr{Op: api.XLike, Args: all[:2], Kids: []api.Expr{{}}[:0]}, api.OK)
}

func TestDatumIsNewMemory(t *testing.T) {
	s := strings.Clone("some text")
	if d := Datum(good(), top, str(s), at("s")); d.Text != s || share(d.Text, s) {
		t.Error(d)
	}
}

func TestTypesStay(t *testing.T) {
	l, want := good(), fmt.Sprint(good())
	for _, s := range []string{"e = 'red'", "x = 1", "l[0] = f", "NOT a[2] LIKE s"} {
		x := parsed(t, s)
		_ = Check(l, top, x)
		for _, o := range args(&x) {
			_ = Datum(l, top, str("red"), *o)
		}
	}
	if fmt.Sprint(l) != want {
		t.Error(l)
	}
}

// Each call answers by its arguments alone, whatever was called before it.
func TestNothingKept(t *testing.T) {
	l, all := good(), []string{"e = 'red'", "x = 1", "b < TRUE", "%0 = 1", "s LIKE %1", "o = 1 AND e = f"}
	for _, s := range all {
		x := parsed(t, s)
		want := Check(l, top, x)
		y, e := Bind(x, []string{"1"})
		for _, u := range all {
			_ = Check(l[:9], 8, parsed(t, u))
			_ = Check(l, top, parsed(t, u))
			_, _ = Bind(parsed(t, u), []string{"2", "'y'"})
			z, f := Bind(x, []string{"1"})
			if g := Check(l, top, x); g != want || f != e || !same(z, y) {
				t.Errorf("%q behind %q: %v, %v", s, u, g, f)
			}
		}
	}
}
