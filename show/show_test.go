package show

import (
	"fmt"
	"math"
	"math/rand"
	"slices"
	"strconv"
	"strings"
	"testing"
	"unsafe"

	"broadsheet/api"
	"broadsheet/expr"
	"broadsheet/token"
)

const most = "18446744073709551615" // 2^64 - 1

func path(s string) api.Operand { return api.Operand{Kind: api.OPath, Text: s} }

func num(n uint64) api.Operand { return api.Operand{Kind: api.ONum, Num: n} }

func minus(n uint64) api.Operand { return api.Operand{Kind: api.ONum, Neg: true, Num: n} }

func text(s string) api.Operand { return api.Operand{Kind: api.OText, Text: s} }

func truth(n uint64) api.Operand { return api.Operand{Kind: api.OBool, Num: n} }

func param(n uint64) api.Operand { return api.Operand{Kind: api.OParam, Num: n} }

func test(op, rel int, args ...api.Operand) api.Expr { return api.Expr{Op: op, Rel: rel, Args: args} }

func node(op int, kids ...api.Expr) api.Expr { return api.Expr{Op: op, Kids: kids} }

func not(x api.Expr) api.Expr { return node(api.XNot, x) }

func and(kids ...api.Expr) api.Expr { return node(api.XAnd, kids...) }

func or(kids ...api.Expr) api.Expr { return node(api.XOr, kids...) }

// is has the text "s = 1".
func is(s string) api.Expr { return test(api.XRel, api.RelEq, path(s), num(1)) }

// same compares all fields; an empty list may be nil.
func same(a, b api.Expr) bool {
	return a.Op == b.Op && a.Rel == b.Rel && slices.Equal(a.Args, b.Args) && slices.EqualFunc(a.Kids, b.Kids, same)
}

// copied shares no memory with a tree.
func copied(x api.Expr) api.Expr {
	x.Args, x.Kids = slices.Clone(x.Args), slices.Clone(x.Kids)
	for i, k := range x.Kids {
		x.Kids[i] = copied(k)
	}
	return x
}

// brief is what a failed test says of a tree.
func brief(x api.Expr) string {
	if n := expr.Size(x); n > 200 {
		return "a tree of size " + strconv.Itoa(n)
	}
	s := fmt.Sprint(x)
	return s[:min(len(s), 1000)]
}

func wantText(t *testing.T, x api.Expr, want string) {
	t.Helper()
	had := copied(x)
	if s, e := Text(x); s != want || e != api.OK {
		t.Errorf("Text of %s: %q, %v, want %q", brief(x), s, e, want)
	}
	if !same(x, had) {
		t.Errorf("Text of %s changed the tree to %s", brief(had), brief(x))
	}
}

func wantError(t *testing.T, x api.Expr, want api.Errno) {
	t.Helper()
	if s, e := Text(x); s != "" || e != want {
		t.Errorf("Text of %s: %q, %v, want %v", brief(x), s, e, want)
	}
}

// places are trees with an operand at each place where one may stand, by their texts with a $ there.
func places(o api.Operand) map[string]api.Expr {
	a, b := path("a"), path("b")
	return map[string]api.Expr{
		"$ = a": test(api.XRel, api.RelEq, o, a), "a >= $": test(api.XRel, api.RelGe, a, o), "$ <> $": test(api.XRel, api.RelNe, o, o),
		"$ BETWEEN a AND b": test(api.XBetween, 0, o, a, b), "a BETWEEN $ AND b": test(api.XBetween, 0, a, o, b), "a BETWEEN b AND $": test(api.XBetween, 0, a, b, o),
		"$ LIKE a": test(api.XLike, 0, o, a), "a LIKE $": test(api.XLike, 0, a, o),
		"NOT $ LIKE a": not(test(api.XLike, 0, o, a)), "a = 1 AND $ < b": and(is("a"), test(api.XRel, api.RelLt, o, b)), "a < $ OR b = 1": or(test(api.XRel, api.RelLt, a, o), is("b")),
	}
}

func wantOperand(t *testing.T, o api.Operand, want string) {
	t.Helper()
	if s, e := Operand(o); s != want || e != api.OK {
		t.Errorf("Operand of %v: %q, %v, want %q", o, s, e, want)
	}
	if l, f := token.Tokens(want); f.Err != api.OK || len(l) > 20 || len(want) > 100 {
		return
	}
	for s, x := range places(o) {
		wantText(t, x, strings.ReplaceAll(s, "$", want))
	}
}

func wantNoOperand(t *testing.T, o api.Operand) {
	t.Helper()
	if s, e := Operand(o); s != "" || e != api.ErrForm {
		t.Errorf("Operand of %v: %q, %v, want %v", o, s, e, api.ErrForm)
	}
	for _, x := range places(o) {
		wantError(t, x, api.ErrForm)
	}
}

// Promise 16.2, paths.

func TestPaths(t *testing.T) {
	for _, s := range []string{
		"a", "Z", "a_1", "a.b", "a[2]", "a[0]", "[3]", "[3].a", "[3][4]", "a.b.c", "a.b[2]", "a[2].b", "a[2][3]", "[1][2].a[3]", "a[12].b", "a[99]", "a[100]", "a[" + most + "]", "[" + most + "].b",
		"true", "and", "Not", "ANDs", "TRUE1", "a.and.like", "[1].or", "OR_", "a.NOT_", "x__", "A9z",
	} {
		wantOperand(t, path(s), s)
	}
}

func TestPathsThatAreNone(t *testing.T) {
	for _, s := range []string{
		"", ".", "[", "]", "[]", "a.", ".a", "a..b", "a.1", "a.[1]", "a.]", "a[", "a[1", "a]", "a1]", "a[]", "a[b]", "a[1]b", "a[1].", "a[1]]", "a[[1]]", "[[1]]", "[1]a", "[1", "1]", "1", "-1", "1a", "_", "_a", "a._b", "a.b.", "a[1.2]", "a[-1]", "a[+1]", "a['1']", "a[%1]", "a[1,2]", "a[1][", "a[1]]2]",
		"a b", " a", "a ", "a .b", "a. b", "a [1]", "a[ 1]", "a[1 ]", "a[1] ", "a[1] .b", "[ 1]", "\ta", "a\n", "a.\rb", "a[\t1]", "a\x00", "\x00", "a\xff", "é", "a.é", "a-b", "a(b)", "(a)", "'a'", "%1", "a%1", "a'b", "a=1", "a = 1", "=",
		"a[00]", "a[01]", "a[007]", "[00]", "[10].a[01]", "a[18446744073709551616]", "[18446744073709551616]", "a[" + most + "0]", "a[1_0]", "a[0x1]", "a[1e2]",
		"a" + strings.Repeat(".b", 1000) + ".", strings.Repeat("[1]", 1000) + "[", "a[" + strings.Repeat("1", 300) + "]", "a[" + strings.Repeat(" ", 300) + "1]",
	} {
		wantNoOperand(t, path(s))
	}
}

func TestWordsAreNoNames(t *testing.T) {
	for _, w := range []string{"AND", "OR", "NOT", "BETWEEN", "LIKE", "TRUE", "FALSE"} {
		for _, s := range []string{w, w + ".a", w + "[1]", "a." + w, "a." + w + ".b", "a." + w + "[1]", "[1]." + w, "a[1]." + w + "[2]", "a[" + w + "]"} {
			wantNoOperand(t, path(s))
		}
		for _, s := range []string{strings.ToLower(w), w + "s", w + "_", w + "1", "a." + w + "s", "x" + w, w[:len(w)-1], "[1]." + strings.ToLower(w)} {
			wantOperand(t, path(s), s)
		}
	}
}

// A path has no bound of its own: neither its names, nor the numbers of its bytes and of its tokens.
func TestLongPaths(t *testing.T) {
	for n := range 40 {
		for _, step := range []string{".b", "[1]", ".and", "[" + most + "]"} {
			wantOperand(t, path("a"+strings.Repeat(step, n)), "a"+strings.Repeat(step, n))
			wantOperand(t, path("[12]"+strings.Repeat(step, n)), "[12]"+strings.Repeat(step, n))
		}
		s := strings.Repeat("n", n+1)
		wantOperand(t, path(s+"."+s+"[0]."+s), s+"."+s+"[0]."+s)
	}
	for _, n := range []int{api.MaxName, api.MaxName + 1, api.MaxTokens, api.MaxTokens + 1, api.MaxFilter, api.MaxFilter + 1, 1 << 20} {
		wantOperand(t, path(strings.Repeat("n", n)), strings.Repeat("n", n))
		wantOperand(t, path("a"+strings.Repeat(".b", n)), "a"+strings.Repeat(".b", n))
		wantOperand(t, path(strings.Repeat("[7]", n)), strings.Repeat("[7]", n))
		for _, x := range []api.Expr{test(api.XRel, api.RelEq, path(strings.Repeat(".b", n)), num(1)), test(api.XRel, api.RelEq, path("a."+strings.Repeat("[7]", n)), num(1))} {
			wantError(t, x, api.ErrForm)
		}
	}
}

// isParsed tells whether the parser takes a text as a path, and has that text for it.
func isParsed(s string) bool {
	x, f := expr.Parse(s + "=1")
	return f.Err == api.OK && x.Op == api.XRel && x.Args[0] == path(s)
}

func wantParsed(t *testing.T, s string) bool {
	t.Helper()
	is := isParsed(s)
	u, e := Operand(path(s))
	if is && (u != s || e != api.OK) || !is && (u != "" || e != api.ErrForm) {
		t.Errorf("Operand of path %q: %q, %v; parsed: %t", s, u, e, is)
	}
	return is
}

// eachText calls a function with each text of up to n pieces of an alphabet.
func eachText(n int, alphabet []string, f func(s string)) {
	var longer func(s string, n int)
	longer = func(s string, n int) {
		f(s)
		if n == 0 {
			return
		}
		for _, p := range alphabet {
			longer(s+p, n-1)
		}
	}
	longer("", n)
}

func TestEachShortPath(t *testing.T) {
	found := 0
	count := func(s string) {
		if wantParsed(t, s) {
			found++
		}
	}
	eachText(6, []string{"a", "0", "1", ".", "[", "]"}, count)
	eachText(4, []string{"a", "Z", "7", "_", ".", "[", "]", " ", "'", "-", "%", "("}, count)
	eachText(5, []string{"OR", "R", ".", "[", "]", "2"}, count)
	if found < 1000 {
		t.Error(found)
	}
}

func TestSpoiltPaths(t *testing.T) {
	for _, s := range []string{"ab.c_9[20].NOTE", "[0][18446744073709551615].x", "OR1.a[1][2]"} {
		if !wantParsed(t, s) {
			t.Error(s)
		}
		for i := range len(s) {
			wantParsed(t, s[:i])
			wantParsed(t, s[i:])
			wantParsed(t, s[:i]+s[i+1:])
			for c := range 256 {
				b := string([]byte{byte(c)})
				wantParsed(t, s[:i]+b+s[i:])
				wantParsed(t, s[:i]+b+s[i+1:])
				wantParsed(t, s+b)
			}
		}
	}
}

// Promise 16.2, other operands.

func numbers() []uint64 {
	return []uint64{0, 1, 2, 9, 10, 11, 255, 256, 1 << 31, 1 << 32, 1<<63 - 1, 1 << 63, 1<<63 + 1, math.MaxUint64 - 1, math.MaxUint64}
}

func TestNumbers(t *testing.T) {
	for _, n := range numbers() {
		s := strconv.FormatUint(n, 10)
		wantOperand(t, num(n), s)
		wantOperand(t, minus(n), "-"+s)
	}
	wantOperand(t, minus(0), "-0")
	wantOperand(t, num(math.MaxUint64), most)
}

func TestTexts(t *testing.T) {
	for s, want := range map[string]string{"": "''", "a": "'a'", "'": "''''", "''": "''''''", "it's": "'it''s'", " ": "' '", "'a'": "'''a'''", "a = 1 AND b": "'a = 1 AND b'", "TRUE": "'TRUE'", "%0": "'%0'", "~ ": "'~ '"} {
		wantOperand(t, text(s), want)
	}
	for c := range 256 {
		b := string([]byte{byte(c)})
		for _, s := range []string{b, b + "x", "x" + b, "x" + b + "y", "'" + b} {
			if c < 32 || c > 126 {
				wantNoOperand(t, text(s))
				continue
			}
			wantOperand(t, text(s), token.Quote(s))
		}
	}
	for _, s := range []string{"é", "it's\x00", "\n", "x\ty", "\x7f", "\xff\xfe", "a\r", strings.Repeat("x", 1000) + "\n"} {
		wantNoOperand(t, text(s))
	}
	wantOperand(t, text(strings.Repeat("'", 1<<16)), strings.Repeat("'", 1<<17+2))
	wantOperand(t, text(strings.Repeat("x", api.MaxFilter)), "'"+strings.Repeat("x", api.MaxFilter)+"'")
}

func TestTruthValuesAndParams(t *testing.T) {
	wantOperand(t, truth(1), "TRUE")
	wantOperand(t, truth(0), "FALSE")
	for d := range uint64(10) {
		wantOperand(t, param(d), "%"+string([]byte{byte('0' + d)}))
	}
	for _, n := range numbers() {
		if n > 1 {
			wantNoOperand(t, truth(n))
		}
		if n > 9 {
			wantNoOperand(t, param(n))
		}
	}
}

// Each field that a kind gives no meaning must be zero.
func TestFieldsOfOperands(t *testing.T) {
	for _, o := range []api.Operand{path("a"), num(1), num(0), text("a"), text(""), truth(0), truth(1), param(0), param(9)} {
		isText := o.Kind == api.OPath || o.Kind == api.OText
		for _, n := range numbers() {
			x := o
			x.Num = n
			if isText && n != 0 {
				wantNoOperand(t, x)
			}
		}
		x := o
		x.Neg = true
		if o.Kind != api.ONum {
			wantNoOperand(t, x)
		}
		for _, s := range []string{"a", "0", "1", "-1", " ", "TRUE", "%0", "\x00"} {
			x := o
			x.Text = s
			if !isText {
				wantNoOperand(t, x)
			}
		}
	}
}

func TestKindsOfOperands(t *testing.T) {
	for _, kind := range []int{math.MinInt, -1, 0, api.OParam + 1, 7, 257, math.MaxInt} {
		for _, o := range []api.Operand{{}, path("a"), num(1), minus(1), text("a"), truth(1), param(1)} {
			o.Kind = kind
			wantNoOperand(t, o)
		}
	}
}

// Promise 16.1, the form.

func TestExample(t *testing.T) {
	a, b := test(api.XRel, api.RelEq, path("a"), num(1)), test(api.XRel, api.RelEq, path("b"), num(2))
	c := test(api.XRel, api.RelLt, path("c"), num(3))
	wantText(t, and(or(a, b), not(c)), "(a = 1 OR b = 2) AND NOT c < 3")
}

func relations() map[int]string {
	return map[int]string{api.RelEq: "=", api.RelNe: "<>", api.RelLt: "<", api.RelLe: "<=", api.RelGt: ">", api.RelGe: ">="}
}

func TestRelations(t *testing.T) {
	for r, s := range relations() {
		wantText(t, test(api.XRel, r, path("a.b"), minus(5)), "a.b "+s+" -5")
		wantText(t, test(api.XRel, r, text("x y"), path("[1]")), "'x y' "+s+" [1]")
		wantText(t, not(test(api.XRel, r, param(1), truth(1))), "NOT %1 "+s+" TRUE")
	}
	for _, r := range []int{math.MinInt, -1, 0, api.RelGe + 1, 257, math.MaxInt} {
		wantError(t, test(api.XRel, r, path("a"), num(1)), api.ErrForm)
	}
}

func TestBetweenAndLike(t *testing.T) {
	x := test(api.XBetween, 0, path("x"), minus(1), param(2))
	y := test(api.XLike, 0, path("y"), text("it's"))
	wantText(t, x, "x BETWEEN -1 AND %2")
	wantText(t, not(x), "NOT x BETWEEN -1 AND %2")
	wantText(t, and(x, x), "x BETWEEN -1 AND %2 AND x BETWEEN -1 AND %2")
	wantText(t, y, "y LIKE 'it''s'")
	wantText(t, or(not(y), x), "NOT y LIKE 'it''s' OR x BETWEEN -1 AND %2")
}

// hasShape is the chapter's list of how many Args and Kids each Op has, and whether it has a Rel.
func hasShape(op, rel, args, kids int) bool {
	isRelation := rel == api.RelEq || rel == api.RelNe || rel == api.RelLt || rel == api.RelLe || rel == api.RelGt || rel == api.RelGe
	return op == api.XRel && isRelation && args == 2 && kids == 0 ||
		op == api.XBetween && rel == 0 && args == 3 && kids == 0 ||
		op == api.XLike && rel == 0 && args == 2 && kids == 0 ||
		op == api.XNot && rel == 0 && args == 0 && kids == 1 ||
		(op == api.XAnd || op == api.XOr) && rel == 0 && args == 0 && kids >= 2
}

func TestEachShape(t *testing.T) {
	found := 0
	args := []api.Operand{path("a"), num(1), num(2), num(3), num(4)}
	kids := []api.Expr{is("a"), is("b"), is("c"), is("d"), is("e")}
	for _, op := range []int{math.MinInt, -1, 0, api.XRel, api.XBetween, api.XLike, api.XNot, api.XAnd, api.XOr, api.XOr + 1, 257, math.MaxInt} {
		for _, rel := range []int{math.MinInt, -1, 0, 1, 2, 3, 4, 5, 6, 7, math.MaxInt} {
			for n := range 5 {
				for m := range 5 {
					x := api.Expr{Op: op, Rel: rel, Args: args[:n], Kids: kids[:m]}
					if hasShape(op, rel, n, m) {
						wantTold(t, x)
						found++
						continue
					}
					wantError(t, x, api.ErrForm)
					wantError(t, not(x), api.ErrForm)
					wantError(t, or(is("a"), x), api.ErrForm)
				}
			}
		}
	}
	if found != 6+1+1+1+2*3 {
		t.Error(found)
	}
}

// An empty list may be nil or have length 0.
func TestEmptyLists(t *testing.T) {
	x := is("a")
	x.Kids = []api.Expr{}
	wantText(t, x, "a = 1")
	x = not(x)
	x.Args = []api.Operand{}
	wantText(t, x, "NOT a = 1")
	x = and(x, x)
	x.Args = []api.Operand{}
	wantText(t, x, "NOT a = 1 AND NOT a = 1")
	wantError(t, api.Expr{Op: api.XAnd, Args: []api.Operand{}, Kids: []api.Expr{}}, api.ErrForm)
}

// What lies behind the end of a list is neither printed nor checked.
func TestBehindTheEnd(t *testing.T) {
	args := []api.Operand{path("a"), num(1), num(2), {Kind: -1}}
	kids := []api.Expr{is("a"), is("b"), {}, is("c")}
	wantText(t, test(api.XBetween, 0, args[:3]...), "a BETWEEN 1 AND 2")
	wantText(t, test(api.XRel, api.RelEq, args[:2]...), "a = 1")
	wantText(t, node(api.XOr, kids[:2]...), "a = 1 OR b = 1")
	wantText(t, node(api.XNot, kids[1:2]...), "NOT b = 1")
	wantError(t, node(api.XOr, kids[:3]...), api.ErrForm)
}

// spoilt are expressions that are not printable, each for one reason.
func spoilt() []api.Expr {
	withRel := func(x api.Expr) api.Expr { x.Rel = api.RelEq; return x }
	withArgs := func(x api.Expr) api.Expr { x.Args = []api.Operand{num(1)}; return x }
	withKids := func(x api.Expr) api.Expr { x.Kids = []api.Expr{is("a")}; return x }
	like, between := test(api.XLike, 0, path("a"), text("x")), test(api.XBetween, 0, path("a"), num(1), num(2))
	return []api.Expr{
		{}, {Op: 7}, test(api.XRel, 0, num(1), num(2)), test(api.XRel, 7, num(1), num(2)), test(api.XRel, 1, num(1)), test(api.XBetween, 0, num(1), num(2)), test(api.XLike, 0, num(1)),
		withKids(is("a")), withKids(like), withKids(between), withRel(like), withRel(between), withRel(not(like)), withRel(and(like, like)), withRel(or(like, like)), withArgs(not(like)), withArgs(and(like, like)), withArgs(or(like, like)),
		node(api.XNot), not(api.Expr{}), node(api.XNot, like, like), node(api.XAnd), and(like), node(api.XOr), or(like),
		is(""), is("a b"), is("NOT"), is("a."), is("a[01]"), test(api.XRel, 1, truth(2), num(1)), test(api.XRel, 1, num(1), param(10)), test(api.XLike, 0, path("a"), text("\n")),
		test(api.XBetween, 0, num(1), num(2), api.Operand{}), test(api.XBetween, 0, num(1), api.Operand{Kind: api.ONum, Text: "2"}, num(3)), test(api.XBetween, 0, api.Operand{Kind: api.OText, Num: 1}, num(2), num(3)),
	}
}

// ErrForm counts ahead of all others, wherever its reason is.
func TestErrForm(t *testing.T) {
	long := is(strings.Repeat("x", api.MaxFilter))
	deep := nots(is("a"), api.MaxNest+1)
	wide := or(slices.Repeat([]api.Expr{is("a")}, 20)...)
	wantError(t, long, api.ErrLong)
	wantError(t, deep, api.ErrDeep)
	wantError(t, wide, api.ErrLong)
	for _, x := range spoilt() {
		wantError(t, x, api.ErrForm)
		for _, y := range []api.Expr{is("a"), long, deep, wide} {
			for _, op := range []int{api.XAnd, api.XOr} {
				wantError(t, node(op, x, y), api.ErrForm)
				wantError(t, node(op, y, x), api.ErrForm)
				wantError(t, node(op, y, y, not(x)), api.ErrForm)
				wantError(t, not(node(op, y, or(x, y), y)), api.ErrForm)
			}
		}
		for n := range 100 {
			wantError(t, nots(x, n), api.ErrForm)
		}
	}
}

// Promise 16.1, what is between and about Kids.

func TestParentheses(t *testing.T) {
	a, b, c, d := is("a"), is("b"), is("c"), is("d")
	for s, x := range map[string]api.Expr{
		"a": a, "!a": not(a), "!!a": not(not(a)), "!!!a": not(not(not(a))), "a&b": and(a, b), "a|b": or(a, b), "a&b&c": and(a, b, c), "a|b|c|d": or(a, b, c, d),
		"a&b|c": or(and(a, b), c), "a|b&c": or(a, and(b, c)), "a&b|c&d": or(and(a, b), and(c, d)), "a|b&c|d": or(a, and(b, c), d),
		"(a&b)&c": and(and(a, b), c), "a&(b&c)": and(a, and(b, c)), "(a|b)|c": or(or(a, b), c), "a|(b|c)": or(a, or(b, c)), "a&(b&c)&d": and(a, and(b, c), d), "a|(b|c)|d": or(a, or(b, c), d),
		"(a|b)&c": and(or(a, b), c), "a&(b|c)": and(a, or(b, c)), "(a|b)&(c|d)": and(or(a, b), or(c, d)), "((a|b)&c)&d": and(and(or(a, b), c), d), "(a|b)&c|d": or(and(or(a, b), c), d),
		"!(a&b)": not(and(a, b)), "!(a|b)": not(or(a, b)), "!!(a&b)": not(not(and(a, b))), "!(!a|b)": not(or(not(a), b)), "!a&b": and(not(a), b), "!a|b": or(not(a), b), "a&!b": and(a, not(b)), "a|!b": or(a, not(b)),
		"!(a|b)|(c|d)": or(not(or(a, b)), or(c, d)), "!(a&b)&c": and(not(and(a, b)), c), "!(a&b)|c": or(not(and(a, b)), c), "!(a&!(b|c))": not(and(a, not(or(b, c)))),
		"(((a|b)|c)|d)|a": or(or(or(or(a, b), c), d), a), "a&(b|c&d)": and(a, or(b, and(c, d))), "a&(b|(c|d))": and(a, or(b, or(c, d))), "(a&b|c)&d": and(or(and(a, b), c), d),
	} {
		s = strings.NewReplacer("!", "NOT ", "&", " AND ", "|", " OR ", "a", "a = 1", "b", "b = 1", "c", "c = 1", "d", "d = 1").Replace(s)
		wantText(t, x, s)
	}
}

// leaves has a tree of each Op, with its text.
func leaves() map[string]api.Expr {
	return map[string]api.Expr{
		"a = 1": is("a"), "b BETWEEN 1 AND 2": test(api.XBetween, 0, path("b"), num(1), num(2)), "c LIKE 'x%'": test(api.XLike, 0, path("c"), text("x%")),
		"NOT d = 1": not(is("d")), "e = 1 AND f = 1": and(is("e"), is("f")), "g = 1 OR h = 1": or(is("g"), is("h")),
	}
}

func TestEachKidOfEachParent(t *testing.T) {
	for s, x := range leaves() {
		inNot, inAnd, inOr := s, s, s
		switch x.Op {
		case api.XAnd:
			inNot, inAnd = "("+s+")", "("+s+")"
		case api.XOr:
			inNot, inAnd, inOr = "("+s+")", "("+s+")", "("+s+")"
		}
		wantText(t, x, s)
		wantText(t, not(x), "NOT "+inNot)
		for n := 2; n <= 4; n++ {
			for i := range n {
				kids := slices.Repeat([]api.Expr{is("z")}, n)
				texts := slices.Repeat([]string{"z = 1"}, n)
				kids[i] = x
				texts[i] = inAnd
				wantText(t, and(kids...), strings.Join(texts, " AND "))
				texts[i] = inOr
				wantText(t, or(kids...), strings.Join(texts, " OR "))
			}
		}
	}
}

// Promise 16.1, ErrLong.

func TestBytesOfTexts(t *testing.T) {
	for n := api.MaxFilter - 10; n <= api.MaxFilter+10; n++ {
		for _, x := range []struct {
			ahead, behind string
			x             func(s string) api.Expr
		}{
			{"", " = 1", is},
			{"NOT ", " = 1", func(s string) api.Expr { return not(is(s)) }},
			{"a.", " = 1", func(s string) api.Expr { return is("a." + s) }},
			{"a = '", "'", func(s string) api.Expr { return test(api.XRel, api.RelEq, path("a"), text(s)) }},
			{"a = '''", "'''", func(s string) api.Expr { return test(api.XRel, api.RelEq, path("a"), text("'"+s+"'")) }},
			{"'", "' LIKE %1", func(s string) api.Expr { return test(api.XLike, 0, text(s), param(1)) }},
			{"a = 1 AND (b = 1 OR ", " = 1)", func(s string) api.Expr { return and(is("a"), or(is("b"), is(s))) }},
			{"", " = 1 OR a = 1", func(s string) api.Expr { return or(is(s), is("a")) }},
			{"a BETWEEN -7 AND ", "", func(s string) api.Expr { return test(api.XBetween, 0, path("a"), minus(7), path(s)) }},
		} {
			s := strings.Repeat("x", n-len(x.ahead)-len(x.behind))
			if n <= api.MaxFilter {
				wantText(t, x.x(s), x.ahead+s+x.behind)
				continue
			}
			wantError(t, x.x(s), api.ErrLong)
		}
	}
	// The bytes are those of the text, in which each ' of a text stands twice.
	for n := 100; n < 200; n++ {
		want := api.OK
		if len("a = ''")+2*n > api.MaxFilter {
			want = api.ErrLong
		}
		if _, e := Text(test(api.XRel, api.RelEq, path("a"), text(strings.Repeat("'", n)))); e != want {
			t.Errorf("%d: %v", n, e)
		}
	}
}

func TestTokensOfTexts(t *testing.T) {
	// Each test has three tokens, and a word is between each two.
	kids := slices.Repeat([]api.Expr{is("a")}, api.MaxTokens/4)
	s := strings.Repeat("a = 1 OR ", len(kids)-1) + "a = 1"
	wantText(t, or(kids...), s)
	kids[0] = not(is("a"))
	wantText(t, or(kids...), "NOT "+s)
	kids[1] = not(is("a"))
	wantError(t, or(kids...), api.ErrLong)
	kids[0], kids[1] = is("a.b"), is("a")
	wantError(t, or(kids...), api.ErrLong)
	kids[0] = test(api.XRel, api.RelEq, path("a"), minus(1))
	wantText(t, or(kids...), "a = -1"+s[5:])
	kids[1] = kids[0]
	wantError(t, or(kids...), api.ErrLong)
	wantError(t, or(append(kids, is("a"))...), api.ErrLong)
	// All tokens of a path count.
	for n := range 31 {
		p := "a" + strings.Repeat(".b", n)
		wantText(t, is(p), p+" = 1")
	}
	wantError(t, is("a"+strings.Repeat(".b", 31)), api.ErrLong)
	wantText(t, not(is("[1]"+strings.Repeat("[2]", 19))), "NOT [1]"+strings.Repeat("[2]", 19)+" = 1")
	wantError(t, is("[1]"+strings.Repeat("[2]", 20)), api.ErrLong)
	// A text is one token, whatever is in it.
	wantText(t, test(api.XLike, 0, path("a"), text(strings.Repeat("a b ", 50))), "a LIKE '"+strings.Repeat("a b ", 50)+"'")
	// Parentheses are tokens as well.
	x := is("a")
	for n := range 20 {
		want := api.OK
		switch {
		case 3+4*n+2*max(n-1, 0) > api.MaxTokens:
			want = api.ErrLong
		case n-1 > api.MaxNest:
			want = api.ErrDeep
		}
		if _, e := Text(x); e != want {
			t.Errorf("%d: %v, want %v", n, e, want)
		}
		x = and(x, is("a"))
	}
}

func TestErrLongAheadOfErrDeep(t *testing.T) {
	for n := range 70 {
		want := api.OK
		switch {
		case n+3 > api.MaxTokens:
			want = api.ErrLong
		case n > api.MaxNest:
			want = api.ErrDeep
		}
		if _, e := Text(nots(is("a"), n)); e != want {
			t.Errorf("%d: %v, want %v", n, e, want)
		}
	}
	for n := range 300 {
		x := nots(is(strings.Repeat("x", 1+n)), api.MaxNest+1)
		if 4*(api.MaxNest+1)+1+n+4 > api.MaxFilter {
			wantError(t, x, api.ErrLong)
			continue
		}
		wantError(t, x, api.ErrDeep)
	}
}

// Promise 16.1, ErrDeep.

func nots(x api.Expr, n int) api.Expr {
	for range n {
		x = not(x)
	}
	return x
}

func TestNots(t *testing.T) {
	for n := range 20 {
		for s, x := range leaves() {
			if x.Op == api.XAnd || x.Op == api.XOr || x.Op == api.XNot {
				continue
			}
			if n <= api.MaxNest {
				wantText(t, nots(x, n), strings.Repeat("NOT ", n)+s)
				continue
			}
			wantError(t, nots(x, n), api.ErrDeep)
			wantError(t, and(is("a"), nots(x, n)), api.ErrDeep)
			wantError(t, or(nots(x, n), is("a")), api.ErrDeep)
		}
	}
	// The parentheses of a Kid are within the NOT.
	wantText(t, nots(or(is("a"), is("b")), api.MaxNest-1), strings.Repeat("NOT ", api.MaxNest-1)+"(a = 1 OR b = 1)")
	wantError(t, nots(or(is("a"), is("b")), api.MaxNest), api.ErrDeep)
	wantError(t, nots(and(is("a"), is("b")), api.MaxNest), api.ErrDeep)
}

// within has so many NOTs and parentheses about a test, as the bits of a number tell, if it is the Kid of an XOr.
func within(n, bits int) (string, api.Expr) {
	s, x := "a = 1", is("a")
	for i := range n {
		if bits>>i&1 == 0 {
			s, x = "NOT "+s, not(x)
			continue
		}
		s, x = "("+s+" OR b = 1)", or(x, is("b"))
	}
	return s, x
}

func TestNesting(t *testing.T) {
	for n := range api.MaxNest + 3 {
		for bits := range 1 << n {
			s, x := within(n, bits)
			s, x = "z = 1 OR "+s, or(is("z"), x)
			switch l, f := token.Tokens(s); {
			case f.Err == api.ErrLong || len(l) > api.MaxTokens+1:
				wantError(t, x, api.ErrLong)
			case n > api.MaxNest:
				wantError(t, x, api.ErrDeep)
			default:
				wantText(t, x, s)
			}
		}
	}
}

// Only those that contain others count, not those beside them.
func TestNestingSideBySide(t *testing.T) {
	s := strings.Repeat("NOT ", api.MaxNest) + "a = 1"
	x := nots(is("a"), api.MaxNest)
	wantText(t, and(x, x), s+" AND "+s)
	wantText(t, or(x, x, x), s+" OR "+s+" OR "+s)
	wantText(t, or(and(x, x), x), s+" AND "+s+" OR "+s)
	wantError(t, and(x, or(x, x)), api.ErrDeep)
	wantError(t, or(x, or(x, x)), api.ErrDeep)
	wantError(t, and(and(x, x), x), api.ErrDeep)
	y := or(slices.Repeat([]api.Expr{or(is("a"), is("b"))}, 6)...)
	wantText(t, y, strings.Repeat("(a = 1 OR b = 1) OR ", 5)+"(a = 1 OR b = 1)")
	wantText(t, or(slices.Repeat([]api.Expr{not(is("a"))}, 12)...), strings.Repeat("NOT a = 1 OR ", 11)+"NOT a = 1")
}

// What is large.

func TestLargeTrees(t *testing.T) {
	const large = 1 << 16
	deep := nots(is("a"), large-1)
	wantError(t, deep, api.ErrLong)
	wantError(t, nots(is(""), large-1), api.ErrForm)
	kids := slices.Repeat([]api.Expr{is("a")}, large)
	wantError(t, or(kids...), api.ErrLong)
	wantError(t, and(kids...), api.ErrLong)
	kids[large-1] = api.Expr{}
	wantError(t, or(kids...), api.ErrForm)
	wide := is("a")
	for range 20 {
		wide = or(wide, wide)
	}
	wantError(t, wide, api.ErrLong)
	wantError(t, and(wide, is("a ")), api.ErrForm)
	wantError(t, test(api.XLike, 0, path("a"), text(strings.Repeat("'", 1<<24))), api.ErrLong)
	wantError(t, test(api.XRel, api.RelEq, path("a"), path(strings.Repeat("b.", 1<<20)+"c")), api.ErrLong)
	x := is("a")
	for range large - 1 {
		x = and(x, is("b"))
	}
	wantError(t, x, api.ErrLong)
}

// Against a printer of the tests' own.

func toldOperand(o api.Operand) string {
	digits := strconv.FormatUint(o.Num, 10)
	switch {
	case o.Kind == api.OPath:
		return o.Text
	case o.Kind == api.OText:
		return "'" + strings.Join(strings.Split(o.Text, "'"), "''") + "'"
	case o.Kind == api.OBool && o.Num == 1:
		return "TRUE"
	case o.Kind == api.OBool:
		return "FALSE"
	case o.Kind == api.OParam:
		return "%" + digits
	case o.Neg:
		return "-" + digits
	}
	return digits
}

// isEnclosed has a row for each pair in which the Kid is in parentheses.
func isEnclosed(op, kid int) bool {
	pairs := [][2]int{{api.XNot, api.XAnd}, {api.XNot, api.XOr}, {api.XAnd, api.XAnd}, {api.XAnd, api.XOr}, {api.XOr, api.XOr}}
	return slices.Contains(pairs, [2]int{op, kid})
}

// signs are the words between the operands of an expression, or its Kids.
func signs(x api.Expr) []string {
	switch x.Op {
	case api.XRel:
		return []string{relations()[x.Rel]}
	case api.XBetween:
		return []string{"BETWEEN", "AND"}
	case api.XLike:
		return []string{"LIKE"}
	case api.XAnd:
		return slices.Repeat([]string{"AND"}, len(x.Kids)-1)
	case api.XOr:
		return slices.Repeat([]string{"OR"}, len(x.Kids)-1)
	}
	return nil
}

// words are what single blanks separate, and the greatest number of NOTs and parentheses within one another.
func words(x api.Expr) ([]string, int) {
	var parts [][]string
	deep := 0
	for _, o := range x.Args {
		parts = append(parts, []string{toldOperand(o)})
	}
	for _, k := range x.Kids {
		l, n := words(k)
		if isEnclosed(x.Op, k.Op) {
			l[0], l[len(l)-1] = "("+l[0], l[len(l)-1]+")"
			n++
		}
		parts, deep = append(parts, l), max(deep, n)
	}
	var out []string
	if x.Op == api.XNot {
		out, deep = []string{"NOT"}, deep+1
	}
	for i, s := range append(signs(x), "") {
		out = append(out, parts[i]...)
		if s != "" {
			out = append(out, s)
		}
	}
	return out, deep
}

// countTokens splits word by word, since the whole may be too long.
func countTokens(l []string) int {
	n := 0
	for _, s := range l {
		bare := strings.TrimRight(strings.TrimLeft(s, "("), ")")
		own, _ := token.Tokens(bare)
		n += len(s) - len(bare) + max(len(own)-1, 0)
	}
	return n
}

// told is what Text should return of a printable tree.
func told(x api.Expr) (string, api.Errno) {
	l, deep := words(x)
	s := strings.Join(l, " ")
	switch {
	case len(s) > api.MaxFilter || countTokens(l) > api.MaxTokens:
		return "", api.ErrLong
	case deep > api.MaxNest:
		return "", api.ErrDeep
	}
	return s, api.OK
}

// wantTold wants what is printed to be parsed as the same tree, too.
func wantTold(t *testing.T, x api.Expr) api.Errno {
	t.Helper()
	s, e := told(x)
	if e != api.OK {
		wantError(t, x, e)
		return e
	}
	wantText(t, x, s)
	if y, f := expr.Parse(s); f != (api.Fault{}) || !same(x, y) {
		t.Errorf("%q is parsed as %s, %v at %d, and not as %s", s, brief(y), f.Err, f.At, brief(x))
	}
	return e
}

func TestTold(t *testing.T) {
	for s, x := range leaves() {
		if u, e := told(x); u != s || e != api.OK {
			t.Errorf("%q, %v, want %q", u, e, s)
		}
	}
	x := and(or(is("a"), is("b")), not(and(not(is("c")), is("d.e[1]"))))
	l, deep := words(x)
	s, e := told(x)
	if want := "(a = 1 OR b = 1) AND NOT (NOT c = 1 AND d.e[1] = 1)"; s != want || e != api.OK || deep != 3 || countTokens(l) != 26 {
		t.Errorf("%q, %v, %d deep, %d tokens", s, e, deep, countTokens(l))
	}
}

// trees are all of so many levels at most, of three tests and with two Kids for each AND and OR.
func trees(levels int) []api.Expr {
	l := []api.Expr{is("a"), test(api.XBetween, 0, text("b"), minus(1), param(2)), test(api.XLike, 0, path("c[3]"), truth(0))}
	out := slices.Clone(l)
	for range levels - 1 {
		below := out
		out = slices.Clone(l)
		for _, x := range below {
			out = append(out, not(x))
			for _, y := range below {
				out = append(out, and(x, y), or(x, y))
			}
		}
	}
	return out
}

func TestEachSmallTree(t *testing.T) {
	small := trees(3)
	if len(small) < 1000 {
		t.Error(len(small))
	}
	for i, x := range small {
		wantTold(t, x)
		y := small[i*7%len(small)]
		wantTold(t, not(x))
		for _, op := range []int{api.XAnd, api.XOr} {
			wantTold(t, node(op, x, y, x))
			wantTold(t, node(op, y, not(x), not(not(y)), x))
			wantTold(t, not(node(op, not(node(op, x, y)), x)))
		}
	}
}

// maker makes trees that are printable.
type maker struct {
	*rand.Rand
}

func (m maker) one(l ...string) string { return l[m.Intn(len(l))] }

func (m maker) path() string {
	s := m.one("a", "a", "b_1", "Xyz", "and", "TRUEish", "[0]", "[7]", "["+most+"]")
	for m.Intn(3) == 0 {
		s += m.one(".a", ".or", ".b__", "[0]", "[63]")
	}
	return s
}

func (m maker) operand() api.Operand {
	switch m.Intn(6) {
	case 0, 1:
		return path(m.path())
	case 2:
		return api.Operand{Kind: api.ONum, Neg: m.Intn(2) == 0, Num: m.Uint64() >> m.Intn(64)}
	case 3:
		return text(m.one("", "x", "it's", "%", "AND", " ) ", "'", "''", "a = 1 OR b = 2", strings.Repeat("~", m.Intn(60))))
	case 4:
		return param(uint64(m.Intn(10)))
	}
	return truth(uint64(m.Intn(2)))
}

func (m maker) test() api.Expr {
	switch m.Intn(5) {
	case 0:
		return test(api.XLike, 0, m.operand(), m.operand())
	case 1:
		return test(api.XBetween, 0, m.operand(), m.operand(), m.operand())
	}
	return test(api.XRel, 1+m.Intn(6), m.operand(), m.operand())
}

func (m maker) tree(n int) api.Expr {
	if n == 0 || m.Intn(4) == 0 {
		return m.test()
	}
	if m.Intn(5) < 2 {
		return not(m.tree(n - 1))
	}
	x := node(api.XAnd + m.Intn(2))
	for range 2 + m.Intn(4)/2 {
		x.Kids = append(x.Kids, m.tree(m.Intn(n)))
	}
	return x
}

// chain is a deep tree of few operands.
func (m maker) chain(n int) api.Expr {
	x := is("a")
	for range n {
		switch m.Intn(3) {
		case 0:
			x = not(x)
		case 1:
			x = and(x, is("b"))
		default:
			x = or(is("c"), x)
		}
	}
	return x
}

func TestRandomTrees(t *testing.T) {
	m, found := maker{rand.New(rand.NewSource(16))}, map[api.Errno]int{}
	for range 30000 {
		found[wantTold(t, m.tree(m.Intn(6)))]++
		found[wantTold(t, m.chain(m.Intn(16)))]++
	}
	for _, e := range []api.Errno{api.OK, api.ErrLong, api.ErrDeep} {
		if found[e] < 1000 {
			t.Error(found)
		}
	}
}

// nodes are a tree's expressions.
func nodes(x *api.Expr) []*api.Expr {
	l := []*api.Expr{x}
	for i := range x.Kids {
		l = append(l, nodes(&x.Kids[i])...)
	}
	return l
}

// Random trees in which one expression, or one operand, is not printable.
func TestSpoiltTrees(t *testing.T) {
	m, bad := maker{rand.New(rand.NewSource(161))}, spoilt()
	operands := []api.Operand{{}, path(""), path("AND"), path("a "), path("a[00]"), path("a..b"), text("\x1f"), text("\x7f"), truth(2), param(10), {Kind: 6}, {Kind: api.OPath, Text: "a", Neg: true}, {Kind: api.ONum, Text: "1"}, {Kind: api.OText, Num: 1}, {Kind: api.OBool, Neg: true}, {Kind: api.OParam, Text: "1"}}
	for range 20000 {
		x := m.tree(m.Intn(6))
		l := nodes(&x)
		y := l[m.Intn(len(l))]
		if len(y.Args) > 0 && m.Intn(2) == 0 {
			y.Args[m.Intn(len(y.Args))] = operands[m.Intn(len(operands))]
		} else {
			*y = bad[m.Intn(len(bad))]
		}
		wantError(t, x, api.ErrForm)
	}
}

// Promise 16.3.

// loose are the tokens of a filter that has a tree, with some parentheses that need not be.
func (m maker) loose(x api.Expr) []string {
	var l []string
	between := signs(x)
	kids := x.Kids
	if x.Op == api.XNot {
		if y := x.Kids[0]; y.Op == api.XBetween && m.Intn(2) == 0 {
			x, between, kids = y, []string{"NOT BETWEEN", "AND"}, nil
		} else {
			l = append(l, "NOT")
		}
	}
	for i, o := range x.Args {
		if i > 0 {
			l = append(l, between[i-1])
		}
		l = append(l, toldOperand(o))
	}
	for i, k := range kids {
		if i > 0 {
			l = append(l, between[i-1])
		}
		inner := m.loose(k)
		if isEnclosed(x.Op, k.Op) || m.Intn(6) == 0 {
			inner = slices.Concat([]string{"("}, inner, []string{")"})
		}
		l = append(l, inner...)
	}
	return l
}

func isLetter(c byte) bool {
	return c >= '0' && c <= '9' || c == '_' || c >= 'a' && c <= 'z' || c >= 'A' && c <= 'Z'
}

// spaced puts blanks between tokens, at least where letters or digits would meet.
func (m maker) spaced(l []string) string {
	s := ""
	for _, x := range l {
		isMet := s != "" && isLetter(s[len(s)-1]) && isLetter(x[0])
		if isMet || m.Intn(3) == 0 {
			s += m.one(" ", " ", "\t", "\n", "\r", "  ")
		}
		s += x
	}
	return s
}

// A parsed tree is printable, unless its text is too long or too deeply nested.
func TestParsedTrees(t *testing.T) {
	m, found := maker{rand.New(rand.NewSource(163))}, map[api.Errno]int{}
	for range 40000 {
		want := m.tree(m.Intn(5))
		if m.Intn(2) == 0 {
			want = m.chain(m.Intn(12))
		}
		s := m.spaced(m.loose(want))
		x, f := expr.Parse(s)
		switch f.Err {
		case api.ErrLong, api.ErrDeep:
			continue
		case api.OK:
			if !same(x, want) {
				t.Errorf("%q is parsed as %s, and not as %s", s, brief(x), brief(want))
			}
			found[wantTold(t, x)]++
		default:
			t.Errorf("%q: %v at %d", s, f.Err, f.At)
		}
	}
	if found[api.OK] < 10000 {
		t.Error(found)
	}
}

func wantPrinted(t *testing.T, s, want string, e api.Errno) {
	t.Helper()
	x, f := expr.Parse(s)
	if u, g := Text(x); f != (api.Fault{}) || u != want || g != e {
		t.Errorf("%q is parsed (%v at %d) and printed as %q, %v, want %q, %v", s, f.Err, f.At, u, g, want, e)
	}
}

func TestParsedAndPrinted(t *testing.T) {
	for s, want := range map[string]string{
		"a=1": "a = 1", " ( ( a = 1 ) ) ": "a = 1", "a . b [ 2 ]<>- 3": "a.b[2] <> -3", "x NOT BETWEEN 1 AND 2": "NOT x BETWEEN 1 AND 2", "NOT(x NOT BETWEEN 1 AND 2)": "NOT NOT x BETWEEN 1 AND 2",
		"(a=1 AND b=1)OR(c=1)": "a = 1 AND b = 1 OR c = 1", "((a=1 OR b=1))OR c=1": "(a = 1 OR b = 1) OR c = 1", "NOT (a LIKE 'it''s')": "NOT a LIKE 'it''s'", "NOT(a=1)AND(NOT b=1)": "NOT a = 1 AND NOT b = 1",
		"-0=0": "-0 = 0", "((((((((a NOT BETWEEN 1 AND 2))))))))": "NOT a BETWEEN 1 AND 2",
	} {
		wantPrinted(t, s, want, api.OK)
	}
	// The NOT of NOT BETWEEN has no nesting of its own, until it is printed.
	n := strings.Repeat("NOT ", api.MaxNest)
	wantPrinted(t, n+"a BETWEEN 1 AND 2", n+"a BETWEEN 1 AND 2", api.OK)
	wantPrinted(t, n[4:]+"a NOT BETWEEN 1 AND 2", n+"a BETWEEN 1 AND 2", api.OK)
	wantPrinted(t, n+"a NOT BETWEEN 1 AND 2", "", api.ErrDeep)
	wantPrinted(t, n[4:]+"(a NOT BETWEEN 1 AND 2)", n+"a BETWEEN 1 AND 2", api.OK)
	wantPrinted(t, n[4:]+"(a = 1 AND b NOT BETWEEN 1 AND 2)", "", api.ErrDeep)
	// Blanks may be missing in what is parsed, but not in what is printed.
	s := strings.Repeat("x", api.MaxFilter-len("=1"))
	wantPrinted(t, s+"=1", "", api.ErrLong)
	wantPrinted(t, s[1:]+"=1", "", api.ErrLong)
	wantPrinted(t, s[2:]+"=1", s[2:]+" = 1", api.OK)
	wantPrinted(t, "a LIKE '"+s[:api.MaxFilter-9]+"'", "a LIKE '"+s[:api.MaxFilter-9]+"'", api.OK)
}

// The rules that hold everywhere.

func share(a, b string) bool {
	if a == "" || b == "" {
		return false
	}
	from, to := uintptr(unsafe.Pointer(unsafe.StringData(a))), uintptr(unsafe.Pointer(unsafe.StringData(b)))
	return from < to+uintptr(len(b)) && to < from+uintptr(len(a))
}

func TestNewMemory(t *testing.T) {
	for _, s := range []string{"a", "a.b[2]", "[1]", strings.Repeat("n", 100)} {
		s = strings.Clone(s)
		if u, _ := Operand(path(s)); u != s || share(u, s) {
			t.Errorf("the text %q of a path shares its memory", u)
		}
		if u, _ := Operand(text(s)); len(u) < len(s) || share(u, s) {
			t.Errorf("the text %q of a text shares its memory", u)
		}
		x := is(s)
		u, _ := Text(x)
		v, _ := Text(x)
		if len(u) < len(s) || share(u, s) || share(u, v) {
			t.Errorf("the text %q of a tree shares its memory", u)
		}
	}
}

// Each call answers by its argument alone, whatever was called before it.
func TestNothingKept(t *testing.T) {
	all := []api.Expr{is("a"), {}, nots(is("a"), 9), is(strings.Repeat("x", 300)), or(is("a"), and(is("b"), is("c")), not(or(is("d"), is("e")))), is("NOT")}
	for _, x := range all {
		want, e := Text(x)
		for _, y := range all {
			_, _ = Text(y)
			for _, o := range y.Args {
				_, _ = Operand(o)
			}
			if s, f := Text(x); s != want || f != e {
				t.Errorf("Text of %s behind that of %s: %q, %v, want %q, %v", brief(x), brief(y), s, f, want, e)
			}
		}
	}
}
