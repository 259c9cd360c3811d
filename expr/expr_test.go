package expr

import (
	"math"
	"math/rand"
	"slices"
	"strconv"
	"strings"
	"testing"
	"unsafe"

	"broadsheet/api"
	"broadsheet/name"
	"broadsheet/token"
)

const most = "18446744073709551615" // 2^64 - 1

func path(s string) api.Operand { return api.Operand{Kind: api.OPath, Text: s} }

func num(n uint64) api.Operand { return api.Operand{Kind: api.ONum, Num: n} }

func minus(n uint64) api.Operand { return api.Operand{Kind: api.ONum, Neg: true, Num: n} }

func text(s string) api.Operand { return api.Operand{Kind: api.OText, Text: s} }

func truth(n uint64) api.Operand { return api.Operand{Kind: api.OBool, Num: n} }

func param(n uint64) api.Operand { return api.Operand{Kind: api.OParam, Num: n} }

func rel(r int, a, b api.Operand) api.Expr {
	return api.Expr{Op: api.XRel, Rel: r, Args: []api.Operand{a, b}}
}

func between(a, b, c api.Operand) api.Expr {
	return api.Expr{Op: api.XBetween, Args: []api.Operand{a, b, c}}
}

func like(a, b api.Operand) api.Expr {
	return api.Expr{Op: api.XLike, Args: []api.Operand{a, b}}
}

func node(op int, kids ...api.Expr) api.Expr { return api.Expr{Op: op, Kids: kids} }

func not(x api.Expr) api.Expr { return node(api.XNot, x) }

func and(kids ...api.Expr) api.Expr { return node(api.XAnd, kids...) }

func or(kids ...api.Expr) api.Expr { return node(api.XOr, kids...) }

// is is the tree of "s = 1".
func is(s string) api.Expr { return rel(api.RelEq, path(s), num(1)) }

func fault(e api.Errno, at int) api.Fault { return api.Fault{Err: e, At: at} }

// same compares all fields; an empty list may be nil.
func same(a, b api.Expr) bool {
	return a.Op == b.Op && a.Rel == b.Rel && slices.Equal(a.Args, b.Args) && slices.EqualFunc(a.Kids, b.Kids, same)
}

// copied shares no memory with a tree.
func copied(x api.Expr) api.Expr {
	x.Args, x.Kids = slices.Clone(x.Args), slices.Clone(x.Kids)
	for i, k := range x.Kids {
		x.Kids[i] = copied(k)
	}
	return x
}

func wantTree(t *testing.T, s string, want api.Expr) {
	t.Helper()
	if x, f := Parse(s); f != (api.Fault{}) || !same(x, want) {
		t.Errorf("Parse of %q: %v, %v at %d, want %v", s, x, f.Err, f.At, want)
	}
}

func wantNone(t *testing.T, s string, want api.Errno, at int) {
	t.Helper()
	if x, f := Parse(s); f != fault(want, at) || !same(x, api.Expr{}) {
		t.Errorf("Parse of %q: %v, %v at %d, want %v at %d", s, x, f.Err, f.At, want, at)
	}
}

// wantOperand wants an operand wherever one may stand.
func wantOperand(t *testing.T, s string, want api.Operand) {
	t.Helper()
	a, b := path("a"), path("b")
	wantTree(t, s+" = b", rel(api.RelEq, want, b))
	wantTree(t, "a < "+s, rel(api.RelLt, a, want))
	wantTree(t, "a<>"+s+" ", rel(api.RelNe, a, want))
	wantTree(t, s+" BETWEEN a AND b", between(want, a, b))
	wantTree(t, "a BETWEEN "+s+" AND b", between(a, want, b))
	wantTree(t, "a BETWEEN b AND "+s, between(a, b, want))
	wantTree(t, s+" NOT BETWEEN "+s+" AND "+s, not(between(want, want, want)))
	wantTree(t, s+" LIKE a", like(want, a))
	wantTree(t, "a LIKE "+s, like(a, want))
	wantTree(t, "("+s+">="+s+")", rel(api.RelGe, want, want))
	wantTree(t, "NOT "+s+" = b AND a = "+s+" OR "+s+" LIKE "+s, or(and(not(rel(api.RelEq, want, b)), rel(api.RelEq, a, want)), like(want, want)))
}

// Promise 15.1, operands.

func TestExample(t *testing.T) {
	a, b, c := rel(api.RelEq, path("a"), num(1)), rel(api.RelEq, path("b"), num(2)), like(path("c"), text("x%"))
	wantTree(t, "a = 1 AND NOT b = 2 OR c LIKE 'x%'", or(and(a, not(b)), c))
}

func TestNumbers(t *testing.T) {
	for _, n := range []uint64{0, 1, 9, 10, 255, 256, 1 << 31, 1 << 32, 1<<63 - 1, 1 << 63, 1<<63 + 1, math.MaxUint64 - 1, math.MaxUint64} {
		s := strconv.FormatUint(n, 10)
		wantOperand(t, s, num(n))
		wantOperand(t, "-"+s, minus(n))
		wantOperand(t, "- \t\r\n"+s, minus(n))
	}
	wantNone(t, "a = - ", api.ErrToken, 6)
	wantNone(t, "a = - b", api.ErrToken, 6)
	for _, s := range []string{"", "b", "-1", "'1'", "%1", "TRUE", "FALSE", "[1]", "(1)", "=", "NOT"} {
		wantNone(t, "a = -"+s, api.ErrToken, 5)
		wantNone(t, "-"+s, api.ErrToken, 1)
	}
}

func TestTexts(t *testing.T) {
	for _, s := range []string{"", "a", " ", "'", "''", "it's", " ~", "%1", "1", "-1", "a.b[2]"} {
		wantOperand(t, token.Quote(s), text(s))
	}
	for c := 32; c <= 126; c++ {
		s := string([]byte{byte(c)})
		wantOperand(t, token.Quote(s), text(s))
	}
}

// Within quotes, words and signs are a text as any other.
func TestTextsThatLookLikeOtherTokens(t *testing.T) {
	for _, s := range []string{"AND", "OR", "NOT", "BETWEEN", "LIKE", "TRUE", "FALSE", "=", "<>", "<", "<=", ">", ">=", "(", ")", ".", "[", "]", "-"} {
		q := "'" + s + "'"
		wantOperand(t, q, text(s))
		wantNone(t, q, api.ErrToken, len(q))
		wantNone(t, "a "+q+" 1", api.ErrToken, 2)
		wantNone(t, "a = 1 "+q+" b = 1", api.ErrToken, 6)
		wantNone(t, "a BETWEEN 1 "+q+" 2", api.ErrToken, 12)
		wantNone(t, "a NOT "+q+" 1 AND 2", api.ErrToken, 6)
		wantNone(t, "(a = 1 "+q, api.ErrToken, 7)
		wantNone(t, "a"+q+"b = 1", api.ErrToken, 1)
		wantNone(t, q+"b = 1", api.ErrToken, len(q))
		wantNone(t, q+" a = 1", api.ErrToken, len(q)+1)
		wantNone(t, "a["+q+"] = 1", api.ErrToken, 2)
		wantNone(t, "a."+q+" = 1", api.ErrToken, 2)
		wantNone(t, "a[1"+q+" = 1", api.ErrToken, 3)
		wantNone(t, "a = -"+q, api.ErrToken, 5)
	}
}

func TestTruthValuesAndParams(t *testing.T) {
	wantOperand(t, "TRUE", truth(1))
	wantOperand(t, "FALSE", truth(0))
	for d := range uint64(10) {
		wantOperand(t, "%"+strconv.FormatUint(d, 10), param(d))
	}
	for _, s := range []string{"TRUE", "FALSE", "%1", "'x'", "1", "-1"} {
		wantNone(t, s+".a = 1", api.ErrToken, len(s))
		wantNone(t, s+"[1] = 1", api.ErrToken, len(s))
		wantNone(t, "a = "+s+" . b", api.ErrToken, 5+len(s))
	}
	// A parameter has one digit.
	wantNone(t, "a = %12", api.ErrToken, 6)
	wantNone(t, "%1%2 = a", api.ErrToken, 2)
}

func TestPaths(t *testing.T) {
	for _, s := range []string{
		"a", "Z", "a_1", "a.b", "a[2]", "a[0]", "[3]", "[3].a", "[3][4]", "a.b.c", "a.b[2]", "a[2].b", "a[2][3]", "[1][2].a[3]", "a[10]", "a[99]", "a[100]", "a[" + most + "]",
		"true", "and", "Not", "ANDs", "TRUE1", "a.and.like", "[1].or",
	} {
		wantOperand(t, s, path(s))
		l, _ := token.Tokens(s)
		for _, blank := range []string{" ", "\t", "\n", "\r", "\r\n"} {
			var b strings.Builder
			for _, x := range l {
				b.WriteString(blank + x.Text)
			}
			wantOperand(t, b.String(), path(s))
		}
	}
}

// A name in a filter may be longer than a name of chapter 4.
func TestLongNames(t *testing.T) {
	for n := 1; n <= 60; n++ {
		s := strings.Repeat("n", n)
		wantTree(t, s+" = 1", is(s))
		wantTree(t, "a[7]."+s+" = 1", is("a[7]."+s))
	}
	s := strings.Repeat("n", api.MaxFilter-len("=1"))
	wantTree(t, s+"=1", is(s))
}

func TestLongPaths(t *testing.T) {
	for _, step := range []string{".b", "[1]", ".and"} {
		for n := range 20 {
			s := "a" + strings.Repeat(step, n)
			wantTree(t, s+"=1", is(s))
			s = "[12]" + strings.Repeat(step, n)
			wantTree(t, s+"=1", is(s))
		}
	}
	// MaxTokens tokens, and one more.
	s := "a[1]" + strings.Repeat(".b", 29)
	wantTree(t, s+"=1", is(s))
	wantNone(t, s+"=-1", api.ErrLong, len(s)+2)
}

func TestWordsAreNoNames(t *testing.T) {
	for _, w := range []string{"AND", "OR", "BETWEEN", "LIKE"} {
		wantNone(t, w, api.ErrToken, 0)
		wantNone(t, w+" = 1", api.ErrToken, 0)
		wantNone(t, "NOT "+w+" = 1", api.ErrToken, 4)
		wantNone(t, "("+w+" = 1)", api.ErrToken, 1)
	}
	for _, w := range []string{"AND", "OR", "NOT", "BETWEEN", "LIKE", "TRUE", "FALSE"} {
		wantNone(t, "a."+w+" = 1", api.ErrToken, 2)
		wantNone(t, "b = a[1] . "+w, api.ErrToken, 11)
		wantNone(t, "[1]."+w+" = 1", api.ErrToken, 4)
		wantNone(t, "a["+w+"] = 1", api.ErrToken, 2)
		wantNone(t, "a = -"+w, api.ErrToken, 5)
		if w != "TRUE" && w != "FALSE" {
			wantNone(t, "a = "+w, api.ErrToken, 4)
			wantNone(t, "a LIKE "+w, api.ErrToken, 7)
			wantNone(t, "a BETWEEN "+w+" AND 1", api.ErrToken, 10)
			wantNone(t, "a BETWEEN 1 AND "+w, api.ErrToken, 16)
		}
		l := strings.ToLower(w)
		wantTree(t, l+" = 1", is(l))
		wantTree(t, w+"_."+l+" = 1", is(w+"_."+l))
	}
	wantNone(t, "a = 1 and b = 1", api.ErrToken, 6)
	wantNone(t, "a = 1 Or b = 1", api.ErrToken, 6)
	wantNone(t, "not a = 1", api.ErrToken, 4)
	wantNone(t, "a like 'x'", api.ErrToken, 2)
	wantNone(t, "a between 1 AND 2", api.ErrToken, 2)
	wantNone(t, "a BETWEEN 1 and 2", api.ErrToken, 12)
	wantNone(t, "a ANDb = 1", api.ErrToken, 2)
}

func TestPathsThatAreNone(t *testing.T) {
	for s, at := range map[string]int{
		". = 1": 0, ".a = 1": 0, "a. = 1": 3, "a.": 2, "a..b = 1": 2, "a.1 = 1": 2, "a.[1] = 1": 2, "a.-1 = 1": 2, "a.%1 = 1": 2,
		"[] = 1": 1, "[": 1, "[a] = 1": 1, "[-1] = 1": 1, "['1'] = 1": 1, "[%1] = 1": 1, "[1 = 1": 3, "[1": 2, "[1 2] = 1": 3, "[1) = 1": 2, "[[1]] = 1": 1,
		"] = 1": 0, "a] = 1": 1, "a[1]] = 1": 4, "a[ = 1": 3, "a[b] = 1": 2, "a[1.2] = 1": 3, "a[1]b = 1": 4, "a b = 1": 2, "[1]a = 1": 3, "[1] 2 = 1": 4,
		"a(1) = 1": 1, "a.(b) = 1": 2, "a = b.": 6, "a = b[": 6, "a = b c": 6, "1.5 = a": 1, "a = 1.5": 5, "a = 1[2]": 5, "a = 0x1": 5, "1a = 1": 1,
	} {
		wantNone(t, s, api.ErrToken, at)
	}
}

// Promise 15.1, tests.

func relations() map[string]int {
	return map[string]int{"=": api.RelEq, "<>": api.RelNe, "<": api.RelLt, "<=": api.RelLe, ">": api.RelGt, ">=": api.RelGe}
}

func TestRelations(t *testing.T) {
	for s, r := range relations() {
		want := rel(r, path("a"), num(5))
		for _, blank := range []string{"", " ", "\t", "\n", "\r", "  "} {
			wantTree(t, blank+"a"+blank+s+blank+"5"+blank, want)
		}
		wantTree(t, "5"+s+"-5", rel(r, num(5), minus(5)))
		wantTree(t, "''"+s+"a[1]", rel(r, text(""), path("a[1]")))
		wantNone(t, s, api.ErrToken, 0)
		wantNone(t, "a"+s, api.ErrToken, 1+len(s))
		wantNone(t, s+"1", api.ErrToken, 0)
		wantNone(t, "a = 1 "+s+" 2", api.ErrToken, 6)
		wantNone(t, "a NOT "+s+" 1", api.ErrToken, 6)
		wantNone(t, "a BETWEEN 1 "+s+" 2", api.ErrToken, 12)
		for other := range relations() {
			wantNone(t, "a "+s+" "+other+" 1", api.ErrToken, 3+len(s))
		}
	}
	for _, s := range []string{"==", "=>", "=<", "<<", ">>", "><", "< =", "> =", "< >", "<=>"} {
		wantNone(t, "a "+s+" 1", api.ErrToken, strings.LastIndexAny("a "+s+" 1", "=<>"))
	}
	for _, s := range []string{".", "(", ")", "[", "]", "-", "1", "b", "'x'", "%1", "AND", "OR", "TRUE", "FALSE"} {
		wantNone(t, "5 "+s+" 1", api.ErrToken, 2)
	}
}

func TestBetween(t *testing.T) {
	x := between(path("a"), num(1), num(2))
	wantTree(t, "a BETWEEN 1 AND 2", x)
	wantTree(t, "a NOT BETWEEN 1 AND 2", not(x))
	wantTree(t, "NOT a BETWEEN 1 AND 2", not(x))
	wantTree(t, "NOT a NOT BETWEEN 1 AND 2", not(not(x)))
	wantTree(t, "1BETWEEN-1AND'x'", between(num(1), minus(1), text("x")))
	// The first AND is that of BETWEEN.
	wantTree(t, "a BETWEEN 1 AND 2 AND a BETWEEN 1 AND 2", and(x, x))
	wantTree(t, "a BETWEEN 1 AND 2 OR b = 1 AND a NOT BETWEEN 1 AND 2", or(x, and(is("b"), not(x))))
	wantTree(t, "b = 1 AND a BETWEEN 1 AND 2 AND b = 1", and(is("b"), x, is("b")))
	for s, at := range map[string]int{
		"a BETWEEN": 9, "a BETWEEN AND 2": 10, "a BETWEEN 1": 11, "a BETWEEN 1 AND": 15, "a BETWEEN 1 2": 12, "a BETWEEN 1 OR 2": 12, "a BETWEEN 1 AND b = 2": 18, "a BETWEEN 1 AND NOT 2": 16,
		"a BETWEEN (1 AND 2)": 10, "(a BETWEEN 1) AND 2": 12, "a BETWEEN 1 AND (2)": 16, "BETWEEN 1 AND 2": 0, "a BETWEEN BETWEEN 1 AND 2": 10, "a BETWEEN NOT 1 AND 2": 10,
		"a NOT": 5, "a NOT 1 AND 2": 6, "a NOT NOT BETWEEN 1 AND 2": 6, "a NOT LIKE 'x'": 6, "a NOT = 1": 6, "a NOT (b = 1)": 6, "a NOT b = 1": 6, "a BETWEEN 1 NOT AND 2": 12, "a = 1 NOT BETWEEN 1 AND 2": 6,
		"a BETWEEN 1 AND 2 BETWEEN 3 AND 4": 18, "a BETWEEN 1 AND 2 = TRUE": 18, "a BETWEEN 1 BETWEEN 2 AND 3": 12,
	} {
		wantNone(t, s, api.ErrToken, at)
	}
}

func TestLike(t *testing.T) {
	wantTree(t, "a LIKE 'x%'", like(path("a"), text("x%")))
	wantTree(t, "'x'LIKE'y'", like(text("x"), text("y")))
	wantTree(t, "NOT a LIKE %0", not(like(path("a"), param(0))))
	wantTree(t, "1 LIKE TRUE", like(num(1), truth(1)))
	for s, at := range map[string]int{
		"a LIKE": 6, "LIKE 'x'": 0, "a LIKE LIKE 'x'": 7, "a LIKE 'x' LIKE 'y'": 11, "a LIKE = 'x'": 7, "a LIKE NOT 'x'": 7, "a LIKE ('x')": 7, "a LIKE 'x' 'y'": 11, "a LIKE 'x'%1": 10, "a LIKE 'x' AND 'y'": 18,
	} {
		wantNone(t, s, api.ErrToken, at)
	}
}

// Promise 15.1, NOT, AND, OR and parentheses.

func TestPrecedence(t *testing.T) {
	a, b, c, d := is("a"), is("b"), is("c"), is("d")
	for s, want := range map[string]api.Expr{
		"a": a, "(a)": a, "((a))": a, "!a": not(a), "!!a": not(not(a)), "!(a)": not(a), "(!a)": not(a), "!(!a)": not(not(a)),
		"a&b": and(a, b), "a|b": or(a, b), "a&b&c": and(a, b, c), "a|b|c": or(a, b, c), "a|b|c|d": or(a, b, c, d), "a&b&c&d": and(a, b, c, d),
		"a&b|c": or(and(a, b), c), "a|b&c": or(a, and(b, c)), "a&b|c&d": or(and(a, b), and(c, d)), "a|b&c|d": or(a, and(b, c), d), "a&b|c|d": or(and(a, b), c, d),
		"!a&b": and(not(a), b), "!a|b": or(not(a), b), "a&!b": and(a, not(b)), "!a&!b|!c": or(and(not(a), not(b)), not(c)),
		"(a&b)": and(a, b), "(a|b)": or(a, b), "!(a&b)": not(and(a, b)), "!(a|b)": not(or(a, b)), "!(a|b)&c": and(not(or(a, b)), c),
		"(a&b)&c": and(and(a, b), c), "a&(b&c)": and(a, and(b, c)), "(a|b)|c": or(or(a, b), c), "a|(b|c)": or(a, or(b, c)), "(a)&(b)": and(a, b), "((a)|(b))": or(a, b),
		"(a|b)&c": and(or(a, b), c), "a&(b|c)": and(a, or(b, c)), "(a|b)&(c|d)": and(or(a, b), or(c, d)), "(a&b)|(c&d)": or(and(a, b), and(c, d)), "((a|b)&c)|d": or(and(or(a, b), c), d),
		"a&((b))": and(a, b), "a|(b&c)": or(a, and(b, c)), "(a&b|c)&d": and(or(and(a, b), c), d), "a&a&a": and(a, a, a), "(a|a)|(a|a)": or(or(a, a), or(a, a)),
	} {
		s = strings.NewReplacer("!", "NOT ", "&", " AND ", "|", " OR ", "a", "a = 1", "b", "b = 1", "c", "c = 1", "d", "d = 1").Replace(s)
		wantTree(t, s, want)
		wantTree(t, "\t"+strings.ReplaceAll(s, " ", "\r\n"), want)
	}
}

func TestManyOperands(t *testing.T) {
	for _, op := range []string{"AND", "OR"} {
		for n := 2; n <= api.MaxTokens/4; n++ {
			s, kids := "", []api.Expr(nil)
			for i := range n {
				at := string([]byte{byte('a' + i)})
				s += " " + op + " " + at + "=1"
				kids = append(kids, is(at))
			}
			want := and(kids...)
			if op == "OR" {
				want = or(kids...)
			}
			wantTree(t, s[len(op)+1:], want)
		}
	}
	// As many tokens as may be, and one more.
	s := "a=1" + strings.Repeat(" OR a=1", api.MaxTokens/4-1)
	kids := slices.Repeat([]api.Expr{is("a")}, api.MaxTokens/4)
	wantTree(t, s, or(kids...))
	kids[0] = not(is("a"))
	wantTree(t, "NOT "+s, or(kids...))
	wantNone(t, s+" OR", api.ErrToken, len(s)+3)
	wantNone(t, s+" OR a", api.ErrLong, len(s)+4)
	wantNone(t, "NOT "+s+" OR", api.ErrLong, len(s)+5)
}

func TestTokensThatMayNotStandThere(t *testing.T) {
	for s, at := range map[string]int{
		"": 0, "   ": 3, "\n": 1, "a": 1, "a ": 2, "TRUE": 4, "1": 1, "(": 1, ")": 0, "()": 1, "( )": 2, "NOT": 3, "NOT )": 4, "NOT a": 5, "NOT NOT": 7, "NOT TRUE": 8, "NOT = 1": 4,
		"(a)": 2, "(a) = 1": 2, "(a = 1": 6, "((a = 1)": 8, "a = 1)": 5, "(a = 1))": 7, "a = (1)": 4, "a (= 1)": 2, "(a = ) 1": 5, "a = 1 (b = 1)": 6, "(a = 1) (b = 1)": 8,
		"(a = 1) b = 1": 8, "(a = 1) = TRUE": 8, "(a = 1) NOT": 8, "a = 1 b = 1": 6, "a = 1 NOT b = 1": 6, "a = 1 AND": 9, "a = 1 OR": 8, "AND a = 1": 0, "OR a = 1": 0,
		"a = 1 AND AND b = 1": 10, "a = 1 AND OR b = 1": 10, "a = 1 OR AND b = 1": 9, "a = 1 OR OR b = 1": 9, "a AND b = 1": 2, "a = 1 AND b": 11, "a = 1 OR b OR c = 1": 11,
		"a = 1 AND (b = 1": 16, "a = 1 AND )": 10, "(a = 1 AND) b = 1": 10, "(a = 1 OR b = 1 AND": 19, "a = 1 AND NOT": 13, "NOT AND a = 1": 4, "(NOT) a = 1": 4, "a = NOT b": 4,
		"a = b = c": 6, "a < b < c": 6, "a = 1 = ": 6, "-a = 1": 1, "--1 = 1": 1, "= 1": 0, "a = ": 4, "a = =": 4, "a 1": 2, "a = 1 ) b": 6, "a = 1 ] b": 6, "a = 1 . b": 6, "a = 1 - 1": 6,
	} {
		wantNone(t, s, api.ErrToken, at)
	}
}

// An error of token.Tokens counts ahead of all others, wherever it is.
func TestErrorsOfTokensFirst(t *testing.T) {
	ahead := []string{"", "a = 1", "a", "a b", ")", "= =", "AND", "NOT", "a. ", "[a", "a = 1 AND", strings.Repeat("(", api.MaxNest+1), strings.Repeat("NOT ", 12), strings.Repeat("(", 20) + "a b"}
	wrong := []struct {
		s  string
		e  api.Errno
		at int
	}{{"!", api.ErrToken, 0}, {"_", api.ErrToken, 0}, {"%x", api.ErrToken, 0}, {"\xff", api.ErrToken, 0}, {"00", api.ErrForm, 0}, {most + "0", api.ErrRange, 0}, {"'a\x01'", api.ErrText, 2}, {"'a", api.ErrShort, 0}}
	for _, s := range ahead {
		for _, w := range wrong {
			wantNone(t, s+" "+w.s, w.e, len(s)+1+w.at)
			wantNone(t, s+" = "+w.s+" b (", w.e, len(s)+3+w.at)
		}
		wantNone(t, s+strings.Repeat(" ", api.MaxFilter+1-len(s)), api.ErrLong, 0)
		l, _ := token.Tokens(s)
		rest := api.MaxTokens - (len(l) - 1)
		wantNone(t, s+strings.Repeat(" =", rest+1), api.ErrLong, len(s)+2*rest+1)
	}
}

func TestLongestTexts(t *testing.T) {
	for n := range 10 {
		blank := strings.Repeat(" ", api.MaxFilter-len("a = 1")-n)
		wantTree(t, blank+"a = 1", is("a"))
		wantTree(t, "a = 1"+blank, is("a"))
		wantTree(t, "a ="+blank+" 1", is("a"))
		wantNone(t, "a ="+blank+"  ", api.ErrToken, api.MaxFilter-n)
	}
	wantNone(t, "a = 1"+strings.Repeat(" ", api.MaxFilter-4), api.ErrLong, 0)
	s := strings.Repeat("x", api.MaxFilter-len("a=''"))
	wantTree(t, "a='"+s+"'", rel(api.RelEq, path("a"), text(s)))
	wantNone(t, strings.Repeat("a = 1 OR ", 1<<16)+"a = 1", api.ErrLong, 0)
}

// Promise 15.1, nesting.

// within is a text within so many NOTs or parentheses, as the bits of a number tell, and its tree within as many NOTs.
func within(s string, x api.Expr, n, bits int) (string, api.Expr) {
	for i := range n {
		if bits>>i&1 == 0 {
			s = "(" + s + ")"
			continue
		}
		s, x = "NOT "+s, not(x)
	}
	return s, x
}

func TestNesting(t *testing.T) {
	for n := range api.MaxNest + 1 {
		for bits := range 1 << n {
			s, want := within("a = 1", is("a"), n, bits)
			wantTree(t, s, want)
			s, want = within("a NOT BETWEEN 1 AND 2", not(between(path("a"), num(1), num(2))), n, bits)
			wantTree(t, s, want)
		}
	}
	for _, n := range []int{api.MaxNest + 1, api.MaxNest + 2} {
		for bits := range 1 << n {
			s, _ := within("a = 1", is("a"), n, bits)
			l, _ := token.Tokens(s)
			wantNone(t, s, api.ErrDeep, l[api.MaxNest].At)
		}
	}
}

func TestDeepest(t *testing.T) {
	for n := api.MaxNest + 1; n <= 40; n++ {
		wantNone(t, strings.Repeat("NOT ", n)+"a = 1", api.ErrDeep, 4*api.MaxNest)
		wantNone(t, strings.Repeat("(", n)+"a = 1"+strings.Repeat(")", min(n, 20)), api.ErrDeep, api.MaxNest)
		wantNone(t, "b = 1 OR "+strings.Repeat("(", n)+"a = 1", api.ErrDeep, 9+api.MaxNest)
		wantNone(t, "NOT b = 1 AND (c = 1) AND "+strings.Repeat("NOT ", n), api.ErrDeep, 26+4*api.MaxNest)
	}
}

// Only those that contain others count, not those beside them.
func TestNestingSideBySide(t *testing.T) {
	a := is("a")
	for bits := range 1 << api.MaxNest {
		s, x := within("a=1", a, api.MaxNest, bits)
		wantTree(t, s+" AND "+s, and(x, x))
		wantTree(t, s+" OR "+s, or(x, x))
		wantTree(t, s+" OR a NOT BETWEEN 1 AND 2 AND "+s, or(x, and(not(between(path("a"), num(1), num(2))), x)))
		wantTree(t, "NOT a=1 AND "+s, and(not(a), x))
		// A NOT contains no more than what it is of.
		s, x = within("a=1", a, api.MaxNest-1, bits)
		wantTree(t, "(NOT a=1 AND "+s+")", and(not(a), x))
		wantTree(t, "(NOT (a=1) OR "+s+")", or(not(a), x))
		wantTree(t, "NOT (NOT a=1) AND NOT "+s, and(not(not(a)), not(x)))
		// Parentheses contain all that is in them.
		l, _ := token.Tokens(s)
		wantNone(t, "(a=1 AND (NOT a=1 OR "+s+"))", api.ErrDeep, 21+l[api.MaxNest-2].At)
	}
	wantTree(t, strings.Repeat("(a=1)OR ", 9)+"a=1", or(slices.Repeat([]api.Expr{a}, 10)...))
	wantTree(t, strings.Repeat("NOT a=1 OR ", 10)+"a=1", or(append(slices.Repeat([]api.Expr{not(a)}, 10), a)...))
}

// Of an ErrDeep and an ErrToken, the one further ahead counts.
func TestDeepAndOtherErrors(t *testing.T) {
	deep := strings.Repeat("(", api.MaxNest)
	for _, s := range []string{"(", "((", "()", "(a", "(a = ", "(a = 1) b", "NOT", "NOT NOT", "NOT )", "NOT a", "NOT AND"} {
		wantNone(t, deep+s, api.ErrDeep, api.MaxNest)
		wantNone(t, deep+"a = 1 AND "+s, api.ErrDeep, api.MaxNest+10)
		wantNone(t, deep+") AND "+s, api.ErrToken, api.MaxNest)
		wantNone(t, deep+"a = "+s, api.ErrToken, api.MaxNest+4)
		wantNone(t, deep+"a BETWEEN "+s, api.ErrToken, api.MaxNest+10)
		wantNone(t, deep+"= "+s, api.ErrToken, api.MaxNest)
		wantNone(t, ") "+deep+s, api.ErrToken, 0)
	}
	// Where neither may stand, it is no matter how deep that is.
	wantNone(t, deep+"a (", api.ErrToken, api.MaxNest+2)
	wantNone(t, deep+"a NOT (", api.ErrToken, api.MaxNest+6)
	wantNone(t, deep+"a NOT NOT", api.ErrToken, api.MaxNest+6)
	wantNone(t, deep+"a = 1 NOT", api.ErrToken, api.MaxNest+6)
	wantNone(t, deep+"a = 1 (", api.ErrToken, api.MaxNest+6)
	wantNone(t, deep+"a[(", api.ErrToken, api.MaxNest+2)
}

// Promise 15.1, against the chapter's grammar.

// grammar has the chapter's rules, with each repetition as a rule of its own.
func grammar() map[string][]string {
	return map[string][]string{
		"filter":   {"or END done"},
		"or":       {"and ors"},
		"ors":      {"", "OR and ors"},
		"and":      {"not ands"},
		"ands":     {"", "AND not ands"},
		"not":      {"NOT not", "( or )", "test"},
		"test":     {"operand relation operand", "operand BETWEEN operand AND operand", "operand NOT BETWEEN operand AND operand", "operand LIKE operand"},
		"relation": {"=", "<>", "<", "<=", ">", ">="},
		"operand":  {"path", "NUMBER", "- NUMBER", "TEXT", "TRUE", "FALSE", "PARAM"},
		"path":     {"step steps"},
		"steps":    {"", ". NAME steps", "[ NUMBER ] steps"},
		"step":     {"NAME", "[ NUMBER ]"},
	}
}

// terminal is what the grammar calls a token.
func terminal(x api.Token) string {
	switch x.Kind {
	case api.TkNum:
		return "NUMBER"
	case api.TkText:
		return "TEXT"
	case api.TkParam:
		return "PARAM"
	case api.TkEnd:
		return "END"
	case api.TkWord:
		if !name.Word(x.Text) {
			return "NAME"
		}
	}
	return x.Text
}

// reader knows the states that it has been in: a state is all that the grammar allows to follow, each possibility a list of symbols, with | between them.
type reader struct {
	rules map[string][]string
	next  map[string]map[string]string
}

func newReader() *reader { return &reader{grammar(), map[string]map[string]string{}} }

// opened has all possibilities that begin with a terminal.
func (r *reader) opened(symbols string, l []string) []string {
	first, rest, _ := strings.Cut(symbols, " ")
	bodies, ok := r.rules[first]
	if !ok {
		return append(l, symbols)
	}
	for _, b := range bodies {
		l = r.opened(strings.TrimSpace(b+" "+rest), l)
	}
	return l
}

// after is the state behind a terminal; it is empty where that may not stand there.
func (r *reader) after(state, terminal string) string {
	if s, ok := r.next[state][terminal]; ok {
		return s
	}
	var l []string
	for _, symbols := range strings.Split(state, "|") {
		for _, p := range r.opened(symbols, nil) {
			if first, rest, _ := strings.Cut(p, " "); first == terminal {
				l = append(l, rest)
			}
		}
	}
	slices.Sort(l)
	s := strings.Join(slices.Compact(l), "|")
	if r.next[state] == nil {
		r.next[state] = map[string]string{}
	}
	r.next[state][terminal] = s
	return s
}

// stop is the first token that may not stand where it does, or how many tokens there are.
func (r *reader) stop(l []api.Token) int {
	state := "filter"
	for i, x := range l {
		if state = r.after(state, terminal(x)); state == "" {
			return i
		}
	}
	return len(l)
}

// nests has for each NOT and each opening parenthesis its nesting, and for other tokens -1.
func nests(l []api.Token) []int {
	var open []string
	var out []int
	isBetween, last := false, "("
	for _, x := range l {
		s := terminal(x)
		if s == ")" || s == "OR" || s == "END" || s == "AND" && !isBetween {
			for len(open) > 0 && open[len(open)-1] == "NOT" {
				open = open[:len(open)-1]
			}
		}
		if s == ")" {
			open = open[:len(open)-1]
		}
		isBetween = s == "BETWEEN" || isBetween && s != "AND"
		nest := -1
		if s == "(" || s == "NOT" && slices.Contains([]string{"(", "NOT", "AND", "OR"}, last) {
			nest = len(open)
			open = append(open, s)
		}
		out, last = append(out, nest), s
	}
	return out
}

// split splits tokens at a word that is not within parentheses, nor that of BETWEEN.
func split(l []api.Token, word string) [][]api.Token {
	var parts [][]api.Token
	from, open, isBetween := 0, 0, false
	for i, x := range l {
		switch s := terminal(x); {
		case s == "(":
			open++
		case s == ")":
			open--
		case s == "BETWEEN":
			isBetween = true
		case s == "AND" && isBetween:
			isBetween = false
		case s == word && open == 0:
			parts = append(parts, l[from:i])
			from = i + 1
		}
	}
	return append(parts, l[from:])
}

// treeOf is the tree of tokens that are a filter's.
func treeOf(l []api.Token) api.Expr {
	for _, c := range []struct {
		word string
		op   int
	}{{"OR", api.XOr}, {"AND", api.XAnd}} {
		parts := split(l, c.word)
		if len(parts) == 1 {
			continue
		}
		x := api.Expr{Op: c.op}
		for _, p := range parts {
			x.Kids = append(x.Kids, treeOf(p))
		}
		return x
	}
	switch terminal(l[0]) {
	case "NOT":
		return not(treeOf(l[1:]))
	case "(":
		return treeOf(l[1 : len(l)-1])
	}
	return testOf(l)
}

func testOf(l []api.Token) api.Expr {
	for i, x := range l {
		s := terminal(x)
		r, isRelation := relations()[s]
		switch {
		case isRelation:
			return rel(r, operandOf(l[:i]), operandOf(l[i+1:]))
		case s == "LIKE":
			return like(operandOf(l[:i]), operandOf(l[i+1:]))
		case s == "NOT":
			return not(testOf(append(slices.Clone(l[:i]), l[i+1:]...)))
		case s == "BETWEEN":
			to := i + slices.IndexFunc(l[i:], func(x api.Token) bool { return terminal(x) == "AND" })
			return between(operandOf(l[:i]), operandOf(l[i+1:to]), operandOf(l[to+1:]))
		}
	}
	return api.Expr{}
}

func operandOf(l []api.Token) api.Operand {
	switch x := l[0]; terminal(x) {
	case "NUMBER":
		return num(x.Num)
	case "-":
		return minus(l[1].Num)
	case "TEXT":
		return text(x.Text)
	case "TRUE":
		return truth(1)
	case "FALSE":
		return truth(0)
	case "PARAM":
		return param(x.Num)
	}
	s := ""
	for _, x := range l {
		s += x.Text
	}
	return path(s)
}

// meant is the tree of a text, or what is wrong with it.
func (r *reader) meant(s string) (api.Expr, api.Fault) {
	l, f := token.Tokens(s)
	if f.Err != api.OK {
		return api.Expr{}, f
	}
	stop := r.stop(l)
	for i, n := range nests(l[:stop]) {
		if n == api.MaxNest {
			return api.Expr{}, fault(api.ErrDeep, l[i].At)
		}
	}
	if stop < len(l) {
		return api.Expr{}, fault(api.ErrToken, l[stop].At)
	}
	return treeOf(l[:len(l)-1]), api.Fault{}
}

// wantMeant returns the error that a text has.
func (r *reader) wantMeant(t *testing.T, s string) api.Errno {
	t.Helper()
	want, f := r.meant(s)
	if f.Err == api.OK {
		wantTree(t, s, want)
	} else {
		wantNone(t, s, f.Err, f.At)
	}
	return f.Err
}

func TestReader(t *testing.T) {
	r := newReader()
	for s, want := range map[string]api.Fault{
		"a = 1": {}, "": fault(api.ErrToken, 0), "a": fault(api.ErrToken, 1), "a = 1 b": fault(api.ErrToken, 6), "NOT NOT (a.b[1] NOT BETWEEN -1 AND %2 AND 'x' LIKE TRUE) OR FALSE < a": {},
		strings.Repeat("(", 9): fault(api.ErrDeep, 8), strings.Repeat("NOT ", 9): fault(api.ErrDeep, 32), "!": fault(api.ErrToken, 0), "a NOT = 1": fault(api.ErrToken, 6),
	} {
		if _, f := r.meant(s); f != want {
			t.Errorf("%q: %v", s, f)
		}
	}
}

// pieces has a token for each terminal of the grammar.
func pieces() []string {
	return []string{"a", "1", "'x'", "%1", "AND", "OR", "NOT", "BETWEEN", "LIKE", "TRUE", "FALSE", "=", "(", ")", ".", "[", "]", "-"}
}

// each calls a function with each text of up to n pieces behind a text, as long as the pieces may stand there, and with each text of one more piece.
func (r *reader) each(state, s string, n int, f func(s string)) {
	f(s)
	if state == "" || n == 0 {
		return
	}
	for _, p := range pieces() {
		l, _ := token.Tokens(p)
		r.each(r.after(state, terminal(l[0])), strings.TrimSpace(s+" "+p), n-1, f)
	}
}

func TestEachShortFilter(t *testing.T) {
	r, found := newReader(), map[api.Errno]int{}
	r.each("filter", "", 7, func(s string) { found[r.wantMeant(t, s)]++ })
	if found[api.OK] < 1000 || found[api.ErrToken] < 10000 {
		t.Error(found)
	}
}

func TestEachPieceBehindLongFilters(t *testing.T) {
	r := newReader()
	for _, s := range []string{
		"a = 1 AND b = 2 OR c = 3", "a BETWEEN 1 AND 2", "a NOT BETWEEN b[1] AND -2 AND", "NOT (a = 1 OR (b LIKE 'x'", "((a = 1) AND", "((((((((a = 1", "NOT NOT NOT NOT ((((a = 1", "a = 1 OR NOT (NOT (NOT (NOT (",
		"NOT NOT NOT NOT NOT NOT NOT NOT", "NOT NOT NOT NOT NOT NOT NOT (a = 1) AND NOT NOT NOT NOT NOT NOT NOT", "a . b [ 1 ]", "a = b [ 1 ] .", "a LIKE -",
	} {
		state := "filter"
		l, _ := token.Tokens(s)
		for _, x := range l[:len(l)-1] {
			state = r.after(state, terminal(x))
		}
		r.each(state, s, 3, func(s string) { r.wantMeant(t, s) })
	}
}

// maker makes filters, with their trees.
type maker struct {
	r *rand.Rand
}

func (m *maker) one(l ...string) string { return l[m.r.Intn(len(l))] }

func (m *maker) blank() string {
	return m.one("", "", "", " ", "\t", "\n", "\r", "  ", " \r\n")
}

// join puts blanks between texts, at least where letters or digits would meet.
func (m *maker) join(l ...string) string {
	s := m.blank()
	for _, x := range l {
		s += x + m.one(" ", " ", " ", "\t", "\n", "\r", "  ")
	}
	return strings.TrimRight(s, " \t\r\n") + m.blank()
}

func (m *maker) path() string {
	s := m.one("a", "b_1", "Xyz", "and", "trueish", "[0]", "[7]", "[12345]")
	for m.r.Intn(3) == 0 {
		s += m.one(".a", ".or", ".b__", "[0]", "[63]")
	}
	return s
}

func (m *maker) operand() (string, api.Operand) {
	switch m.r.Intn(6) {
	case 0, 1:
		s := m.path()
		return s, path(s)
	case 2:
		n := m.r.Uint64() >> m.r.Intn(64)
		if m.r.Intn(2) == 0 {
			return "-" + m.blank() + strconv.FormatUint(n, 10), minus(n)
		}
		return strconv.FormatUint(n, 10), num(n)
	case 3:
		s := m.one("", "x", "it's", "%", "AND", " ) ", "'")
		return token.Quote(s), text(s)
	case 4:
		n := uint64(m.r.Intn(10))
		return "%" + strconv.FormatUint(n, 10), param(n)
	}
	n := uint64(m.r.Intn(2))
	return []string{"FALSE", "TRUE"}[n], truth(n)
}

func (m *maker) test() (string, api.Expr) {
	s, a := m.operand()
	u, b := m.operand()
	switch m.r.Intn(5) {
	case 0:
		return m.join(s, "LIKE", u), like(a, b)
	case 1, 2:
		v, c := m.operand()
		if m.r.Intn(2) == 0 {
			return m.join(s, "NOT", "BETWEEN", u, "AND", v), not(between(a, b, c))
		}
		return m.join(s, "BETWEEN", u, "AND", v), between(a, b, c)
	}
	sign := m.one("=", "<>", "<", "<=", ">", ">=")
	return m.join(s, sign, u), rel(relations()[sign], a, b)
}

// filter has parentheses where they must be, and some others.
func (m *maker) filter(n int) (string, api.Expr) {
	s, x := m.bare(n)
	for m.r.Intn(5) == 0 {
		s = m.blank() + "(" + s + ")" + m.blank()
	}
	return s, x
}

func (m *maker) bare(n int) (string, api.Expr) {
	if n == 0 || m.r.Intn(4) == 0 {
		return m.test()
	}
	if m.r.Intn(3) == 0 {
		s, x := m.filter(n - 1)
		return m.join("NOT", inside(s, x, api.XAnd)), not(x)
	}
	word, x := "AND", api.Expr{Op: api.XAnd}
	if m.r.Intn(2) == 0 {
		word, x.Op = "OR", api.XOr
	}
	var l []string
	for i := range 2 + m.r.Intn(3) {
		s, k := m.filter(n - 1)
		if i > 0 {
			l = append(l, word)
		}
		l = append(l, inside(s, k, x.Op))
		x.Kids = append(x.Kids, k)
	}
	return m.join(l...), x
}

// inside puts a text into parentheses if its tree does not bind more closely than an XAnd or XOr that it is to be within.
func inside(s string, x api.Expr, op int) string {
	if x.Op == api.XOr || x.Op == api.XAnd && op == api.XAnd {
		return "(" + s + ")"
	}
	return s
}

// greatestNest is the greatest nesting in a text, or -1.
func greatestNest(s string) int {
	l, _ := token.Tokens(s)
	return slices.Max(nests(l))
}

func isLong(s string) bool {
	_, f := token.Tokens(s)
	return f.Err == api.ErrLong
}

// eachFilter calls a function with filters that are not too long or too deeply nested.
func eachFilter(seed int64, n int, f func(r *rand.Rand, s string, x api.Expr)) {
	m := maker{rand.New(rand.NewSource(seed))}
	for n > 0 {
		s, x := m.filter(m.r.Intn(5))
		if !isLong(s) && greatestNest(s) < api.MaxNest {
			f(m.r, s, x)
			n--
		}
	}
}

func TestRandomFilters(t *testing.T) {
	r, deep := newReader(), map[int]int{}
	eachFilter(15, 20000, func(_ *rand.Rand, s string, x api.Expr) {
		wantTree(t, s, x)
		if e := r.wantMeant(t, s); e != api.OK {
			t.Errorf("%q: %v", s, e)
		}
		deep[Deep(x)]++
	})
	for n := 1; n <= 4; n++ {
		if deep[n] < 100 {
			t.Error(deep)
		}
	}
}

// Random filters in which some tokens are missing, told twice, or others.
func TestSpoiltFilters(t *testing.T) {
	g, found := newReader(), map[api.Errno]int{}
	eachFilter(151, 20000, func(r *rand.Rand, s string, _ api.Expr) {
		l, _ := token.Tokens(s)
		l = l[:len(l)-1]
		for range 1 + r.Intn(3) {
			i := r.Intn(len(l))
			other, _ := token.Tokens(pieces()[r.Intn(len(pieces()))])
			switch r.Intn(4) {
			case 0:
				if len(l) > 1 {
					l = slices.Delete(l, i, i+1)
				}
			case 1:
				l = slices.Insert(l, i, l[r.Intn(len(l))])
			case 2:
				l = slices.Insert(l, i, other[0])
			default:
				l[i] = other[0]
			}
		}
		found[g.wantMeant(t, token.Join(l))]++
	})
	if found[api.OK] < 100 || found[api.ErrToken] < 10000 {
		t.Error(found)
	}
}

// Every cut, and every byte changed.
func TestSpoiltTexts(t *testing.T) {
	r := newReader()
	for _, s := range []string{
		"a.b[2] <> 'it''s' AND %3>=-7 OR NOT (cd NOT BETWEEN 10 AND 18446744073709551615)", "a = 1 AND NOT b = 2 OR c LIKE 'x%'", "((((((((a=TRUE))))))))", "NOT NOT NOT NOT((((FALSE<>a)OR[1].b<1)AND NOT x LIKE'')OR%0=%9)",
	} {
		for i := range len(s) {
			r.wantMeant(t, s[:i])
			r.wantMeant(t, s[i:])
			for c := range 256 {
				r.wantMeant(t, s[:i]+string([]byte{byte(c)})+s[i+1:])
			}
			for _, p := range pieces() {
				r.wantMeant(t, s[:i]+p+s[i:])
				r.wantMeant(t, s[:i]+" "+p+" "+s[i:])
			}
		}
	}
}

func TestRandomPieces(t *testing.T) {
	g, r, found := newReader(), rand.New(rand.NewSource(152)), map[api.Errno]int{}
	some := append(pieces(), "(", "(", "(", "NOT", "NOT", "a = 1", "a = 1", "b LIKE 'x' AND", "c < 2 OR", "a.b[1] BETWEEN 1 AND 2", "<>", "<=", " ", "!", "'", "00", "\x00")
	for range 100000 {
		s := ""
		for range r.Intn(24) {
			s += some[r.Intn(len(some)-r.Intn(2)*5)] + strings.Repeat(" ", r.Intn(8)/2)
		}
		found[g.wantMeant(t, s)]++
	}
	for _, e := range []api.Errno{api.OK, api.ErrToken, api.ErrForm, api.ErrShort, api.ErrText} {
		if found[e] == 0 {
			t.Error(found)
		}
	}
}

// Texts of many NOTs and parentheses, closed and not.
func TestRandomNesting(t *testing.T) {
	g, r, found := newReader(), rand.New(rand.NewSource(153)), map[api.Errno]int{}
	for range 50000 {
		s, open := "", 0
		for range 1 + r.Intn(5) {
			for range r.Intn(2 + r.Intn(9)) {
				if r.Intn(2) == 0 {
					s += "NOT "
					continue
				}
				s += "("
				open++
			}
			s += "a=1"
			n := r.Intn(open + 1)
			s, open = s+strings.Repeat(")", n), open-n
			s += []string{" AND ", " OR "}[r.Intn(2)]
		}
		s += "a NOT BETWEEN 1 AND 2"
		if r.Intn(8) > 0 {
			s += strings.Repeat(")", open)
		}
		found[g.wantMeant(t, s)]++
	}
	for _, e := range []api.Errno{api.OK, api.ErrToken, api.ErrDeep, api.ErrLong} {
		if found[e] < 100 {
			t.Error(found)
		}
	}
}

// Promise 15.2.

func wantMeasures(t *testing.T, x api.Expr, deep, size int) {
	t.Helper()
	had := copied(x)
	if d, s := Deep(x), Size(x); d != deep || s != size {
		t.Errorf("Deep and Size of %.300s: %d, %d, want %d, %d", show(x), d, s, deep, size)
	}
	if !same(x, had) {
		t.Error("the tree is changed")
	}
}

// show is what a failed test says of a tree.
func show(x api.Expr) string {
	s := strconv.Itoa(x.Op) + ":" + strconv.Itoa(len(x.Args))
	for _, k := range x.Kids[:min(len(x.Kids), 5)] {
		if len(s) > 300 {
			break
		}
		s += "(" + strconv.Itoa(k.Op) + ":" + strconv.Itoa(len(k.Args)) + "," + strconv.Itoa(len(k.Kids)) + ")"
	}
	return s
}

func TestDeepAndSize(t *testing.T) {
	a := is("a")
	b := between(path("a"), num(1), num(2))
	wantMeasures(t, api.Expr{}, 1, 1)
	wantMeasures(t, api.Expr{Args: []api.Operand{}, Kids: []api.Expr{}}, 1, 1)
	wantMeasures(t, a, 1, 3)
	wantMeasures(t, b, 1, 4)
	wantMeasures(t, like(path("a"), text("x")), 1, 3)
	wantMeasures(t, not(a), 2, 4)
	wantMeasures(t, not(b), 2, 5)
	wantMeasures(t, not(not(a)), 3, 5)
	wantMeasures(t, and(a, b), 2, 8)
	wantMeasures(t, or(a, b, a), 2, 11)
	wantMeasures(t, or(and(a, not(b)), a), 4, 13)
	wantMeasures(t, or(a, and(a, not(b))), 4, 13)
	wantMeasures(t, or(a, and(a, not(b)), a), 4, 16)
	wantMeasures(t, and(not(not(not(a))), not(a), a), 5, 14)
	x, _ := Parse("a = 1 AND NOT b = 2 OR c LIKE 'x%'")
	wantMeasures(t, x, 4, 12)
}

// Trees that no text has: any Op, any Args, Args beside Kids.
func TestMeasuresOfOtherTrees(t *testing.T) {
	for _, op := range []int{math.MinInt, -1, 0, api.XRel, api.XBetween, api.XLike, api.XNot, api.XAnd, api.XOr, api.XOr + 1, math.MaxInt} {
		wantMeasures(t, api.Expr{Op: op, Rel: op}, 1, 1)
		wantMeasures(t, api.Expr{Op: op, Args: []api.Operand{{Kind: op, Text: "xyz", Num: 9}}}, 1, 2)
		wantMeasures(t, node(op, api.Expr{}), 2, 2)
		wantMeasures(t, api.Expr{Op: op, Args: make([]api.Operand, 7), Kids: make([]api.Expr, 3)}, 2, 11)
		wantMeasures(t, node(op, node(op), node(op, node(op, is("a")))), 4, 7)
		wantMeasures(t, api.Expr{Args: make([]api.Operand, 2), Kids: []api.Expr{{Op: op, Args: make([]api.Operand, 1), Kids: []api.Expr{{Op: op}}}}}, 3, 6)
	}
}

func TestMeasuresOfWhatIsLarge(t *testing.T) {
	const large = 1 << 16
	wantMeasures(t, api.Expr{Op: api.XRel, Args: make([]api.Operand, large)}, 1, 1+large)
	wantMeasures(t, api.Expr{Op: api.XOr, Kids: make([]api.Expr, large)}, 2, 1+large)
	x := is("a")
	for range large - 1 {
		x = not(x)
	}
	wantMeasures(t, x, large, large+2)
	wide := is("a")
	for range 16 {
		wide = and(wide, wide)
	}
	wantMeasures(t, wide, 17, 4*large-1)
}

// What lies behind the end of a list does not count.
func TestMeasuresBehindTheEnd(t *testing.T) {
	kids := []api.Expr{is("a"), not(is("b")), not(not(is("c")))}
	args := []api.Operand{num(1), num(2), num(3)}
	for n := range 4 {
		x := api.Expr{Op: api.XAnd, Args: args[:n], Kids: kids[:n]}
		wantMeasures(t, x, n+1, []int{1, 5, 10, 16}[n])
	}
}

func randomTree(r *rand.Rand, n int) api.Expr {
	x := api.Expr{Op: r.Intn(9) - 1, Args: make([]api.Operand, r.Intn(4))}
	if n > 0 {
		for range r.Intn(4) {
			x.Kids = append(x.Kids, randomTree(r, r.Intn(n)))
		}
	}
	return x
}

// measured goes through a tree level by level.
func measured(x api.Expr) (int, int) {
	deep, size := 0, 0
	for level := []api.Expr{x}; len(level) > 0; deep++ {
		var next []api.Expr
		for _, y := range level {
			size += 1 + len(y.Args)
			next = append(next, y.Kids...)
		}
		level = next
	}
	return deep, size
}

func TestMeasuresOfRandomTrees(t *testing.T) {
	r := rand.New(rand.NewSource(154))
	for range 5000 {
		x := randomTree(r, 1+r.Intn(9))
		deep, size := measured(x)
		wantMeasures(t, x, deep, size)
	}
	eachFilter(155, 5000, func(_ *rand.Rand, s string, x api.Expr) {
		got, _ := Parse(s)
		deep, size := measured(x)
		wantMeasures(t, got, deep, size)
	})
}

// Promise 15.3.

// wantSameInside wants a filter within more parentheses to have the same tree, as long as they and its own are not nested too deeply.
func wantSameInside(t *testing.T, s string) {
	t.Helper()
	want, f := Parse(s)
	if f != (api.Fault{}) {
		t.Errorf("Parse of %q: %v at %d", s, f.Err, f.At)
		return
	}
	own := greatestNest(s)
	for n := 1; n <= api.MaxNest+2; n++ {
		inside := strings.Repeat("(", n) + s + strings.Repeat(")", n)
		switch {
		case isLong(inside):
			return
		case own+n < api.MaxNest:
			wantTree(t, inside, want)
		default:
			l, _ := token.Tokens(inside)
			wantNone(t, inside, api.ErrDeep, l[slices.Index(nests(l), api.MaxNest)].At)
		}
	}
}

func TestMoreParentheses(t *testing.T) {
	wantSameInside(t, "a = 1")
	wantSameInside(t, "a = 1 OR b = 1 AND c = 1")
	wantSameInside(t, "a NOT BETWEEN 1 AND 2")
	for n := range api.MaxNest + 1 {
		for bits := range 1 << n {
			s, _ := within("a=1", is("a"), n, bits)
			wantSameInside(t, s)
			wantSameInside(t, "b=1 OR "+s+" AND c=1")
		}
	}
	eachFilter(156, 5000, func(_ *rand.Rand, s string, _ api.Expr) { wantSameInside(t, s) })
}

// Parentheses about each test of a filter, or each NOT, are additional ones as well.
func TestMoreParenthesesInside(t *testing.T) {
	plain := "a = 1 AND NOT b BETWEEN 1 AND 2 OR c LIKE 'x%' AND d NOT BETWEEN 1 AND 2"
	want, _ := Parse(plain)
	for _, s := range []string{
		"(a = 1) AND NOT b BETWEEN 1 AND 2 OR c LIKE 'x%' AND d NOT BETWEEN 1 AND 2",
		"a = 1 AND (NOT b BETWEEN 1 AND 2) OR c LIKE 'x%' AND d NOT BETWEEN 1 AND 2",
		"a = 1 AND NOT (b BETWEEN 1 AND 2) OR c LIKE 'x%' AND (d NOT BETWEEN 1 AND 2)",
		"(a = 1 AND NOT b BETWEEN 1 AND 2) OR (c LIKE 'x%' AND d NOT BETWEEN 1 AND 2)",
		"(((a = 1) AND (NOT ((b BETWEEN 1 AND 2)))) OR ((c LIKE 'x%') AND ((d NOT BETWEEN 1 AND 2))))",
	} {
		wantTree(t, s, want)
	}
	// Not these: they are about other operands.
	for _, s := range []string{
		"a = 1 AND (NOT b BETWEEN 1 AND 2 OR c LIKE 'x%') AND d NOT BETWEEN 1 AND 2",
		"a = 1 AND NOT (b BETWEEN 1 AND 2 OR c LIKE 'x%' AND d NOT BETWEEN 1 AND 2)",
	} {
		if x, f := Parse(s); f != (api.Fault{}) || same(x, want) {
			t.Errorf("Parse of %q: %v, %v", s, x, f)
		}
	}
}

// The rules that hold everywhere.

func share(a, b string) bool {
	if a == "" || b == "" {
		return false
	}
	from, to := uintptr(unsafe.Pointer(unsafe.StringData(a))), uintptr(unsafe.Pointer(unsafe.StringData(b)))
	return from < to+uintptr(len(b)) && to < from+uintptr(len(a))
}

// nodes are a tree's expressions.
func nodes(x *api.Expr) []*api.Expr {
	l := []*api.Expr{x}
	for i := range x.Kids {
		l = append(l, nodes(&x.Kids[i])...)
	}
	return l
}

func TestNewMemory(t *testing.T) {
	eachFilter(157, 500, func(_ *rand.Rand, s string, want api.Expr) {
		s = strings.Clone(s)
		x, _ := Parse(s)
		for _, n := range nodes(&x) {
			for _, o := range n.Args {
				if share(o.Text, s) {
					t.Errorf("%q of %q shares memory with the text", o.Text, s)
				}
			}
		}
		// What is done with one list is to be seen in no other, nor in another answer.
		y, _ := Parse(s)
		for _, n := range nodes(&x) {
			_ = append(n.Args, num(7))
			_ = append(n.Kids, is("b"))
		}
		if !same(x, want) {
			t.Errorf("the lists of %q share memory", s)
		}
		for _, n := range nodes(&x) {
			for i := range n.Args {
				n.Args[i] = num(7)
			}
			*n = api.Expr{Args: n.Args, Kids: n.Kids}
		}
		if !same(y, want) {
			t.Errorf("two answers for %q share memory", s)
		}
		wantTree(t, s, want)
	})
}

func TestEachListIsOneOfItsOwn(t *testing.T) {
	eachFilter(158, 500, func(_ *rand.Rand, s string, want api.Expr) {
		for i := range nodes(&want) {
			x, _ := Parse(s)
			y := copied(x)
			for _, n := range []*api.Expr{nodes(&x)[i], nodes(&y)[i]} {
				for j := range n.Args {
					n.Args[j] = num(7)
				}
			}
			if !same(x, y) {
				t.Errorf("Args of %q share memory", s)
			}
		}
	})
}

// Each call answers by its argument alone, whatever was called before it.
func TestNothingKept(t *testing.T) {
	texts := []string{"", "a = 1", "a", "!", "(", "a = 1 OR b LIKE 'x'", strings.Repeat("(", 20), strings.Repeat("a", 300), "NOT a NOT BETWEEN %1 AND %2"}
	for _, s := range texts {
		want, f := Parse(s)
		for _, b := range texts {
			x, _ := Parse(b)
			Deep(x)
			Size(x)
			if y, g := Parse(s); g != f || !same(y, want) {
				t.Errorf("Parse of %q behind that of %q: %v, %v", s, b, y, g)
			}
		}
	}
}
