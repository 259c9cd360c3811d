package token

import (
	"fmt"
	"math"
	"math/rand"
	"regexp"
	"slices"
	"strconv"
	"strings"
	"testing"
	"unsafe"

	"broadsheet/api"
	"broadsheet/name"
)

const most = "18446744073709551615" // 2^64 - 1

func word(s string, at int) api.Token { return api.Token{Kind: api.TkWord, Text: s, At: at} }

func text(s string, at int) api.Token { return api.Token{Kind: api.TkText, Text: s, At: at} }

func sign(s string, at int) api.Token { return api.Token{Kind: api.TkSign, Text: s, At: at} }

func end(at int) api.Token { return api.Token{Kind: api.TkEnd, At: at} }

func number(s string, at int) api.Token {
	n, err := strconv.ParseUint(s, 10, 64)
	if err != nil {
		panic(err)
	}
	return api.Token{Kind: api.TkNum, Text: s, Num: n, At: at}
}

func param(digit, at int) api.Token {
	return api.Token{Kind: api.TkParam, Text: "%" + strconv.Itoa(digit), Num: uint64(digit), At: at}
}

func tokens(l ...api.Token) []api.Token { return l }

func fault(e api.Errno, at int) api.Fault { return api.Fault{Err: e, At: at} }

// signs are written as the chapter has them.
func signs() []string { return strings.Fields("= <> < <= > >= ( ) . [ ] -") }

// blanksOf are the bytes between tokens, by their numbers.
func blanksOf() []string { return []string{"\x20", "\x09", "\x0a", "\x0d"} }

func isOneOf(b byte, s string) bool { return strings.IndexByte(s, b) >= 0 }

func isLetter(b byte) bool { return 'a' <= b && b <= 'z' || 'A' <= b && b <= 'Z' }

func isDigit(b byte) bool { return '0' <= b && b <= '9' }

func wantTokens(t *testing.T, s string, want ...api.Token) {
	t.Helper()
	if l, f := Tokens(s); f != (api.Fault{}) || !slices.Equal(l, want) {
		t.Errorf("Tokens of %q: %v, %v at %d, want %v", s, l, f.Err, f.At, want)
	}
}

func wantNone(t *testing.T, s string, want api.Errno, at int) {
	t.Helper()
	if l, f := Tokens(s); f != fault(want, at) || len(l) != 0 {
		t.Errorf("Tokens of %q: %v, %v at %d, want %v at %d", s, l, f.Err, f.At, want, at)
	}
}

// Promise 14.1, each kind of tokens.

func TestExample(t *testing.T) {
	wantTokens(t, "a<=-5", word("a", 0), sign("<=", 1), sign("-", 3), number("5", 4), end(5))
}

func TestNothing(t *testing.T) {
	wantTokens(t, "", end(0))
	wantTokens(t, "   ", end(3))
	wantTokens(t, strings.Repeat("\t", api.MaxFilter), end(api.MaxFilter))
}

func TestWords(t *testing.T) {
	for _, s := range []string{"a", "Z", "a_", "a1", "a_b_2", "and", "AND", "OR", "NOT", "BETWEEN", "LIKE", "TRUE", "FALSE", "ANDOR", "NOT1", "x0f"} {
		wantTokens(t, s, word(s, 0), end(len(s)))
		wantTokens(t, " "+s+" ", word(s, 1), end(len(s)+2))
		wantTokens(t, "."+s+"]", sign(".", 0), word(s, 1), sign("]", len(s)+1), end(len(s)+2))
	}
	for n := 1; n <= api.MaxFilter; n++ {
		s := strings.Repeat("a", n)
		wantTokens(t, s, word(s, 0), end(n))
	}
	wantTokens(t, "a b", word("a", 0), word("b", 2), end(3))
	wantTokens(t, "NOTa NOT a", word("NOTa", 0), word("NOT", 5), word("a", 9), end(10))
	wantNone(t, "_a", api.ErrToken, 0)
	wantNone(t, "a _", api.ErrToken, 2)
	wantNone(t, "1_", api.ErrToken, 1)
}

func TestNumbers(t *testing.T) {
	for _, s := range []string{"0", "1", "9", "10", "100", "255", "4294967296", "9223372036854775807", "9223372036854775808", "10000000000000000000", "18446744073709551614", most} {
		wantTokens(t, s, number(s, 0), end(len(s)))
		wantTokens(t, "-"+s, sign("-", 0), number(s, 1), end(len(s)+1))
		wantTokens(t, " "+s+"x", number(s, 1), word("x", len(s)+1), end(len(s)+2))
	}
	if l, f := Tokens(most); f != (api.Fault{}) || l[0].Num != math.MaxUint64 {
		t.Errorf("%v, %v", l, f)
	}
	wantTokens(t, "0 0", number("0", 0), number("0", 2), end(3))
	wantTokens(t, "1.5e10", number("1", 0), sign(".", 1), number("5", 2), word("e10", 3), end(6))
	wantTokens(t, "0x1F", number("0", 0), word("x1F", 1), end(4))
	wantTokens(t, "a[12]", word("a", 0), sign("[", 1), number("12", 2), sign("]", 4), end(5))
	for n := range 2000 {
		s := strconv.Itoa(n)
		wantTokens(t, s, api.Token{Kind: api.TkNum, Text: s, Num: uint64(n)}, end(len(s)))
	}
}

func TestNumbersWithZerosAhead(t *testing.T) {
	for _, s := range []string{"00", "01", "09", "007", "0000000000", "0" + most, "018446744073709551616", strings.Repeat("0", api.MaxFilter), "0" + strings.Repeat("9", 100)} {
		wantNone(t, s, api.ErrForm, 0)
	}
	wantNone(t, "-07", api.ErrForm, 1)
	wantNone(t, "a = 00a", api.ErrForm, 4)
	wantNone(t, "0 10 01", api.ErrForm, 5)
	wantNone(t, "%001", api.ErrForm, 2)
}

func TestNumbersOutOfRange(t *testing.T) {
	for _, s := range []string{"18446744073709551616", "18446744073709551620", "18446744073709551700", "20000000000000000000", "100000000000000000000", "36893488147419103232", "340282366920938463463374607431768211456", "1" + strings.Repeat("0", api.MaxFilter-1), strings.Repeat("9", api.MaxFilter)} {
		wantNone(t, s, api.ErrRange, 0)
	}
	wantNone(t, "a = -18446744073709551616", api.ErrRange, 5)
	wantNone(t, most+" "+most+"0", api.ErrRange, len(most)+1)
	wantNone(t, "%1"+most+"1", api.ErrRange, 2)
}

func TestParams(t *testing.T) {
	for d := range 10 {
		s := "%" + strconv.Itoa(d)
		wantTokens(t, s, param(d, 0), end(2))
		wantTokens(t, s+s+" "+s, param(d, 0), param(d, 2), param(d, 5), end(7))
	}
	wantTokens(t, "%12", param(1, 0), number("2", 2), end(3))
	wantTokens(t, "%0%9", param(0, 0), param(9, 2), end(4))
	wantTokens(t, "%3a", param(3, 0), word("a", 2), end(3))
	wantTokens(t, "a%4", word("a", 0), param(4, 1), end(3))
	for _, s := range []string{"%", "%%1", "% 1", "%x", "%-1", "%'1'", "%\n", "%\xff", "%_"} {
		wantNone(t, s, api.ErrToken, 0)
		wantNone(t, "(a "+s, api.ErrToken, 3)
	}
	wantNone(t, "%1%", api.ErrToken, 2)
}

func TestSigns(t *testing.T) {
	for _, s := range signs() {
		wantTokens(t, s, sign(s, 0), end(len(s)))
		wantTokens(t, "a"+s+"b", word("a", 0), sign(s, 1), word("b", len(s)+1), end(len(s)+2))
	}
	wantTokens(t, "<>=", sign("<>", 0), sign("=", 2), end(3))
	wantTokens(t, "<=>", sign("<=", 0), sign(">", 2), end(3))
	wantTokens(t, ">=<", sign(">=", 0), sign("<", 2), end(3))
	wantTokens(t, "=<>", sign("=", 0), sign("<>", 1), end(3))
	wantTokens(t, "=<", sign("=", 0), sign("<", 1), end(2))
	wantTokens(t, "=>", sign("=", 0), sign(">", 1), end(2))
	wantTokens(t, "==", sign("=", 0), sign("=", 1), end(2))
	wantTokens(t, "<<=", sign("<", 0), sign("<=", 1), end(3))
	wantTokens(t, "><>", sign(">", 0), sign("<>", 1), end(3))
	wantTokens(t, ">>=", sign(">", 0), sign(">=", 1), end(3))
	wantTokens(t, "--", sign("-", 0), sign("-", 1), end(2))
	wantTokens(t, "..[](())", sign(".", 0), sign(".", 1), sign("[", 2), sign("]", 3), sign("(", 4), sign("(", 5), sign(")", 6), sign(")", 7), end(8))
	// A blank ends a sign.
	wantTokens(t, "< > < = > =", sign("<", 0), sign(">", 2), sign("<", 4), sign("=", 6), sign(">", 8), sign("=", 10), end(11))
	wantNone(t, "!=", api.ErrToken, 0)
	wantNone(t, "a<!", api.ErrToken, 2)
}

func TestTexts(t *testing.T) {
	for s, want := range map[string]string{
		"''": "", "'a'": "a", "' '": " ", "'it''s'": "it's", "''''": "'", "''''''": "''", "'''a'": "'a", "'a'''": "a'", "'''a'''": "'a'",
		"'a''''b'": "a''b", "'AND'": "AND", "'%1'": "%1", "'007'": "007", "'a = 1'": "a = 1", "' '' '": " ' ", "' ~'": " ~", "'\"'": "\"", "'!@#$^&*{}\\|;?/`'": "!@#$^&*{}\\|;?/`",
	} {
		wantTokens(t, s, text(want, 0), end(len(s)))
		wantTokens(t, "a<>"+s+"b", word("a", 0), sign("<>", 1), text(want, 3), word("b", len(s)+3), end(len(s)+4))
	}
	wantTokens(t, "'a' 'b'", text("a", 0), text("b", 4), end(7))
	wantTokens(t, "'a''b'", text("a'b", 0), end(6))
	wantTokens(t, "'' ''", text("", 0), text("", 3), end(5))
	wantTokens(t, "'a'1'b'", text("a", 0), number("1", 3), text("b", 4), end(7))
	for n := 2; n <= api.MaxFilter; n++ {
		s := strings.Repeat("x", n-2)
		wantTokens(t, "'"+s+"'", text(s, 0), end(n))
	}
	// A row of quotes alone is a text if their number is even.
	for n := 1; n <= api.MaxFilter; n++ {
		s := strings.Repeat("'", n)
		if n%2 != 0 {
			wantNone(t, s, api.ErrShort, 0)
			continue
		}
		wantTokens(t, s, text(s[:n/2-1], 0), end(n))
	}
}

func TestUnterminatedTexts(t *testing.T) {
	for _, s := range []string{"'", "'a", "'ab c", "'''", "'a''", "'''a", "'a''b", "'''''", "'a''''", "' AND b = 1", "'" + strings.Repeat("x", 200)} {
		wantNone(t, s, api.ErrShort, 0)
		wantNone(t, "a LIKE "+s, api.ErrShort, 7)
		wantNone(t, "'b' "+s, api.ErrShort, 4)
	}
	wantNone(t, "'a' '", api.ErrShort, 4)
	wantNone(t, "'a'b'", api.ErrShort, 4)
}

func TestBytesInTexts(t *testing.T) {
	for c := range 256 {
		s := string([]byte{byte(c)})
		switch {
		case s == "'":
			continue
		case c < 32 || c > 126:
			wantNone(t, "'"+s+"'", api.ErrText, 1)
			wantNone(t, " 'ab''"+s+s+"'", api.ErrText, 6)
			wantNone(t, "'ab"+s, api.ErrText, 3)
			wantNone(t, "'' '"+s, api.ErrText, 4)
			wantNone(t, "'''"+s, api.ErrText, 3)
		default:
			wantTokens(t, "'"+s+"'", text(s, 0), end(3))
			wantTokens(t, " 'ab''"+s+s+"'", text("ab'"+s+s, 1), end(9))
			wantNone(t, "'ab"+s, api.ErrShort, 0)
		}
	}
	wantNone(t, "'a\x00b\x01'", api.ErrText, 2)
	wantNone(t, "'é'", api.ErrText, 1)
	wantNone(t, "'a\tb'", api.ErrText, 2)
	// Behind its end, a byte is not the text's.
	wantNone(t, "'a'\x01", api.ErrToken, 3)
	wantTokens(t, "'a'\n", text("a", 0), end(4))
}

// oneByte is what a text of one byte has.
func oneByte(b byte) ([]api.Token, api.Fault) {
	s := string([]byte{b})
	switch {
	case isLetter(b):
		return tokens(word(s, 0), end(1)), api.Fault{}
	case isDigit(b):
		return tokens(number(s, 0), end(1)), api.Fault{}
	case isOneOf(b, "=<>().[]-"):
		return tokens(sign(s, 0), end(1)), api.Fault{}
	case b == 32 || b == 9 || b == 10 || b == 13:
		return tokens(end(1)), api.Fault{}
	case b == '\'':
		return nil, fault(api.ErrShort, 0)
	}
	return nil, fault(api.ErrToken, 0)
}

func TestEachByte(t *testing.T) {
	for c := range 256 {
		s := string([]byte{byte(c)})
		want, f := oneByte(byte(c))
		if f.Err != api.OK {
			wantNone(t, s, f.Err, 0)
			wantNone(t, "ab = "+s, f.Err, 5)
			continue
		}
		wantTokens(t, s, want...)
		for i := range want {
			want[i].At += 3
		}
		wantTokens(t, "<= "+s, append(tokens(sign("<=", 0)), want...)...)
	}
}

func TestBlanks(t *testing.T) {
	for _, b := range blanksOf() {
		wantTokens(t, b+"a"+b+b+"1"+b, word("a", 1), number("1", 4), end(6))
		wantTokens(t, "%"+"1"+b+"2", param(1, 0), number("2", 3), end(4))
		wantTokens(t, "<"+b+"=", sign("<", 0), sign("=", 2), end(3))
		wantTokens(t, "1"+b+"0", number("1", 0), number("0", 2), end(3))
		wantNone(t, "%"+b+"1", api.ErrToken, 0)
	}
	wantTokens(t, " \t\r\na", word("a", 4), end(5))
	for _, s := range []string{"\v", "\f", "\x00", "\x85", "\xa0", "\u00a0", "\u2003"} {
		wantNone(t, "a"+s+"b", api.ErrToken, 1)
	}
}

// Promise 14.1, limits and the order of errors.

func TestLongTexts(t *testing.T) {
	for _, s := range []string{" ", "a", "1", "0", "'", "!", "\x00", "\xff", "-", "''", "%1", "é"} {
		long := strings.Repeat(s, api.MaxFilter+1)
		for n := api.MaxFilter + 1; n <= len(long); n++ {
			wantNone(t, long[:n], api.ErrLong, 0)
		}
	}
	// It counts before what is wrong at byte 0.
	for _, s := range []string{"!", "00", "'\x00", "'", most + "0", "'a' ! "} {
		wantNone(t, s+strings.Repeat(" ", api.MaxFilter+1-len(s)), api.ErrLong, 0)
	}
	wantNone(t, "!"+strings.Repeat(" ", api.MaxFilter-1), api.ErrToken, 0)
	wantNone(t, strings.Repeat(" ", api.MaxFilter-1)+"!", api.ErrToken, api.MaxFilter-1)
	wantTokens(t, strings.Repeat(" ", api.MaxFilter-1)+"a", word("a", api.MaxFilter-1), end(api.MaxFilter))
	wantNone(t, strings.Repeat("a", 1<<20), api.ErrLong, 0)
}

// full has as many tokens as may be, and no byte behind the last one.
func full(s string) string { return strings.TrimRight(strings.Repeat(s+" ", api.MaxTokens), " ") }

func TestManyTokens(t *testing.T) {
	for _, s := range []string{"a", "1", "''", "%1", "<=", "(", "0", "abc", "'a'", "12"} {
		all := full(s)
		l, f := Tokens(all)
		if f != (api.Fault{}) || len(l) != api.MaxTokens+1 || l[api.MaxTokens] != end(len(all)) {
			t.Errorf("%q: %d tokens, %v at %d", all, len(l), f.Err, f.At)
		}
	}
	for _, s := range []string{"a", "1", "%1", "<=", "("} {
		all := full(s)
		wantTokensOf(t, all+" \t\n\r ", api.MaxTokens)
		for _, more := range []string{"a", "AND", "0", "7", most, "''", "'a''b'", "%1", "%0%", "=", "<>", "a !", "a 00", "1 '", "(!"} {
			wantNone(t, all+" "+more, api.ErrLong, len(all)+1)
			wantNone(t, all+"\n \t"+more, api.ErrLong, len(all)+3)
		}
	}
	wantTokensOf(t, strings.Repeat("(", api.MaxTokens), api.MaxTokens)
	for n := api.MaxTokens + 1; n <= api.MaxFilter; n++ {
		wantNone(t, strings.Repeat("(", n), api.ErrLong, api.MaxTokens)
	}
	wantTokensOf(t, strings.Repeat("a1<=", api.MaxTokens/2), api.MaxTokens)
	wantNone(t, strings.Repeat("a1<=", api.MaxFilter/4), api.ErrLong, 2*api.MaxTokens)
}

func wantTokensOf(t *testing.T, s string, n int) {
	t.Helper()
	l, f := Tokens(s)
	if f != (api.Fault{}) || len(l) != n+1 || l[n] != end(len(s)) {
		t.Errorf("%q: %d tokens, %v at %d", s, len(l), f.Err, f.At)
	}
}

// Behind MaxTokens tokens, what is wrong in itself is named first, also where it begins as a token.
func TestWrongBehindManyTokens(t *testing.T) {
	for _, s := range []string{"(", "a ", "1 "} {
		all := strings.Repeat(s, api.MaxTokens)
		wantNone(t, all+"!", api.ErrToken, len(all))
		wantNone(t, all+"%x", api.ErrToken, len(all))
		wantNone(t, all+"\xff", api.ErrToken, len(all))
		wantNone(t, all+"00", api.ErrForm, len(all))
		wantNone(t, all+most+"0", api.ErrRange, len(all))
		wantNone(t, all+"'ab\x01'", api.ErrText, len(all)+3)
		wantNone(t, all+"'ab", api.ErrShort, len(all))
	}
}

// What is wrong further ahead counts, whatever is wrong behind.
func TestFirstOfSeveralErrors(t *testing.T) {
	faults := []struct {
		s  string
		e  api.Errno
		at int
	}{{"!", api.ErrToken, 0}, {"%x", api.ErrToken, 0}, {"01", api.ErrForm, 0}, {most + "0", api.ErrRange, 0}, {"'a\x01'", api.ErrText, 2}, {"_", api.ErrToken, 0}}
	for _, x := range faults {
		for _, y := range faults {
			wantNone(t, x.s+" "+y.s, x.e, x.at)
			wantNone(t, "a = "+x.s+" "+y.s+" '", x.e, x.at+4)
			wantNone(t, "'b' ("+x.s+strings.Repeat("(", api.MaxTokens), x.e, x.at+5)
		}
	}
	// An unterminated text that has a byte that is not allowed: that byte is named first.
	wantNone(t, "'ab\x01", api.ErrText, 3)
	wantNone(t, "a '' 'ab''\x7f", api.ErrText, 10)
	wantNone(t, "'ab !", api.ErrShort, 0)
	wantNone(t, "'ab 00", api.ErrShort, 0)
	wantNone(t, "' "+strings.Repeat("(", 100), api.ErrShort, 0)
}

// Promise 14.1, against a search of the tests' own.

var (
	leading = regexp.MustCompile(`^(?:([A-Za-z][A-Za-z0-9_]*)|([0-9]+)|('(?:[^']|'')*'?)|(%[0-9])|(<>|<=|>=|[=<>().[\]-]))`)
	space   = regexp.MustCompile(`^[\x20\x09\x0a\x0d]*`)
	barred  = regexp.MustCompile(`[^\x20-\x7e]`)
	zeros   = regexp.MustCompile(`^0[0-9]`)
)

// isClosed tells of a text, with its outer quotes, whether it has the second one.
func isClosed(s string) bool {
	return strings.Count(strings.ReplaceAll(s[1:], "''", ""), "'") == 1
}

// isGreat tells whether digits without zeros ahead are of a number of 2^64 or more.
func isGreat(s string) bool {
	return len(s) > len(most) || len(s) == len(most) && s > most
}

// meant is the token of a match, or what is wrong with it.
func meant(m []string, at int) (api.Token, api.Fault) {
	s := m[0]
	switch {
	case m[1] != "":
		return word(s, at), api.Fault{}
	case m[2] != "" && zeros.MatchString(s):
		return api.Token{}, fault(api.ErrForm, at)
	case m[2] != "" && isGreat(s):
		return api.Token{}, fault(api.ErrRange, at)
	case m[2] != "":
		return number(s, at), api.Fault{}
	case m[3] != "" && barred.MatchString(s):
		return api.Token{}, fault(api.ErrText, at+barred.FindStringIndex(s)[0])
	case m[3] != "" && !isClosed(s):
		return api.Token{}, fault(api.ErrShort, at)
	case m[3] != "":
		return text(strings.ReplaceAll(s[1:len(s)-1], "''", "'"), at), api.Fault{}
	case m[4] != "":
		return param(int(s[1]-'0'), at), api.Fault{}
	}
	return sign(s, at), api.Fault{}
}

// searched are a text's tokens.
func searched(s string) ([]api.Token, api.Fault) {
	if len(s) > api.MaxFilter {
		return nil, fault(api.ErrLong, 0)
	}
	var l []api.Token
	at := len(space.FindString(s))
	for at < len(s) {
		m := leading.FindStringSubmatch(s[at:])
		if m == nil {
			return nil, fault(api.ErrToken, at)
		}
		x, f := meant(m, at)
		if f.Err != api.OK {
			return nil, f
		}
		if len(l) == api.MaxTokens {
			return nil, fault(api.ErrLong, at)
		}
		l = append(l, x)
		at += len(m[0])
		at += len(space.FindString(s[at:]))
	}
	return append(l, end(len(s))), api.Fault{}
}

func wantSearched(t *testing.T, s string) {
	t.Helper()
	want, f := searched(s)
	if f.Err != api.OK {
		wantNone(t, s, f.Err, f.At)
		return
	}
	wantTokens(t, s, want...)
	wantSameBehindJoin(t, want)
}

// sameButAt tells whether tokens are the same but for their offsets.
func sameButAt(a, b api.Token) bool {
	a.At = b.At
	return a == b
}

// wantSameBehindJoin wants joined tokens to be split into the same ones.
func wantSameBehindJoin(t *testing.T, l []api.Token) {
	t.Helper()
	s := Join(l)
	got, f := Tokens(s)
	if len(s) > api.MaxFilter {
		if f != fault(api.ErrLong, 0) || len(got) != 0 {
			t.Errorf("Tokens of %q: %v, %v at %d", s, got, f.Err, f.At)
		}
		return
	}
	if f != (api.Fault{}) || !slices.EqualFunc(got, l, sameButAt) {
		t.Errorf("Tokens of %q: %v, %v at %d, want %v", s, got, f.Err, f.At, l)
	}
}

func TestEachPairOfBytes(t *testing.T) {
	for a := range 256 {
		for b := range 256 {
			wantSearched(t, string([]byte{byte(a), byte(b)}))
		}
	}
}

// eachText calls a function with each text of up to n bytes of an alphabet.
func eachText(n int, alphabet string, f func(s string)) {
	var longer func(s string)
	longer = func(s string) {
		f(s)
		if len(s) == n {
			return
		}
		for i := range len(alphabet) {
			longer(s + alphabet[i:i+1])
		}
	}
	longer("")
}

func TestEachShortText(t *testing.T) {
	eachText(5, "'a0% <=>", func(s string) { wantSearched(t, s) })
	eachText(9, "'a\x01", func(s string) { wantSearched(t, s) })
	eachText(6, "01%_z", func(s string) { wantSearched(t, s) })
}

func randomText(r *rand.Rand) string {
	pieces := append(signs(), "a", "b_1", "AND", "LIKE", "0", "7", "42", most, "%0", "%9", "''", "'x'", "'it''s'", "' '", " ", "\t", "\n", "\r", "  ")
	odd := []string{"!", "'", "\x00", "\xff", "_", "%", "00", most + "0", "'\n'", "é", "\""}
	share := r.Intn(40)
	s := ""
	for range r.Intn(100) {
		if r.Intn(40) == 0 && share == 0 || r.Intn(400) == 0 {
			s += odd[r.Intn(len(odd))]
			continue
		}
		s += pieces[r.Intn(len(pieces))]
	}
	return s
}

func TestRandomTexts(t *testing.T) {
	r := rand.New(rand.NewSource(14))
	found := map[api.Errno]int{}
	for range 20000 {
		s := randomText(r)
		wantSearched(t, s)
		_, f := Tokens(s)
		found[f.Err]++
	}
	for _, e := range []api.Errno{api.OK, api.ErrLong, api.ErrToken, api.ErrForm, api.ErrRange, api.ErrText, api.ErrShort} {
		if found[e] == 0 {
			t.Errorf("no random text has %v", e)
		}
	}
	for range 20000 {
		b := make([]byte, r.Intn(20))
		for i := range b {
			b[i] = byte(r.Intn(256))
		}
		wantSearched(t, string(b))
		wantSearched(t, "'"+string(b)+"'")
	}
}

// Every cut, and every byte changed.
func TestSpoiltText(t *testing.T) {
	s := "a.b[2] <> 'it''s' AND %3>=-7 OR NOT (cd BETWEEN 10 AND 18446744073709551615)"
	for i := range len(s) {
		wantSearched(t, s[:i])
		wantSearched(t, s[i:])
		for c := range 256 {
			wantSearched(t, s[:i]+string([]byte{byte(c)})+s[i+1:])
		}
	}
}

// Promise 14.2.

func wantJoin(t *testing.T, want string, l ...api.Token) {
	t.Helper()
	had := slices.Clone(l)
	if s := Join(l); s != want {
		t.Errorf("Join of %v: %q, want %q", l, s, want)
	}
	if !slices.Equal(l, had) {
		t.Errorf("Join of %v changed them to %v", had, l)
	}
}

func TestJoin(t *testing.T) {
	wantJoin(t, "")
	wantJoin(t, "", end(0))
	wantJoin(t, "a", word("a", 0))
	wantJoin(t, "a ", word("a", 0), end(1))
	wantJoin(t, "a <= - 5 ", word("a", 0), sign("<=", 1), sign("-", 3), number("5", 4), end(5))
	wantJoin(t, "%3 'it''s' ''", param(3, 9), text("it's", 0), text("", 7))
	wantJoin(t, " a  b ", end(0), word("a", 0), end(0), word("b", 0), end(0))
	if s := Join(nil); s != "" {
		t.Errorf("%q", s)
	}
	for _, s := range []string{"a = 1", "  a=1 ", "a\t=\r1\n"} {
		l, _ := Tokens(s)
		wantJoin(t, "a = 1 ", l...)
	}
	long := slices.Repeat(tokens(word("ab", 0), text("'", 0)), 1000)
	wantJoin(t, strings.TrimSuffix(strings.Repeat("ab '''' ", 1000), " "), long...)
}

// Tokens that no text has are joined by their Kind and their Text alone.
func TestJoinAnyTokens(t *testing.T) {
	for _, kind := range []int{math.MinInt, -1, 0, api.TkWord, api.TkNum, api.TkParam, api.TkSign, api.TkEnd, api.TkEnd + 1, math.MaxInt} {
		for _, s := range []string{"", "a", "x'y", " ", "\x00\xff", "'"} {
			x := api.Token{Kind: kind, Text: s, Num: 77, At: -5}
			wantJoin(t, s, x)
			wantJoin(t, s+" "+s+" 'b'", x, x, text("b", 3))
		}
	}
	wantJoin(t, "'\x00\xff\n'", api.Token{Kind: api.TkText, Text: "\x00\xff\n", Num: 9, At: 300})
}

// What lies behind the end of the list is neither told nor changed.
func TestJoinBehindTheEnd(t *testing.T) {
	whole := tokens(word("a", 0), word("b", 0), word("c", 0))
	wantJoin(t, "a b", whole[:2]...)
	if whole[2] != word("c", 0) {
		t.Error(whole)
	}
}

func TestQuote(t *testing.T) {
	for s, want := range map[string]string{
		"": "''", "a": "'a'", "'": "''''", "''": "''''''", "it's": "'it''s'", "'a": "'''a'", "a'": "'a'''", " ": "' '", "é": "'é'", "\x00\xff": "'\x00\xff'", "\"": "'\"'",
	} {
		if got := Quote(s); got != want {
			t.Errorf("Quote of %q: %q, want %q", s, got, want)
		}
	}
	for c := range 256 {
		s := string([]byte{byte(c)})
		want := "'x" + s + "y'"
		if s == "'" {
			want = "'x''y'"
		}
		if got := Quote("x" + s + "y"); got != want {
			t.Errorf("%q, want %q", got, want)
		}
	}
	if got := Quote(strings.Repeat("'", 1<<16)); got != strings.Repeat("'", 1<<17+2) {
		t.Errorf("%d bytes", len(got))
	}
}

// A quoted text is that text's token, if its bytes are allowed.
func TestQuoteAndTokens(t *testing.T) {
	eachText(6, "'a ~", func(s string) {
		q := Quote(s)
		wantTokens(t, q, text(s, 0), end(len(q)))
	})
}

// Promise 14.3.

func randomToken(r *rand.Rand) api.Token {
	switch r.Intn(5) {
	case 0:
		l := []string{"a", "Z_9", "AND", "OR", "NOT", "BETWEEN", "LIKE", "TRUE", "FALSE", "abcdefghijklmnopqrstuvwxyz"}
		return word(l[r.Intn(len(l))], 0)
	case 1:
		return number(strconv.FormatUint(r.Uint64()>>r.Intn(64), 10), 0)
	case 2:
		b := make([]byte, r.Intn(5))
		for i := range b {
			b[i] = byte(32 + r.Intn(95))
			if r.Intn(3) == 0 {
				b[i] = '\''
			}
		}
		return text(string(b), 0)
	case 3:
		return param(r.Intn(10), 0)
	}
	l := signs()
	return sign(l[r.Intn(len(l))], 0)
}

func TestRandomTokens(t *testing.T) {
	r := rand.New(rand.NewSource(143))
	long := 0
	for range 20000 {
		var l []api.Token
		for range r.Intn(api.MaxTokens + 1) {
			l = append(l, randomToken(r))
		}
		l = append(l, end(0))
		wantSameBehindJoin(t, l)
		if len(Join(l)) > api.MaxFilter {
			long++
		}
	}
	if long == 0 || long == 20000 {
		t.Errorf("%d texts are too long", long)
	}
}

func TestEachPairOfTokens(t *testing.T) {
	l := []api.Token{word("a", 0), word("AND", 0), word("x1_", 0), number("0", 0), number("12", 0), number(most, 0), text("", 0), text("'", 0), text("a b", 0), param(0, 0), param(9, 0)}
	for _, s := range signs() {
		l = append(l, sign(s, 0))
	}
	for _, a := range l {
		wantSameBehindJoin(t, tokens(a, end(0)))
		for _, b := range l {
			wantSameBehindJoin(t, tokens(a, b, end(0)))
		}
	}
}

// The longest text that is not too long, and one byte more.
func TestJoinedAtTheLimit(t *testing.T) {
	for n := 1; n < 60; n++ {
		l := append(slices.Repeat(tokens(text("'", 0)), 43), word(strings.Repeat("w", n), 0), end(0))
		wantSameBehindJoin(t, l)
		if isShort := len(Join(l)) <= api.MaxFilter; isShort != (n <= 40) {
			t.Errorf("%d: %d bytes", n, len(Join(l)))
		}
	}
	for n := 190; n < 210; n++ {
		s := strings.Repeat("w", n) + " " + strings.Repeat("x ", 28)
		wantSearched(t, s[:len(s)-1])
	}
}

// The rules that hold everywhere.

func share(a, b string) bool {
	if a == "" || b == "" {
		return false
	}
	from, to := uintptr(unsafe.Pointer(unsafe.StringData(a))), uintptr(unsafe.Pointer(unsafe.StringData(b)))
	return from < to+uintptr(len(b)) && to < from+uintptr(len(a))
}

func TestNewMemory(t *testing.T) {
	s := strings.Clone("a.b[2] <> 'its' AND 'it''s' %3>=-7")
	l, _ := Tokens(s)
	for _, x := range l {
		if share(x.Text, s) {
			t.Errorf("%v shares memory with the text", x)
		}
		if one := Join(tokens(x)); share(one, x.Text) {
			t.Errorf("Join of %v alone shares its memory", x)
		}
		if share(Quote(x.Text), x.Text) {
			t.Errorf("Quote of %v shares its memory", x)
		}
	}
	other, _ := Tokens(s)
	for i := range other {
		other[i] = api.Token{}
	}
	_ = append(l[:1:1], end(9))
	again, _ := Tokens(s)
	if !slices.Equal(l, again) {
		t.Errorf("%v, want %v", l, again)
	}
}

// Each call answers by its argument alone, whatever was called before it.
func TestNothingKept(t *testing.T) {
	texts := []string{"", "a", "!", "'ab", "007", full("a"), full("a") + " b", strings.Repeat("a", 300), "%1 'x'"}
	for _, s := range texts {
		want, f := Tokens(s)
		for _, between := range texts {
			_, _ = Tokens(between)
			_ = Join(want)
			if l, g := Tokens(s); g != f || !slices.Equal(l, want) {
				t.Errorf("Tokens of %q behind those of %q: %v, %v", s, between, l, g)
			}
		}
	}
}

// A word is as long as the name that leads, whatever its length.
func TestWordsAreThoseOfNames(t *testing.T) {
	eachText(4, "aZ0_ .", func(s string) {
		n := name.Lead(s)
		l, _ := Tokens(s)
		if n > 0 && len(l) > 0 && l[0] != word(s[:n], 0) {
			t.Errorf("%q: %s", s, fmt.Sprint(l[0]))
		}
	})
}
