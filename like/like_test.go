package like

import (
	"math/rand"
	"regexp"
	"strings"
	"testing"
	"unsafe"
)

// isMatch goes by the definition, byte by byte: a % stands for nothing, or for a byte and for what another % stands for.
func isMatch(p, s string) bool {
	switch {
	case p == "":
		return s == ""
	case p[0] == '%':
		return isMatch(p[1:], s) || s != "" && isMatch(p, s[1:])
	}
	return s != "" && (p[0] == '_' || p[0] == s[0]) && isMatch(p[1:], s[1:])
}

// wide has a rune for each byte, since regexp takes texts by their runes.
func wide(s string) string {
	l := []rune{}
	for i := range len(s) {
		l = append(l, rune(s[i]))
	}
	return string(l)
}

// regular is a pattern as a regular expression.
func regular(p string) *regexp.Regexp {
	s := regexp.QuoteMeta(wide(p))
	return regexp.MustCompile(`(?s)\A` + strings.NewReplacer("%", ".*", "_", ".").Replace(s) + `\z`)
}

func wantMatch(t *testing.T, p, s string, want bool) {
	t.Helper()
	if Match(p, s) != want {
		t.Errorf("Match(%.80q, %.80q) (%d and %d bytes) = %v", p, s, len(p), len(s), !want)
	}
}

func wantLead(t *testing.T, p, want string) {
	t.Helper()
	if s := Lead(p); s != want {
		t.Errorf("Lead(%.80q) = %.80q; want %.80q", p, s, want)
	}
}

func wantLeast(t *testing.T, p string, want int) {
	t.Helper()
	if n := Least(p); n != want {
		t.Errorf("Least(%.80q) = %d; want %d", p, n, want)
	}
}

// eachText calls a function with each text of up to n bytes of an alphabet.
func eachText(n int, alphabet string, f func(s string)) {
	f("")
	for i := range len(alphabet) {
		if n > 0 {
			eachText(n-1, alphabet, func(s string) { f(alphabet[i:i+1] + s) })
		}
	}
}

// texts are all texts of up to n bytes of an alphabet, once each.
func texts(n int, alphabet string) []string {
	var l []string
	seen := map[string]struct{}{}
	eachText(n, alphabet, func(s string) {
		if _, ok := seen[s]; !ok {
			l = append(l, s)
		}
		seen[s] = struct{}{}
	})
	return l
}

func everyByte() string {
	b := make([]byte, 256)
	for i := range b {
		b[i] = byte(i)
	}
	return string(b)
}

// Promise 17.1.

func TestMatch(t *testing.T) {
	for p, l := range map[string][]string{
		"":        {""},
		"%":       {"", "a", "%", "_", "abc", "\x00\xff"},
		"%%":      {"", "a", "ab", "%%%"},
		"_":       {"a", "%", "_", "\x00", "\xff", " ", "\n"},
		"__":      {"ab", "\u00e9"},
		"_%":      {"a", "ab", "%"},
		"%_":      {"a", "ab", "_"},
		"%_%":     {"a", "ab", "abc"},
		"abc":     {"abc"},
		"a_c":     {"abc", "aac", "a_c", "a%c", "a\nc"},
		"a%":      {"a", "ab", "a%", "aaaa"},
		"%a":      {"a", "ba", "aa", "aba", "%a"},
		"%a%":     {"a", "ba", "ab", "bab", "aaa"},
		"a%b":     {"ab", "aab", "abb", "acbcb", "a%b"},
		"a%b_":    {"abc", "axxbc", "abb", "abbb", "ab%b%"},
		"%a%a":    {"aa", "aba", "aaa", "baba"},
		"%ab%":    {"ab", "aaab", "abab", "xaabx"},
		"%aab%":   {"aab", "aaab", "aabaab", "abaab"},
		"%a_a":    {"aba", "aaa", "aaba", "ababa", "abaaa"},
		"a%a":     {"aa", "aba", "aaa"},
		"ab%ba":   {"abba", "abxba", "abababa"},
		"%_a%b_%": {"xabx", "aabb", "aaxbbb", "xxxaxxxbxxx"},
	} {
		for _, s := range l {
			wantMatch(t, p, s, true)
		}
	}
}

func TestNoMatch(t *testing.T) {
	for p, l := range map[string][]string{
		"":        {"a", " ", "%", "_", "\x00"},
		"_":       {"", "ab", "\u00e9"},
		"__":      {"", "a", "abc"},
		"_%":      {""},
		"%_":      {""},
		"%_%":     {""},
		"%_%_%":   {"", "a"},
		"abc":     {"", "ab", "abcd", "abd", "Abc", "ABC", "bc", "xabc", " abc", "abc "},
		"a_c":     {"ac", "abbc", "abd", "xbc", "a", ""},
		"a%":      {"", "b", "ba", "Aa"},
		"%a":      {"", "b", "ab", "aA"},
		"%a%":     {"", "b", "bcb", "A"},
		"a%b":     {"", "a", "b", "ba", "abc", "cab", "acbc"},
		"a%b_":    {"ab", "b", "abcd", "axxb", "xabc"},
		"%a%a":    {"a", "ab", "aab", "bab"},
		"%ab%":    {"a", "b", "ba", "aaaa", "axb"},
		"%aab%":   {"ab", "abab", "aa", "aba"},
		"a%a":     {"a", "ab", "ba"},
		"ab%ba":   {"aba", "ab", "ba", "abab", "abb"},
		"ab%bc%c": {"abc", "abcc", "abbc"},
		"%%a":     {"", "ab"},
	} {
		for _, s := range l {
			wantMatch(t, p, s, false)
		}
	}
}

// What other languages' patterns have is nothing here: no byte stands for others but % and _, and none takes that from these.
func TestOtherSignsStandForThemselves(t *testing.T) {
	for _, p := range []string{"*", "?", ".", ".*", "[a]", "[^b]", "a+", "a|b", "^a$", "a{1}", "(a)", "\\", "\\\\", "\\a", "'", "''", "#", "a\x00b", "\n"} {
		wantMatch(t, p, p, true)
		for _, s := range []string{"", "a", "b", "ab", p + "x", "x" + p, "A"} {
			wantMatch(t, p, s, false)
		}
	}
	for _, s := range []string{"\\", "\\%", "\\abc"} {
		wantMatch(t, "\\%", s, true)
	}
	wantMatch(t, "\\%", "%", false)
	wantMatch(t, "\\_", "_", false)
	wantMatch(t, "\\_", "\\a", true)
	wantMatch(t, "%%", "a", true) // and % is not % for being there twice
	wantMatch(t, "__", "_", false)
}

func TestEachByte(t *testing.T) {
	for _, a := range []byte(everyByte()) {
		p := string([]byte{a})
		wantMatch(t, p, "", a == '%')
		wantMatch(t, "x"+p+"y%", "xy", a == '%')
		for _, b := range []byte(everyByte()) {
			s := string([]byte{b})
			is := a == b || a == '%' || a == '_'
			wantMatch(t, p, s, is)
			wantMatch(t, p+"y", s+"y", is)
			wantMatch(t, "x"+p, "x"+s, is)
			wantMatch(t, "%x"+p+"z%", "yyx"+s+"zyy", is)
			wantMatch(t, "_"+p+"_", "x"+s+"y", is)
			wantMatch(t, p+p, s+s, is)
			wantMatch(t, p+p, s, a == '%')
		}
	}
}

// A byte of a rune is a byte like others.
func TestBytesOfRunes(t *testing.T) {
	s := "a\u00e9\u20ac\U0001f600z"
	wantMatch(t, s, s, true)
	wantMatch(t, "a_________z", s, true)
	wantMatch(t, "a___z", s, false)
	wantMatch(t, "%\xa9\xe2%", s, true)
	wantMatch(t, "a\xc3_%\x98\x80z", s, true)
	wantMatch(t, "a\ufffd%", s, false)
	wantMatch(t, "\ufffd", "\xff", false)
	wantMatch(t, "\xff", "\ufffd", false)
	wantMatch(t, "\xff%\xfe", "\xff\x00\xfe", true)
	wantMatch(t, "\u00e9", "e\u0301", false)
}

func TestEachShortPattern(t *testing.T) {
	// Patterns of the bytes that texts have, with signs that stand for others in the texts, too.
	for _, c := range []struct {
		n        int
		alphabet string
		m        int
		of       string
	}{{4, "ab%_", 5, "ab%_"}, {6, "a%_", 8, "a"}, {7, "ab%", 7, "ab"}, {5, "ab%_", 8, "ab"}, {9, "a%", 9, "a"}} {
		l := texts(c.m, c.of)
		for _, p := range texts(c.n, c.alphabet) {
			for _, s := range l {
				wantMatch(t, p, s, isMatch(p, s))
			}
		}
	}
}

// maker makes texts without a pattern, the same each time.
type maker struct{ *rand.Rand }

// text has up to n bytes of an alphabet.
func (m maker) text(n int, alphabet string) string {
	b := make([]byte, m.Intn(n+1))
	for i := range b {
		b[i] = alphabet[m.Intn(len(alphabet))]
	}
	return string(b)
}

// matched is a text that a pattern matches.
func (m maker) matched(p string, n int, alphabet string) string {
	b := []byte{}
	for i := range len(p) {
		switch p[i] {
		case '%':
			b = append(b, m.text(n, alphabet)...)
		case '_':
			b = append(b, alphabet[m.Intn(len(alphabet))])
		default:
			b = append(b, p[i])
		}
	}
	return string(b)
}

// spoilt is a text with one byte changed, more or less.
func (m maker) spoilt(s, alphabet string) string {
	at := m.Intn(len(s) + 1)
	b := alphabet[m.Intn(len(alphabet)):][:1]
	behind := s[at:]
	if behind != "" && m.Intn(3) > 0 {
		behind = behind[1:]
	}
	return s[:at] + []string{"", b}[m.Intn(2)] + behind
}

func alphabets() []string {
	return []string{"a", "ab", "abc", "ab%_", "%_", "xyzXYZ019 .*?\\[]", everyByte()}
}

func TestTextsWithoutAPattern(t *testing.T) {
	m, found := maker{rand.New(rand.NewSource(17))}, 0
	for range 6000 {
		of := alphabets()[m.Intn(len(alphabets()))]
		p := m.text(30, of+strings.Repeat("%_", m.Intn(len(of)+1)))
		e := regular(p)
		s := m.matched(p, 6, of)
		wantMatch(t, p, s, true)
		for _, s := range []string{m.spoilt(s, of), m.spoilt(m.spoilt(s, of), of), m.text(40, of), p, m.spoilt(p, of)} {
			is := e.MatchString(wide(s))
			wantMatch(t, p, s, is)
			if is {
				found++
			}
		}
	}
	if found < 2000 || found > 28000 {
		t.Error(found)
	}
}

// Neither many % nor a long text make it long.
func TestManySigns(t *testing.T) {
	for _, n := range []int{1, 2, 63, 64, 65, 256, 2000} {
		s := strings.Repeat("a", n)
		for _, p := range []string{"%a", "%%a", "a%", "%_", "_%", "%a%", "%_%"} {
			wantMatch(t, strings.Repeat(p, n), s, true)
			wantMatch(t, strings.Repeat(p, n), s+"a", true)
			wantMatch(t, strings.Repeat(p, n), s[1:], false)
			wantMatch(t, strings.Repeat(p, n)+"b", s, false)
			wantMatch(t, strings.Repeat(p, n)+"b", s+s, false)
			wantMatch(t, strings.Repeat(p, n)+"b", s+s+"b", true)
			wantMatch(t, strings.Repeat(p, n)+"b%", s+s, false)
			wantMatch(t, strings.Repeat(p, n)+"b%", s+s+"ba", true)
			wantMatch(t, "b"+strings.Repeat(p, n), s+s, false)
			wantMatch(t, "b"+strings.Repeat(p, n), "b"+s, true)
		}
		wantMatch(t, strings.Repeat("%", n), "", true)
		wantMatch(t, strings.Repeat("%", n), s, true)
		wantMatch(t, strings.Repeat("_", n), s, true)
		wantMatch(t, strings.Repeat("_", n), s+"a", false)
		wantMatch(t, strings.Repeat("_", n), s[1:], false)
		wantMatch(t, s+"%"+s, s+s, true)
		wantMatch(t, s+"%"+s, s+s[1:], false)
		wantMatch(t, "%"+s+"b%", s+s+s, false)
		wantMatch(t, "%"+s+"b%", s+s+s+"b", true)
	}
}

func TestLongTexts(t *testing.T) {
	for _, n := range []int{1 << 16, 1<<20 + 1} {
		s := strings.Repeat("a", n)
		wantMatch(t, s, s, true)
		wantMatch(t, s, s[1:], false)
		wantMatch(t, s[1:]+"b", s, false)
		wantMatch(t, "b"+s[1:], s, false)
		wantMatch(t, "%"+s[n/2:], s, true)
		wantMatch(t, s[n/2:]+"%", s, true)
		wantMatch(t, "%"+s[n/2:]+"b", s, false)
		wantMatch(t, "%b"+s[n/2:], s, false)
		wantMatch(t, "%"+s+"%", s, true)
		wantMatch(t, "%"+s+"%", s[1:], false)
		wantMatch(t, strings.Repeat("%a", n), s, true)
		wantMatch(t, strings.Repeat("%a", n), s[1:], false)
		wantMatch(t, strings.Repeat("_%", n), s, true)
		wantMatch(t, strings.Repeat("%_%b", n/2), s, false)
		wantMatch(t, strings.Repeat("_", n), s, true)
		wantMatch(t, strings.Repeat("%", n), s, true)
		wantMatch(t, strings.Repeat("%", n)+"b", s, false)
		wantMatch(t, "%ab%a%", s+"b"+s, true)
		wantMatch(t, "%ab%ba%", s+"b"+s, false)
		wantMatch(t, "%ab%bb%", s+"b"+s, false)
	}
}

// Promise 17.2.

func TestLead(t *testing.T) {
	for p, want := range map[string]string{
		"": "", "%": "", "_": "", "ab": "ab", "ab%": "ab", "ab_": "ab", "ab_%": "ab", "ab%_": "ab", "%ab": "", "_ab": "", "a%b_c": "a", "a_b%c": "a", "a_b_c": "a", "a%b%c": "a",
		"\\%a": "\\", "*?.": "*?.", "\x00\xff%\x00": "\x00\xff", "\u00e9_": "\u00e9", "it's 100%": "it's 100", "x ": "x ",
	} {
		wantLead(t, p, want)
	}
}

func TestLeast(t *testing.T) {
	for p, want := range map[string]int{
		"": 0, "%": 0, "%%%": 0, "_": 1, "__": 2, "_%_": 2, "ab": 2, "ab%": 2, "%ab": 2, "a%b": 2, "ab_%": 3, "a%_b%": 3, "%_%": 1, "\\%": 1, "\\_": 2, "\x00\xff": 2, "\u00e9": 2, "*?": 2, "%a%b%c%": 3,
	} {
		wantLeast(t, p, want)
	}
}

func TestLeadAndLeastOfEachByte(t *testing.T) {
	for _, a := range []byte(everyByte()) {
		p := string([]byte{a})
		for _, before := range []string{"", "a", "a\x00\xff", strings.Repeat("x", 300)} {
			lead, least := before+p+"b", len(before)+2
			if a == '%' || a == '_' {
				lead = before
			}
			if a == '%' {
				least--
			}
			wantLead(t, before+p+"b", lead)
			wantLead(t, before+p+"b%", lead)
			wantLeast(t, before+p+"b", least)
			wantLeast(t, "%"+before+p+"b", least)
		}
	}
}

func TestLeadAndLeastOfLongPatterns(t *testing.T) {
	for _, n := range []int{1, 255, 256, 257, 1 << 16, 1<<20 + 1} {
		s := strings.Repeat("a", n)
		wantLead(t, s, s)
		wantLead(t, s+"%"+s, s)
		wantLead(t, s+"_", s)
		wantLead(t, "%"+s, "")
		wantLeast(t, s, n)
		wantLeast(t, s+"%"+s, 2*n)
		wantLeast(t, s+"_", n+1)
		wantLeast(t, strings.Repeat("%", n), 0)
		wantLeast(t, strings.Repeat("_", n), n)
		wantLeast(t, strings.Repeat("_%", n), n)
	}
}

// The least length of a text that a pattern matches is that of the shortest one that it matches, and not less.
func TestLeastIsTrue(t *testing.T) {
	l := texts(5, "ab")
	for _, p := range texts(5, "ab%_") {
		least := 6
		for _, s := range l {
			if isMatch(p, s) {
				least = min(least, len(s))
			}
		}
		wantLeast(t, p, least)
	}
}

func TestLeadIsLongest(t *testing.T) {
	m := maker{rand.New(rand.NewSource(172))}
	e := regexp.MustCompile(`(?s)\A[^%_]*`)
	for range 5000 {
		of := alphabets()[m.Intn(len(alphabets()))]
		p := m.text(20, of) + m.text(2, "%_") + m.text(5, of)
		wantLead(t, p, p[:len([]rune(e.FindString(wide(p))))])
		wantLeast(t, p, len(p)-strings.Count(p, "%"))
	}
}

// Promise 17.3.

func TestMatchedTexts(t *testing.T) {
	matched := 0
	for _, p := range texts(5, "ab%_") {
		for _, s := range texts(6, "ab") {
			if !Match(p, s) {
				continue
			}
			matched++
			if !strings.HasPrefix(s, Lead(p)) || len(s) < Least(p) {
				t.Errorf("%q matches %q, but Lead is %q and Least is %d", p, s, Lead(p), Least(p))
			}
		}
	}
	if matched < 1000 {
		t.Error(matched)
	}
}

func TestConcatenations(t *testing.T) {
	type pair struct{ p, s string }
	var l []pair
	for _, p := range texts(3, "ab%_") {
		for _, s := range texts(3, "ab%") {
			if Match(p, s) {
				l = append(l, pair{p, s})
			}
		}
	}
	if len(l) < 500 {
		t.Error(len(l))
	}
	for _, a := range l {
		for _, b := range l {
			wantMatch(t, a.p+b.p, a.s+b.s, true)
		}
	}
}

func TestLongConcatenations(t *testing.T) {
	m := maker{rand.New(rand.NewSource(173))}
	for range 300 {
		of := alphabets()[m.Intn(len(alphabets()))]
		p, s := "", ""
		for range 20 {
			q := m.text(20, of+"%_")
			p, s = p+q, s+m.matched(q, 10, of)
			wantMatch(t, p, s, true)
			if !strings.HasPrefix(s, Lead(p)) || len(s) < Least(p) {
				t.Errorf("%q matches %q, but Lead is %q and Least is %d", p, s, Lead(p), Least(p))
			}
		}
	}
}

// The rules that hold everywhere.

func TestNewMemory(t *testing.T) {
	for _, p := range []string{"a", "ab%", "%ab", "ab", "_", "", strings.Repeat("n", 100) + "_", strings.Repeat("n", 1000)} {
		p = strings.Clone(p)
		s := Lead(p)
		if s != "" && len(p) > 1 && unsafe.StringData(s) == unsafe.StringData(p) {
			t.Errorf("Lead(%q) shares its memory", p)
		}
	}
}

// Each call answers by its arguments alone, whatever was called before it.
func TestNothingKept(t *testing.T) {
	l := []string{"", "%", "a", "ab", "%a_", "_%b", "aab", "%%", "ba%"}
	for _, p := range l {
		for _, s := range l {
			want := Match(p, s)
			for _, q := range l {
				Match(s, q)
				wantLead(t, q, Lead(q))
				wantLeast(t, q, Least(q))
				wantMatch(t, p, s, want)
			}
		}
	}
}
