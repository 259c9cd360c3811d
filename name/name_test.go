package name

import (
	"math/rand"
	"regexp"
	"slices"
	"strconv"
	"strings"
	"testing"

	"broadsheet/api"
)

const (
	letters = "abcdefghijklmnopqrstuvwxyzABCDEFGHIJKLMNOPQRSTUVWXYZ"
	inside  = letters + "0123456789_"
)

func words() []string {
	return []string{"AND", "OR", "NOT", "BETWEEN", "LIKE", "TRUE", "FALSE"}
}

// foreign are pieces that stand in no name.
func foreign() []string {
	l := []string{"\u00e9", "\u00df", "\u0430", "\uff21", "\u0661", "\u2009", "\xc3", "\xff\xfe"}
	for n := range 256 {
		if b := string([]byte{byte(n)}); !strings.Contains(inside, b) {
			l = append(l, b)
		}
	}
	return l
}

// texts are some without a pattern, mostly of bytes that names have, the same each time.
func texts() []string {
	r := rand.New(rand.NewSource(4))
	from := inside + inside + " .-'\x00\xc3\xff"
	var l []string
	for range 3000 {
		b := make([]byte, r.Intn(20))
		for i := range b {
			b[i] = from[r.Intn(len(from))]
		}
		l = append(l, string(b))
	}
	return l
}

func wantName(t *testing.T, s string, want bool) {
	t.Helper()
	if Name(s) != want {
		t.Errorf("Name(%q) = %v", s, !want)
	}
}

func wantLead(t *testing.T, s string, want int) {
	t.Helper()
	if n := Lead(s); n != want {
		t.Errorf("Lead(%q) = %d; want %d", s, n, want)
	}
}

// Promise 4.1, Word.

func TestWord(t *testing.T) {
	for _, s := range words() {
		if !Word(s) {
			t.Errorf("Word(%q) = false", s)
		}
	}
}

func TestNoWord(t *testing.T) {
	l := []string{"", " ", "A", "_", "XOR", "NULL", "IN", "IS", "a", "ANDOR", "AND OR", "TRUEFALSE", "ÄND"}
	for _, s := range words() {
		l = append(l, strings.ToLower(s), s[:1]+strings.ToLower(s[1:]), strings.ToLower(s[:1])+s[1:])
		l = append(l, s[1:], s[:len(s)-1], s+s[len(s)-1:], s+"S", "X"+s, s+"_", s+"1", " "+s, s+" ", s+"\x00", "\x00"+s, s+"\n")
	}
	for _, s := range l {
		if Word(s) {
			t.Errorf("Word(%q) = true", s)
		}
	}
}

// Promise 4.1, Name.

func TestNameOfEachLength(t *testing.T) {
	for n := range 40 {
		wantName(t, strings.Repeat("a", n), n >= 1 && n <= 16)
		wantName(t, strings.Repeat("Z9_", n)[:n], n >= 1 && n <= 16)
	}
	wantName(t, strings.Repeat("a", 1<<16), false)
	wantName(t, strings.Repeat("a", 1<<16+1), false)
	if api.MaxName != 16 {
		t.Errorf("MaxName = %d", api.MaxName)
	}
}

func TestNameOfEachByte(t *testing.T) {
	for n := range 256 {
		b := string([]byte{byte(n)})
		wantName(t, b, strings.Contains(letters, b))
		wantName(t, b+"a", strings.Contains(letters, b))
		for _, before := range []string{"a", "Z", "a_", "b0", "aaaaaaaaaaaaaaa"} {
			wantName(t, before+b, strings.Contains(inside, b))
		}
		wantName(t, "a"+b+"a", strings.Contains(inside, b))
	}
}

func TestNoName(t *testing.T) {
	for _, s := range foreign() {
		wantName(t, s, false)
		wantName(t, s+"abc", false)
		wantName(t, "abc"+s, false)
		wantName(t, "ab"+s+"c", false)
		wantName(t, "aaaaaaaaaaaaaa"+s, false)
	}
	for _, s := range []string{"", "_", "0", "1a", "9_", "_a", "__", "a-b", "a.b", "a b", "-a", "a ", " a", "a[0]"} {
		wantName(t, s, false)
	}
}

func TestWordsAreNoNames(t *testing.T) {
	for _, s := range words() {
		wantName(t, s, false)
		for _, other := range []string{strings.ToLower(s), s + "S", s + "_", s + "0", "X" + s, s[:1] + strings.ToLower(s[1:]), s[:1]} {
			wantName(t, other, true)
		}
	}
	wantName(t, "ANDOR", true)
	wantName(t, "BETWEEN_NOT_LIKE", true)
	wantName(t, "BETWEEN_NOT_FALSE", false) // too long
}

func TestNameHasItsForm(t *testing.T) {
	form := regexp.MustCompile(`\A[a-zA-Z][a-zA-Z0-9_]{0,15}\z`)
	for _, s := range texts() {
		wantName(t, s, form.MatchString(s) && !slices.Contains(words(), s))
	}
}

// Promise 4.2.

func TestLead(t *testing.T) {
	for s, want := range map[string]int{
		"": 0, "a": 1, "a1-b": 2, "a_1.b": 3, "a b": 1, "_a": 0, "__": 0, "1": 0, "1a": 0, "9_": 0,
		"-a": 0, " a": 0, "a ": 1, "a\x00b": 1, "\x00": 0, "a[0].b": 1, "Z9_": 3, "a__": 3, "a1_2b": 5,
		"LIKE": 4, "LIKE x": 4, "AND": 3, "AND(": 3, "OR": 2, "NOT": 3, "BETWEEN": 7, "TRUE": 4, "FALSE": 5, "ANDS": 4,
		"caf\u00e9": 3, "\u00e9a": 0, "a\xffb": 1,
	} {
		wantLead(t, s, want)
	}
}

func TestLeadOfEachByte(t *testing.T) {
	for n := range 256 {
		b := string([]byte{byte(n)})
		first, later := 0, 1
		if strings.Contains(letters, b) {
			first = 2
		}
		if strings.Contains(inside, b) {
			later = 3
		}
		wantLead(t, b+"a", first)
		wantLead(t, "a"+b+"1", later)
	}
}

func TestLeadOfEachLength(t *testing.T) {
	for _, n := range []int{1, 2, 15, 16, 17, 20, 255, 256, 257, 1 << 16, 1<<16 + 1, 1 << 20} {
		s := strings.Repeat("x_0Y", n)[:n]
		wantLead(t, s, n)
		for _, after := range []string{" ", ".x", "\x00", "\xff", "\u00e9", "-1"} {
			wantLead(t, s+after, n)
		}
	}
}

func TestLeadStopsAtForeign(t *testing.T) {
	for _, s := range foreign() {
		wantLead(t, s, 0)
		wantLead(t, s+"a", 0)
		wantLead(t, "a"+s+"a", 1)
		wantLead(t, "ab_0"+s, 4)
	}
}

func TestLeadIsLongest(t *testing.T) {
	form := regexp.MustCompile(`\A[a-zA-Z][a-zA-Z0-9_]*`)
	for _, s := range texts() {
		wantLead(t, s, len(form.FindString(s)))
	}
}

// Promise 4.3, Find.

func TestFind(t *testing.T) {
	l := []string{"x", "y", "", "x", "Y", "y", "long text", "\x00", "", "\xff", "x\x00"}
	for s, want := range map[string]int{
		"x": 0, "y": 1, "": 2, "Y": 4, "long text": 6, "\x00": 7, "\xff": 9, "x\x00": 10,
		"X": -1, "z": -1, "xy": -1, "long": -1, "long text ": -1, " ": -1, "\xfe": -1, "\ufffd": -1,
	} {
		if n := Find(l, s); n != want {
			t.Errorf("Find(%q, %q) = %d; want %d", l, s, n, want)
		}
	}
}

func TestFindInNothing(t *testing.T) {
	for _, l := range [][]string{nil, {}, []string{"a"}[:0]} {
		for _, s := range []string{"", "a"} {
			if n := Find(l, s); n != -1 {
				t.Errorf("Find(%q, %q) = %d", l, s, n)
			}
		}
	}
}

func TestFindStaysInList(t *testing.T) {
	l := []string{"a", "b", "c"}
	for n := range 4 {
		for i, s := range l {
			want := -1
			if i < n {
				want = i
			}
			if got := Find(l[:n], s); got != want {
				t.Errorf("Find(%q, %q) = %d; want %d", l[:n], s, got, want)
			}
		}
	}
}

// Promise 4.3, Twice.

func TestTwice(t *testing.T) {
	for _, c := range []struct {
		l    []string
		want int
	}{
		{nil, -1}, {[]string{}, -1}, {[]string{"a"}, -1}, {[]string{""}, -1},
		{[]string{"a", "b"}, -1}, {[]string{"a", "A"}, -1}, {[]string{"a", "a "}, -1}, {[]string{"a", "a\x00"}, -1},
		{[]string{"", "a"}, -1}, {[]string{"\xff", "\xfe"}, -1}, {[]string{"a", "b", "ab", "ba"}, -1},
		{[]string{"a", "a"}, 1}, {[]string{"", ""}, 1}, {[]string{"\xff", "\xff"}, 1}, {[]string{"a", "a", "a"}, 1},
		{[]string{"x", "y", "x", "y"}, 2}, {[]string{"x", "y", "y", "x"}, 2}, {[]string{"a", "b", "c", "a"}, 3},
		{[]string{"a", "", "b", ""}, 3}, {[]string{"a", "b", "c", "d", "d"}, 4}, {[]string{"AND", "and", "AND"}, 2},
	} {
		if n := Twice(c.l); n != c.want {
			t.Errorf("Twice(%q) = %d; want %d", c.l, n, c.want)
		}
	}
}

func TestTwiceStaysInList(t *testing.T) {
	l := []string{"a", "b", "a", "b"}
	for n, want := range []int{-1, -1, -1, 2, 2} {
		if got := Twice(l[:n]); got != want {
			t.Errorf("Twice(%q) = %d; want %d", l[:n], got, want)
		}
	}
}

func TestTwiceInLongLists(t *testing.T) {
	const most = 1 << 16
	l := make([]string, most)
	for i := range l {
		l[i] = strconv.Itoa(i)
	}
	if n := Twice(l); n != -1 {
		t.Errorf("Twice of %d others = %d", most, n)
	}
	for _, at := range []int{0, 1, most / 2, most - 1} {
		if n := Twice(append(slices.Clone(l), l[at])); n != most {
			t.Errorf("Twice with %q at the end = %d; want %d", l[at], n, most)
		}
	}
}

func TestTwiceIsFirstFoundEarlier(t *testing.T) {
	r := rand.New(rand.NewSource(5))
	for range 2000 {
		l := make([]string, r.Intn(9))
		for i := range l {
			l[i] = string("abcdefghij"[r.Intn(10)])
		}
		want := -1
		for i := len(l) - 1; i >= 0; i-- {
			if Find(l, l[i]) < i {
				want = i
			}
		}
		if n := Twice(l); n != want {
			t.Errorf("Twice(%q) = %d; want %d", l, n, want)
		}
	}
}

func TestListsStayAsTheyWere(t *testing.T) {
	whole := []string{"a", "b", "a", "behind"}
	l, before := whole[:3], slices.Clone(whole)
	for range 2 {
		if Find(l, "b") != 1 || Find(l, "behind") != -1 || Twice(l) != 2 {
			t.Errorf("Find and Twice in %q", l)
		}
		if !slices.Equal(whole, before) {
			t.Errorf("%q is now %q", before, whole)
		}
	}
}

// Promise 4.4.

func TestLeadOfName(t *testing.T) {
	l := append(texts(), "a", "Z9_", strings.Repeat("a", 16), "and", "ANDS", "a_1", "BETWEEN_NOT_LIKE")
	names := 0
	for _, s := range l {
		if Name(s) {
			names++
			wantLead(t, s, len(s))
			for _, after := range []string{" ", ".b", "-", "\u00e9"} {
				wantLead(t, s+after, len(s))
			}
		}
	}
	if names < 500 {
		t.Errorf("only %d names", names)
	}
}
