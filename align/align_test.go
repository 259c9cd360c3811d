package align

import (
	"math"
	"strings"
	"testing"

	"broadsheet/api"
	"broadsheet/word"
)

func sizes() []int { return []int{1, 2, 4, 8} }

func noSizes() []int {
	return []int{math.MinInt, -8, -4, -2, -1, 0, 3, 5, 6, 7, 9, 10, 12, 16, 32, 64, 1 << 32, 1<<32 + 1, math.MaxInt}
}

func most(size int) uint64 { return math.MaxUint64 >> (64 - 8*size) }

func zeros(n int) string { return strings.Repeat("\x00", n) }

// Promise 2.1.

func TestGap(t *testing.T) {
	for _, c := range []struct{ at, size, want int }{
		{0, 1, 0}, {1, 1, 0}, {7, 1, 0},
		{0, 2, 0}, {1, 2, 1}, {2, 2, 0}, {3, 2, 1},
		{0, 4, 0}, {1, 4, 3}, {2, 4, 2}, {3, 4, 1}, {4, 4, 0}, {5, 4, 3}, {8, 4, 0},
		{0, 8, 0}, {1, 8, 7}, {2, 8, 6}, {3, 8, 5}, {4, 8, 4}, {5, 8, 3}, {6, 8, 2}, {7, 8, 1}, {8, 8, 0}, {9, 8, 7}, {16, 8, 0}, {4097, 8, 7},
	} {
		if n := Gap(c.at, c.size); n != c.want {
			t.Errorf("Gap(%d, %d) = %d; want %d", c.at, c.size, n, c.want)
		}
	}
}

func TestGapIsLeast(t *testing.T) {
	for _, size := range sizes() {
		for _, from := range []int{0, 1<<31 - 100, 1<<32 - 100, math.MaxInt - 200} {
			for at := from; at < from+100; at++ {
				want := 0
				for (at+want)%size != 0 {
					want++
				}
				if n := Gap(at, size); n != want {
					t.Errorf("Gap(%d, %d) = %d; want %d", at, size, n, want)
				}
			}
		}
	}
}

func TestGapAtGreatestPlace(t *testing.T) {
	for _, size := range sizes() {
		for back := range 8 {
			want := (back + 1) % size
			if n := Gap(math.MaxInt-back, size); n != want {
				t.Errorf("Gap(MaxInt-%d, %d) = %d; want %d", back, size, n, want)
			}
		}
	}
}

func TestGapBelowZero(t *testing.T) {
	for _, size := range sizes() {
		for _, at := range []int{-1, -2, -3, -4, -5, -7, -8, -9, -1 << 32, math.MinInt + 1, math.MinInt} {
			if n := Gap(at, size); n != 0 {
				t.Errorf("Gap(%d, %d) = %d; want 0", at, size, n)
			}
		}
	}
}

func TestGapNoSize(t *testing.T) {
	for _, size := range noSizes() {
		for _, at := range []int{math.MinInt, -5, -1, 0, 1, 2, 5, 7, 8, 1 << 31, math.MaxInt} {
			if n := Gap(at, size); n != 0 {
				t.Errorf("Gap(%d, %d) = %d; want 0", at, size, n)
			}
		}
	}
}

// Promise 2.2.

func wantBuf(t *testing.T, b *Buf, want string) {
	t.Helper()
	if b.Bytes() != want || b.Len() != len(want) {
		t.Errorf("buffer: %q, %d; want %q, %d", b.Bytes(), b.Len(), want, len(want))
	}
}

func wantPut(t *testing.T, b *Buf, n uint64, size int, want api.Errno) {
	t.Helper()
	if e := b.Put(n, size); e != want {
		t.Errorf("Put(%d, %d) = %v; want %v", n, size, e, want)
	}
}

func TestNewIsEmpty(t *testing.T) {
	b := New()
	if b == nil {
		t.Fatal("New() = nil")
	}
	wantBuf(t, b, "")
	other := New()
	b.Text("x")
	wantBuf(t, other, "")
}

func TestPutSkipsGap(t *testing.T) {
	b := New()
	wantPut(t, b, 1, 1, api.OK)
	wantBuf(t, b, "\x01")
	wantPut(t, b, 2, 4, api.OK)
	wantBuf(t, b, "\x01\x00\x00\x00\x02\x00\x00\x00")
	wantPut(t, b, 0x0304, 2, api.OK)
	wantPut(t, b, 0x0506, 2, api.OK)
	wantPut(t, b, 0x0807060504030201, 8, api.OK)
	wantPut(t, b, 255, 1, api.OK)
	wantPut(t, b, 0xfffe, 2, api.OK)
	wantBuf(t, b, "\x01\x00\x00\x00\x02\x00\x00\x00\x04\x03\x06\x05\x00\x00\x00\x00\x01\x02\x03\x04\x05\x06\x07\x08\xff\x00\xfe\xff")
}

func TestPutAtEachPlace(t *testing.T) {
	for _, size := range sizes() {
		for at := range 40 {
			s := strings.Repeat("\xff", at)
			b := New()
			b.Text(s)
			wantPut(t, b, most(size), size, api.OK)
			wantBuf(t, b, s+zeros(Gap(at, size))+strings.Repeat("\xff", size))
		}
	}
}

func TestBufText(t *testing.T) {
	b := New()
	b.Text("")
	wantBuf(t, b, "")
	b.Text("a\x00")
	b.Text("")
	b.Text("\xff\x00\xc3")
	wantBuf(t, b, "a\x00\xff\x00\xc3")
	b.Text(strings.Repeat("long", 1000))
	wantBuf(t, b, "a\x00\xff\x00\xc3"+strings.Repeat("long", 1000))
}

func TestPutErrorAppendsNothing(t *testing.T) {
	for at := range 9 {
		s := strings.Repeat("s", at)
		b := New()
		b.Text(s)
		for _, size := range []int{1, 2, 4} {
			wantPut(t, b, most(size)+1, size, api.ErrRange)
			wantPut(t, b, math.MaxUint64, size, api.ErrRange)
		}
		for _, size := range noSizes() {
			wantPut(t, b, 0, size, api.ErrKind)
			wantPut(t, b, math.MaxUint64, size, api.ErrKind)
		}
		wantBuf(t, b, s)
		wantPut(t, b, 7, 8, api.OK)
		wantBuf(t, b, s+zeros(Gap(at, 8))+"\x07"+zeros(7))
	}
}

func TestPutErrorIsWords(t *testing.T) {
	for _, size := range append(noSizes(), sizes()...) {
		for _, n := range []uint64{0, 1, 255, 256, 65535, 65536, 1<<32 - 1, 1 << 32, math.MaxUint64} {
			_, want := word.Put(n, size)
			wantPut(t, New(), n, size, want)
		}
	}
}

func TestBytesAreOfTheirTime(t *testing.T) {
	b := New()
	b.Text("ab")
	first := b.Bytes()
	b.Text("cd")
	if first != "ab" || b.Bytes() != "abcd" || b.Bytes() != "abcd" {
		t.Errorf("%q, %q", first, b.Bytes())
	}
}

func TestZeroBuf(t *testing.T) {
	var b Buf
	wantBuf(t, &b, "")
	wantPut(t, &b, 256, 1, api.ErrRange)
	wantPut(t, &b, 1, 1, api.OK)
	wantPut(t, &b, 2, 4, api.OK)
	b.Text("x")
	wantBuf(t, &b, "\x01\x00\x00\x00\x02\x00\x00\x00x")
}

func TestNilBuf(t *testing.T) {
	var b *Buf
	wantPut(t, b, 1, 1, api.ErrState)
	wantPut(t, b, 256, 1, api.ErrState)
	wantPut(t, b, 1, 3, api.ErrState)
	b.Text("x")
	b.Text("")
	wantBuf(t, b, "")
}

// Promise 2.3.

func wantCur(t *testing.T, c *Cur, at int, e, done api.Errno) {
	t.Helper()
	if c.At() != at || c.Err() != e || c.Done() != done {
		t.Errorf("cursor: At %d, Err %v, Done %v; want %d, %v, %v", c.At(), c.Err(), c.Done(), at, e, done)
	}
}

func wantTake(t *testing.T, c *Cur, size int, want uint64) {
	t.Helper()
	if n := c.Take(size); n != want {
		t.Errorf("Take(%d) = %d; want %d", size, n, want)
	}
}

func wantText(t *testing.T, c *Cur, n int, want string) {
	t.Helper()
	if s := c.Text(n); s != want {
		t.Errorf("Text(%d) = %q; want %q", n, s, want)
	}
}

func TestReadBeginsAtFront(t *testing.T) {
	wantCur(t, Read(""), 0, api.OK, api.OK)
	wantCur(t, Read("abc"), 0, api.OK, api.ErrForm)
}

func TestTakeSkipsGap(t *testing.T) {
	c := Read("\x01\x00\x00\x00\x02\x00\x00\x00\x04\x03\x06\x05\x00\x00\x00\x00\x01\x02\x03\x04\x05\x06\x07\x88\xff")
	wantTake(t, c, 1, 1)
	wantCur(t, c, 1, api.OK, api.ErrForm)
	wantTake(t, c, 4, 2)
	wantCur(t, c, 8, api.OK, api.ErrForm)
	wantTake(t, c, 2, 0x0304)
	wantTake(t, c, 2, 0x0506)
	wantCur(t, c, 12, api.OK, api.ErrForm)
	wantTake(t, c, 8, 0x8807060504030201)
	wantCur(t, c, 24, api.OK, api.ErrForm)
	wantTake(t, c, 1, 255)
	wantCur(t, c, 25, api.OK, api.OK)
}

func TestTakeAtEachPlace(t *testing.T) {
	for _, size := range sizes() {
		for at := range 40 {
			s := strings.Repeat("\xff", at)
			c := Read(s + zeros(Gap(at, size)) + strings.Repeat("\xff", size))
			wantText(t, c, at, s)
			wantTake(t, c, size, most(size))
			wantCur(t, c, at+Gap(at, size)+size, api.OK, api.OK)
		}
	}
}

// after is a cursor behind n bytes of a text.
func after(t *testing.T, b string, n int) *Cur {
	t.Helper()
	c := Read(b)
	wantText(t, c, n, b[:n])
	return c
}

// wantFailed asks for an error that stays, with a place that stays.
func wantFailed(t *testing.T, c *Cur, at int, e api.Errno) {
	t.Helper()
	wantCur(t, c, at, e, e)
	for _, size := range append(noSizes(), sizes()...) {
		wantTake(t, c, size, 0)
	}
	for _, n := range []int{math.MinInt, -1, 0, 1, 2, math.MaxInt} {
		wantText(t, c, n, "")
	}
	wantCur(t, c, at, e, e)
}

func TestTakeShort(t *testing.T) {
	for _, size := range sizes() {
		for at := range 17 {
			whole := Gap(at, size) + size
			for n := range whole {
				// What is there of the gap is 0, what is there of the number is not.
				b := strings.Repeat("\xff", at) + (zeros(Gap(at, size)) + strings.Repeat("\xff", size))[:n]
				c := after(t, b, at)
				wantTake(t, c, size, 0)
				wantFailed(t, c, at, api.ErrShort)
			}
		}
	}
}

func TestTakePad(t *testing.T) {
	for _, size := range sizes() {
		for at := range 17 {
			gap := Gap(at, size)
			for i := range gap {
				for _, pad := range []string{"\x01", "\x80", "\xff"} {
					b := strings.Repeat("\xff", at) + zeros(i) + pad + zeros(gap-i-1) + strings.Repeat("\x05", size)
					c := after(t, b, at)
					wantTake(t, c, size, 0)
					wantFailed(t, c, at, api.ErrPad)
				}
			}
		}
	}
}

func TestTakePadIsAheadOfShort(t *testing.T) {
	// Byte by byte, a byte of the gap that is there counts before the end behind it.
	for at := 1; at < 8; at++ {
		for i := range Gap(at, 8) {
			c := after(t, strings.Repeat("\x00", at+i)+"\x01", at)
			wantTake(t, c, 8, 0)
			wantFailed(t, c, at, api.ErrPad)
		}
	}
}

func TestTakeKind(t *testing.T) {
	for _, size := range noSizes() {
		for _, b := range []string{"", "\x00", "\x01\x01", "\x01\x00\x00\x00\x00\x00\x00\x00\x00\x00\x00\x00\x00\x00\x00\x00", strings.Repeat("\xff", 100)} {
			for at := range min(len(b), 3) + 1 {
				c := after(t, b, at)
				wantTake(t, c, size, 0)
				wantFailed(t, c, at, api.ErrKind)
			}
		}
	}
}

func TestCurText(t *testing.T) {
	c := Read("a\x00\xff\xc3bcd")
	wantText(t, c, 0, "")
	wantCur(t, c, 0, api.OK, api.ErrForm)
	wantText(t, c, 1, "a")
	wantText(t, c, 3, "\x00\xff\xc3")
	wantText(t, c, 0, "")
	wantCur(t, c, 4, api.OK, api.ErrForm)
	wantText(t, c, 3, "bcd")
	wantCur(t, c, 7, api.OK, api.OK)
	wantText(t, c, 0, "")
	wantCur(t, c, 7, api.OK, api.OK)
}

func TestCurTextHasNoGap(t *testing.T) {
	c := Read("\x01\x02\x03\x04\x05")
	wantTake(t, c, 1, 1)
	wantText(t, c, 4, "\x02\x03\x04\x05")
	wantCur(t, c, 5, api.OK, api.OK)
}

func TestCurTextShort(t *testing.T) {
	for _, b := range []string{"", "a", "abcdef"} {
		for at := range len(b) + 1 {
			left := len(b) - at
			for _, n := range []int{left + 1, left + 2, left + 8, 1 << 31, math.MaxInt - 1, math.MaxInt} {
				c := after(t, b, at)
				wantText(t, c, n, "")
				wantFailed(t, c, at, api.ErrShort)
			}
		}
	}
}

func TestCurTextRange(t *testing.T) {
	for _, b := range []string{"", "a", "abcdef"} {
		for at := range len(b) + 1 {
			for _, n := range []int{-1, -2, -8, -1 << 31, math.MinInt + 1, math.MinInt} {
				c := after(t, b, at)
				wantText(t, c, n, "")
				wantFailed(t, c, at, api.ErrRange)
			}
		}
	}
}

func TestFirstErrorStays(t *testing.T) {
	c := Read("\x01\x01")
	wantTake(t, c, 1, 1)
	wantTake(t, c, 4, 0) // the gap
	wantTake(t, c, 3, 0) // would be kind
	wantText(t, c, -1, "")
	wantText(t, c, 9, "")
	wantCur(t, c, 1, api.ErrPad, api.ErrPad)
}

func TestDoneChangesNothing(t *testing.T) {
	c := Read("ab")
	for i, want := range []uint64{'a', 'b'} {
		wantCur(t, c, i, api.OK, api.ErrForm)
		wantTake(t, c, 1, want)
	}
	wantCur(t, c, 2, api.OK, api.OK)
	wantTake(t, c, 1, 0)
	wantCur(t, c, 2, api.ErrShort, api.ErrShort)
}

func TestZeroCur(t *testing.T) {
	var c, d, f Cur
	wantCur(t, &c, 0, api.OK, api.OK)
	wantText(t, &c, 0, "")
	wantTake(t, &c, 1, 0)
	wantFailed(t, &c, 0, api.ErrShort)
	wantTake(t, &d, 0, 0)
	wantFailed(t, &d, 0, api.ErrKind)
	wantText(t, &f, 1, "")
	wantFailed(t, &f, 0, api.ErrShort)
}

func TestNilCur(t *testing.T) {
	var c *Cur
	for _, n := range []int{math.MinInt, -1, 0, 1, 2, 3, 4, 8, math.MaxInt} {
		wantTake(t, c, n, 0)
		wantText(t, c, n, "")
	}
	wantCur(t, c, 0, api.OK, api.OK)
}

func TestCursorsAreApart(t *testing.T) {
	b := "abcd"
	c, d := Read(b), Read(b)
	wantTake(t, c, 1, 'a')
	wantTake(t, c, 0, 0)
	wantCur(t, c, 1, api.ErrKind, api.ErrKind)
	wantText(t, d, 4, "abcd")
	wantCur(t, d, 4, api.OK, api.OK)
}

// Promise 2.4.

// part is a number of a size, or a text where the size is 0.
type part struct {
	n    uint64
	size int
	text string
}

// parts is a list without a pattern, the same for each seed.
func parts(seed uint64) []part {
	var l []part
	next := func(n uint64) uint64 {
		seed = seed*6364136223846793005 + 1442695040888963407
		return seed >> 33 % n
	}
	for range next(40) {
		size := sizes()[next(4)]
		switch next(4) {
		case 0:
			l = append(l, part{text: strings.Repeat("\xff", int(next(12)))})
		case 1:
			l = append(l, part{n: most(size), size: size})
		default:
			l = append(l, part{n: seed & most(size), size: size})
		}
	}
	return l
}

func written(t *testing.T, l []part) string {
	t.Helper()
	b := New()
	for _, p := range l {
		if p.size == 0 {
			b.Text(p.text)
		} else {
			wantPut(t, b, p.n, p.size, api.OK)
		}
	}
	if b.Len() != len(b.Bytes()) {
		t.Errorf("Len() = %d of %d", b.Len(), len(b.Bytes()))
	}
	return b.Bytes()
}

func readBack(c *Cur, p part) bool {
	if p.size == 0 {
		return c.Text(len(p.text)) == p.text
	}
	return c.Take(p.size) == p.n
}

func TestReadingInvertsWriting(t *testing.T) {
	for seed := range uint64(300) {
		l := parts(seed)
		c := Read(written(t, l))
		for i, p := range l {
			if !readBack(c, p) || c.Err() != api.OK {
				t.Fatalf("seed %d: part %d, %v, isn't read back: %v", seed, i, p, c.Err())
			}
		}
		if e := c.Done(); e != api.OK {
			t.Errorf("seed %d: Done() = %v", seed, e)
		}
	}
}

func TestLessOrMoreThanWritten(t *testing.T) {
	for seed := range uint64(100) {
		l := append(parts(seed), part{n: 5, size: 2})
		b := written(t, l)
		short, long := Read(b[:len(b)-1]), Read(b+"\x00")
		for _, p := range l {
			readBack(short, p)
			readBack(long, p)
		}
		if short.Done() != api.ErrShort || long.Err() != api.OK || long.Done() != api.ErrForm {
			t.Errorf("seed %d: %v, %v, %v", seed, short.Done(), long.Err(), long.Done())
		}
	}
}
