package word

import (
	"math"
	"strings"
	"testing"

	"broadsheet/api"
)

func sizes() []int { return []int{1, 2, 4, 8} }

func noSizes() []int {
	return []int{math.MinInt, -8, -4, -2, -1, 0, 3, 5, 6, 7, 9, 10, 12, 16, 32, 64, 1 << 32, 1<<32 + 1, math.MaxInt}
}

// numbers has each power of two with its neighbours, and some without a pattern.
func numbers() []uint64 {
	l := []uint64{0, 0x0123456789abcdef, 0xfedcba9876543210, 0x8040201008040201}
	for i := range 64 {
		p := uint64(1) << i
		l = append(l, p-1, p, p+1, -p-1, -p, -p+1)
	}
	return l
}

// limit is 2 to the number of a size's bits, for sizes below 8.
func limit(size int) uint64 { return 1 << (8 * size) }

func most(size int) uint64 {
	if size == 8 {
		return math.MaxUint64
	}
	return limit(size) - 1
}

// Promise 1.1, Put.

func TestPutBytes(t *testing.T) {
	for _, c := range []struct {
		n    uint64
		size int
		want string
	}{
		{258, 2, "\x02\x01"},
		{0, 1, "\x00"},
		{255, 1, "\xff"},
		{0, 2, "\x00\x00"},
		{256, 2, "\x00\x01"},
		{65535, 2, "\xff\xff"},
		{1, 4, "\x01\x00\x00\x00"},
		{0x01020304, 4, "\x04\x03\x02\x01"},
		{1<<32 - 1, 4, "\xff\xff\xff\xff"},
		{0, 8, "\x00\x00\x00\x00\x00\x00\x00\x00"},
		{0x0102030405060708, 8, "\x08\x07\x06\x05\x04\x03\x02\x01"},
		{0x80ff7f0000000001, 8, "\x01\x00\x00\x00\x00\x7f\xff\x80"},
		{1<<64 - 1, 8, "\xff\xff\xff\xff\xff\xff\xff\xff"},
	} {
		if b, e := Put(c.n, c.size); b != c.want || e != api.OK {
			t.Errorf("Put(%d, %d) = %q, %v; want %q", c.n, c.size, b, e, c.want)
		}
	}
}

func TestPutRange(t *testing.T) {
	for _, size := range []int{1, 2, 4} {
		if b, e := Put(limit(size)-1, size); len(b) != size || e != api.OK {
			t.Errorf("Put of the greatest number of size %d = %q, %v", size, b, e)
		}
		for at := 8 * size; at < 64; at++ {
			for _, n := range []uint64{1 << at, 1<<at + 1} {
				if b, e := Put(n, size); b != "" || e != api.ErrRange {
					t.Errorf("Put(%d, %d) = %q, %v; want range", n, size, b, e)
				}
			}
		}
	}
}

func TestPutKind(t *testing.T) {
	for _, size := range noSizes() {
		for _, n := range []uint64{0, 1, 255, 1 << 63, math.MaxUint64} {
			if b, e := Put(n, size); b != "" || e != api.ErrKind {
				t.Errorf("Put(%d, %d) = %q, %v; want kind", n, size, b, e)
			}
		}
	}
}

// Promise 1.1, Take.

func TestTakeNumber(t *testing.T) {
	b := "\x01\x02\x03\x04\x05\x06\x07\x88\x99\xff"
	for _, c := range []struct {
		at, size int
		want     uint64
	}{
		{0, 1, 1}, {7, 1, 0x88}, {9, 1, 0xff},
		{0, 2, 0x0201}, {7, 2, 0x9988}, {8, 2, 0xff99},
		{0, 4, 0x04030201}, {1, 4, 0x05040302}, {6, 4, 0xff998807},
		{0, 8, 0x8807060504030201}, {1, 8, 0x9988070605040302}, {2, 8, 0xff99880706050403},
	} {
		if n, e := Take(b, c.at, c.size); n != c.want || e != api.OK {
			t.Errorf("Take(b, %d, %d) = %#x, %v; want %#x", c.at, c.size, n, e, c.want)
		}
	}
}

func TestTakeShort(t *testing.T) {
	for _, b := range []string{"", "\xff", "abc", "\x01\x02\x03\x04\x05\x06\x07\x08\x09"} {
		for _, size := range sizes() {
			for at := range len(b) + 1 {
				n, e := Take(b, at, size)
				if fits := at+size <= len(b); fits != (e == api.OK) {
					t.Errorf("Take(%q, %d, %d) = %d, %v", b, at, size, n, e)
				} else if !fits && (n != 0 || e != api.ErrShort) {
					t.Errorf("Take(%q, %d, %d) = %d, %v; want short", b, at, size, n, e)
				}
			}
		}
	}
}

func TestTakeRange(t *testing.T) {
	for _, b := range []string{"", "\xff", "abc", "\x01\x02\x03\x04\x05\x06\x07\x08\x09"} {
		for _, size := range sizes() {
			for _, at := range []int{math.MinInt, math.MinInt + 1, -size, -2, -1, len(b) + 1, len(b) + 2, len(b) + size, math.MaxInt - 8, math.MaxInt - 1, math.MaxInt} {
				if n, e := Take(b, at, size); n != 0 || e != api.ErrRange {
					t.Errorf("Take(%q, %d, %d) = %d, %v; want range", b, at, size, n, e)
				}
			}
		}
	}
}

func TestTakeKind(t *testing.T) {
	for _, b := range []string{"", "abc", strings.Repeat("x", 100)} {
		for _, size := range noSizes() {
			for _, at := range []int{math.MinInt, -1, 0, 1, len(b), len(b) + 1, math.MaxInt} {
				if n, e := Take(b, at, size); n != 0 || e != api.ErrKind {
					t.Errorf("Take(%q, %d, %d) = %d, %v; want kind", b, at, size, n, e)
				}
			}
		}
	}
}

// Promise 1.2, Sign.

func TestSign(t *testing.T) {
	for _, c := range []struct {
		n    uint64
		size int
		want int64
	}{
		{0, 1, 0}, {1, 1, 1}, {127, 1, 127}, {128, 1, -128}, {129, 1, -127}, {254, 1, -2}, {255, 1, -1},
		{255, 2, 255}, {0x7fff, 2, 32767}, {0x8000, 2, -32768}, {0xffff, 2, -1},
		{0xffff, 4, 65535}, {1<<31 - 1, 4, math.MaxInt32}, {1 << 31, 4, math.MinInt32}, {1<<32 - 2, 4, -2},
		{1<<32 - 2, 8, 1<<32 - 2}, {1<<63 - 1, 8, math.MaxInt64}, {1 << 63, 8, math.MinInt64}, {1<<64 - 1, 8, -1},
	} {
		if n := Sign(c.n, c.size); n != c.want {
			t.Errorf("Sign(%d, %d) = %d; want %d", c.n, c.size, n, c.want)
		}
	}
}

func TestSignLowestBits(t *testing.T) {
	for _, size := range []int{1, 2, 4} {
		for _, low := range []uint64{0, 1, limit(size)/2 - 1, limit(size) / 2, limit(size) - 1} {
			want := int64(low)
			if low >= limit(size)/2 {
				want -= int64(limit(size))
			}
			for at := 8 * size; at < 64; at++ {
				if n := Sign(low|1<<at, size); n != want {
					t.Errorf("Sign(%#x, %d) = %d; want %d", low|1<<at, size, n, want)
				}
			}
			if n := Sign(low|-limit(size), size); n != want {
				t.Errorf("Sign(%#x, %d) = %d; want %d", low|-limit(size), size, n, want)
			}
		}
	}
}

func TestSignNoSize(t *testing.T) {
	for _, size := range noSizes() {
		for _, n := range numbers() {
			if s := Sign(n, size); s != 0 {
				t.Errorf("Sign(%d, %d) = %d; want 0", n, size, s)
			}
		}
	}
}

// Promise 1.2, Bits.

func TestBits(t *testing.T) {
	for _, c := range []struct {
		n    int64
		size int
		want uint64
	}{
		{0, 1, 0}, {1, 1, 1}, {127, 1, 127}, {-128, 1, 128}, {-127, 1, 129}, {-1, 1, 255},
		{-2, 2, 65534}, {255, 2, 255}, {-129, 2, 0xff7f}, {32767, 2, 32767}, {-32768, 2, 32768},
		{-1, 4, 1<<32 - 1}, {math.MaxInt32, 4, 1<<31 - 1}, {math.MinInt32, 4, 1 << 31},
		{-1, 8, 1<<64 - 1}, {math.MaxInt64, 8, 1<<63 - 1}, {math.MinInt64, 8, 1 << 63},
	} {
		if n, e := Bits(c.n, c.size); n != c.want || e != api.OK {
			t.Errorf("Bits(%d, %d) = %d, %v; want %d", c.n, c.size, n, e, c.want)
		}
	}
}

func TestBitsRange(t *testing.T) {
	for _, size := range []int{1, 2, 4} {
		half := int64(limit(size) / 2)
		for _, n := range []int64{half, half + 1, 2*half - 1, 2 * half, 2*half + 1, -half - 1, -half - 2, -2 * half, -2*half - 1, math.MaxInt64, math.MinInt64, math.MinInt64 + 1} {
			if b, e := Bits(n, size); b != 0 || e != api.ErrRange {
				t.Errorf("Bits(%d, %d) = %d, %v; want range", n, size, b, e)
			}
		}
	}
}

func TestBitsKind(t *testing.T) {
	for _, size := range noSizes() {
		for _, n := range []int64{0, 1, -1, 128, -129, math.MaxInt64, math.MinInt64} {
			if b, e := Bits(n, size); b != 0 || e != api.ErrKind {
				t.Errorf("Bits(%d, %d) = %d, %v; want kind", n, size, b, e)
			}
		}
	}
}

// Promise 1.3.

func TestWide(t *testing.T) {
	for _, c := range []struct {
		n    uint64
		size int
		want uint64
	}{
		{0, 1, 0}, {127, 1, 127}, {128, 1, 1<<64 - 128}, {255, 1, 1<<64 - 1}, {0x1ff, 1, 1<<64 - 1}, {0xff7f, 1, 127},
		{255, 2, 255}, {0x8000, 2, 1<<64 - 32768}, {0x17fff, 2, 32767},
		{1<<31 - 1, 4, 1<<31 - 1}, {1 << 31, 4, 1<<64 - 1<<31}, {1 << 32, 4, 0},
		{1<<63 - 1, 8, 1<<63 - 1}, {1 << 63, 8, 1 << 63}, {1<<64 - 1, 8, 1<<64 - 1},
	} {
		if n := Wide(c.n, c.size); n != c.want {
			t.Errorf("Wide(%d, %d) = %d; want %d", c.n, c.size, n, c.want)
		}
	}
}

func TestWideIsBitsOfSign(t *testing.T) {
	for _, size := range sizes() {
		for _, n := range numbers() {
			want, e := Bits(Sign(n, size), 8)
			if w := Wide(n, size); w != want || e != api.OK {
				t.Errorf("Wide(%d, %d) = %d; want %d, %v", n, size, w, want, e)
			}
		}
	}
}

func TestWideNoSize(t *testing.T) {
	for _, size := range noSizes() {
		for _, n := range numbers() {
			if w := Wide(n, size); w != 0 {
				t.Errorf("Wide(%d, %d) = %d; want 0", n, size, w)
			}
		}
	}
}

// Promise 1.4.

func TestTakeInvertsPut(t *testing.T) {
	for _, size := range sizes() {
		for _, number := range numbers() {
			n := number & most(size)
			b, e := Put(n, size)
			if len(b) != size || e != api.OK {
				t.Fatalf("Put(%d, %d) = %q, %v", n, size, b, e)
			}
			for _, before := range []string{"", "\x00", "\xff", "\xff\x00\xff", "abcdefgh"} {
				for _, after := range []string{"", "\x00", "\xff", "\x80zz", "abcdefgh"} {
					if got, e := Take(before+b+after, len(before), size); got != n || e != api.OK {
						t.Fatalf("Take(%q, %d, %d) = %d, %v; want %d", before+b+after, len(before), size, got, e, n)
					}
				}
			}
		}
	}
}

func TestPutInvertsTake(t *testing.T) {
	b := "\x00\xff\x01\x80\x7f\xfe\x00\x00\x10\xff\xff\xff\xff\xff\xff\xff\xff"
	for _, size := range sizes() {
		for at := range len(b) - size + 1 {
			n, e := Take(b, at, size)
			if e != api.OK {
				t.Fatalf("Take(b, %d, %d): %v", at, size, e)
			}
			if got, e := Put(n, size); got != b[at:at+size] || e != api.OK {
				t.Errorf("Put(%d, %d) = %q, %v; want %q", n, size, got, e, b[at:at+size])
			}
		}
	}
}

func TestBitsInvertsSign(t *testing.T) {
	for _, size := range sizes() {
		for _, number := range numbers() {
			n := number & most(size)
			if b, e := Bits(Sign(n, size), size); b != n || e != api.OK {
				t.Errorf("Bits(Sign(%d, %d)) = %d, %v", n, size, b, e)
			}
		}
	}
}

func TestSignInvertsBits(t *testing.T) {
	for _, size := range sizes() {
		for _, number := range numbers() {
			n := Sign(number, size)
			b, e := Bits(n, size)
			if e != api.OK || b > most(size) {
				t.Fatalf("Bits(%d, %d) = %d, %v", n, size, b, e)
			}
			if s := Sign(b, size); s != n {
				t.Errorf("Sign(Bits(%d, %d)) = %d", n, size, s)
			}
		}
	}
}
