package crc

import (
	"hash/crc32"
	"math/rand"
	"strings"
	"testing"
)

// samples are texts of every length up to 80, with every byte, and some of another kind.
func samples() []string {
	r := rand.New(rand.NewSource(3))
	out := []string{
		"", "\x00", "\x01", "\x80", "\xff", "a", "abc", "123456789",
		"é and \xff\xfe, no valid text", "a\x00", "\x00a", strings.Repeat("\x00", 64), strings.Repeat("\xff", 64),
	}
	for n := range 81 {
		b := make([]byte, n)
		r.Read(b)
		out = append(out, string(b))
	}
	for n := range 256 {
		out = append(out, string([]byte{byte(n)}))
	}
	return out
}

// Promise 3.1.

func TestSum(t *testing.T) {
	for b, want := range map[string]uint32{
		"":                              0,
		"\x00":                          0xd202ef8d,
		"\x00\x00":                      0x41d912ff,
		"\x00\x00\x00\x00":              0x2144df1c,
		"\xff":                          0xff000000,
		"\xff\xff\xff\xff":              0xffffffff,
		"a":                             0xe8b7be43,
		"abc":                           0x352441c2,
		"123456789":                     3421780262,
		"message digest":                0x20159d7f,
		"abcdefghijklmnopqrstuvwxyz":    0x4c2750bd,
		strings.Repeat("1234567890", 8): 0x7ca94a72,
		strings.Repeat("\x00", 32):      0x190a55ad,
		strings.Repeat("\xff", 32):      0xff6cab0b,
		"The quick brown fox jumps over the lazy dog": 0x414fa339,
	} {
		if n := Sum(b); n != want {
			t.Errorf("Sum(%q) = %#x; want %#x", b, n, want)
		}
	}
}

func TestSumIsThatOfArchives(t *testing.T) {
	for _, b := range samples() {
		if n, want := Sum(b), crc32.ChecksumIEEE([]byte(b)); n != want {
			t.Errorf("Sum(%q) = %#x; want %#x", b, n, want)
		}
	}
}

func TestSumOfLongTexts(t *testing.T) {
	for _, n := range []int{255, 256, 257, 4095, 4096, 1<<16 - 1, 1 << 16, 1<<20 + 3} {
		b := strings.Repeat("0123456789", n/10+1)[:n]
		if n, want := Sum(b), crc32.ChecksumIEEE([]byte(b)); n != want {
			t.Errorf("Sum of %d bytes = %#x; want %#x", len(b), n, want)
		}
	}
}

func TestMoreOfAnyNumber(t *testing.T) {
	for _, sum := range []uint32{0, 1, 1 << 31, 1<<32 - 1, 3988292384, 3421780262, 0x12345678} {
		if n := More(sum, ""); n != sum {
			t.Errorf("More(%#x, \"\") = %#x", sum, n)
		}
		for _, b := range samples() {
			want := crc32.Update(sum, crc32.IEEETable, []byte(b))
			if n := More(sum, b); n != want {
				t.Errorf("More(%#x, %q) = %#x; want %#x", sum, b, n, want)
			}
		}
	}
}

func TestAnswersHangOnArgumentsAlone(t *testing.T) {
	for _, b := range samples() {
		first, more := Sum(b), More(7, b)
		Sum("another one")
		if Sum(b) != first || More(7, b) != more {
			t.Errorf("%q has another sum at the second time", b)
		}
	}
}

// Promise 3.2.

func TestMoreGoesOn(t *testing.T) {
	for _, b := range samples() {
		whole := Sum(b)
		for at := range len(b) + 1 {
			if n := More(Sum(b[:at]), b[at:]); n != whole {
				t.Errorf("%q cut at %d has %#x; want %#x", b, at, n, whole)
			}
		}
	}
}

func TestMoreByteByByte(t *testing.T) {
	for _, b := range samples() {
		sum := Sum("")
		for i := range len(b) {
			sum = More(sum, b[i:i+1])
		}
		if sum != Sum(b) {
			t.Errorf("%q byte by byte has %#x; want %#x", b, sum, Sum(b))
		}
	}
}

// change combines the four bytes at a place with those of a number.
func change(b string, at int, by uint32) string {
	out := []byte(b)
	for i := range 4 {
		out[at+i] ^= byte(by >> (8 * i))
	}
	return string(out)
}

func changes() []uint32 {
	out := []uint32{1<<32 - 1, 3988292384, 0x04c11db7, 0xdb710641, 0x80000001}
	for i := range 32 {
		for j := range i + 1 {
			out = append(out, 1<<i|1<<j)
		}
	}
	r := rand.New(rand.NewSource(4))
	for range 1000 {
		out = append(out, r.Uint32()|1)
	}
	return out
}

func TestFourAdjacentBytes(t *testing.T) {
	for _, b := range []string{"abcd", "\x00\x00\x00\x00", "\xff\xff\xff\xff", "123456789", strings.Repeat("word", 6)} {
		for at := range len(b) - 3 {
			for _, by := range changes() {
				if other := change(b, at, by); Sum(other) == Sum(b) {
					t.Errorf("%q and %q have the same sum", b, other)
				}
			}
		}
	}
}

func TestShorterDifferences(t *testing.T) {
	seen := map[uint32]string{}
	for n := range 1 << 16 {
		b := string([]byte{byte(n), byte(n >> 8)})
		if other, ok := seen[Sum(b)]; ok {
			t.Errorf("%q and %q have the same sum", b, other)
		}
		seen[Sum(b)] = b
	}
}
