package sums

import (
	"hash/crc32"
	"math"
	"math/rand"
	"strings"
	"testing"
)

// process puts one byte into the register, bit by bit, as the chapter tells it.
func process(reg uint32, c byte) uint32 {
	reg ^= uint32(c)
	for range 8 {
		out := reg & 1
		reg >>= 1
		if out == 1 {
			reg ^= 0xEDB88320
		}
	}
	return reg
}

// plain is the checksum as the chapter's terms tell it.
func plain(s string) uint32 {
	reg := uint32(math.MaxUint32)
	for _, c := range []byte(s) {
		reg = process(reg, c)
	}
	return reg ^ math.MaxUint32
}

// someText is a text of n bytes of all kinds, the same for the same seed.
func someText(seed int64, n int) string {
	b := make([]byte, n)
	rand.New(rand.NewSource(seed)).Read(b)
	return string(b)
}

// texts are texts of many lengths and kinds.
func texts() []string {
	l := []string{"", "\x00", "\xff", "a", "123456789", "äöü\n", "\xc3", "\xff\xfe\x80", strings.Repeat("\x00", 40), strings.Repeat("\xff", 40)}
	for n := range 140 {
		l = append(l, someText(int64(n), n))
	}
	return append(l, someText(1000, 1023), someText(1001, 4096))
}

// edgeSums are numbers around the edges of what 32 bits hold, and each single bit.
func edgeSums() []uint32 {
	l := []uint32{0, 1, 2, 0x7fffffff, 0x80000000, 0x80000001, 0xfffffffe, 0xffffffff, 0xEDB88320, 0x01020304, 0xf1e2d3c4}
	for bit := range 32 {
		l = append(l, 1<<bit)
	}
	return l
}

// fourBytes is the only text of four bytes that has that checksum: processing is undone step by step.
func fourBytes(sum uint32) string {
	reg := ^sum
	for range 32 {
		if reg&0x80000000 != 0 {
			reg = (reg^0xEDB88320)<<1 | 1
		} else {
			reg <<= 1
		}
	}
	reg ^= math.MaxUint32
	return string([]byte{byte(reg), byte(reg >> 8), byte(reg >> 16), byte(reg >> 24)})
}

// P2.1: the chapter's examples.
func TestSumExamples(t *testing.T) {
	for s, want := range map[string]uint32{
		"123456789": 0xcbf43926,
		"":          0,
		"\x00":      0xd202ef8d,
		"The quick brown fox jumps over the lazy dog": 0x414fa339,
	} {
		if n := Sum(s); n != want {
			t.Errorf("Sum(%q) = %x; want %x", s, n, want)
		}
	}
	if n := More(Sum("1234"), "56789"); n != 0xcbf43926 {
		t.Errorf("More(Sum(1234), 56789) = %x", n)
	}
}

// P2.1: every byte, alone and behind and before another.
func TestSumBytes(t *testing.T) {
	for c := range 256 {
		for _, s := range []string{string([]byte{byte(c)}), string([]byte{byte(c), 0x5a}), string([]byte{0xa5, byte(c)})} {
			if n, want := Sum(s), plain(s); n != want {
				t.Errorf("Sum(%q) = %x; want %x", s, n, want)
			}
		}
	}
}

// P2.1: texts of many lengths, against the chapter's steps and against the library's CRC-32.
func TestSumTexts(t *testing.T) {
	for _, s := range texts() {
		n := Sum(s)
		if want := plain(s); n != want {
			t.Errorf("Sum of %d bytes %.20q = %x; want %x", len(s), s, n, want)
		}
		if want := crc32.ChecksumIEEE([]byte(s)); n != want {
			t.Errorf("Sum of %d bytes %.20q = %x; the library says %x", len(s), s, n, want)
		}
	}
}

// P2.1: a million bytes are summed whole.
func TestSumLong(t *testing.T) {
	s := someText(5, 1<<20+3)
	if n, want := Sum(s), crc32.ChecksumIEEE([]byte(s)); n != want {
		t.Errorf("Sum = %x; want %x", n, want)
	}
}

// P2.1: More at every place where a text is cut in two, and from the empty string and onto it.
func TestMoreCuts(t *testing.T) {
	for _, s := range texts()[:150] {
		want := plain(s)
		for k := range len(s) + 1 {
			if n := More(plain(s[:k]), s[k:]); n != want {
				t.Errorf("%d bytes %.20q cut at %d: %x; want %x", len(s), s, k, n, want)
			}
		}
	}
	for _, sum := range edgeSums() {
		if n := More(sum, ""); n != sum {
			t.Errorf("More(%x, \"\") = %x", sum, n)
		}
	}
}

// P2.1: More byte by byte comes to the same as Sum.
func TestMoreByBytes(t *testing.T) {
	s := someText(7, 500)
	var sum uint32
	for i := range len(s) {
		sum = More(sum, s[i:i+1])
	}
	if sum != plain(s) {
		t.Errorf("%x; want %x", sum, plain(s))
	}
}

// P2.1: any number is some text's checksum, and More goes on from it, whichever text is meant.
func TestMoreAnySum(t *testing.T) {
	for _, sum := range edgeSums() {
		first := fourBytes(sum)
		if plain(first) != sum {
			t.Fatalf("the test's own text for %x has %x", sum, plain(first))
		}
		for _, s := range []string{"", "\x00", "x", "56789", someText(9, 100)} {
			if n, want := More(sum, s), plain(first+s); n != want {
				t.Errorf("More(%x, %.20q) = %x; want %x", sum, s, n, want)
			}
		}
	}
}

// P2.1: two texts of one checksum, of different lengths, go on to the same.
func TestMoreWhicheverText(t *testing.T) {
	for _, long := range texts() {
		short := fourBytes(plain(long))
		for _, s := range []string{"", "\xff", "56789"} {
			n := More(Sum(long), s)
			if n != plain(long+s) || n != plain(short+s) || n != More(Sum(short), s) {
				t.Errorf("%.20q and %q, then %q: %x, %x, %x", long, short, s, n, plain(long+s), plain(short+s))
			}
		}
	}
}

// P2.2: the chapter's examples.
func TestJoinExamples(t *testing.T) {
	if n, ok := Join(Sum("1234"), Sum("56789"), 5); n != 0xcbf43926 || !ok {
		t.Errorf("Join = %x, %v", n, ok)
	}
	if n, ok := Join(Sum("1234"), Sum("56789"), -1); n != 0 || ok {
		t.Errorf("Join with -1 = %x, %v", n, ok)
	}
}

// P2.2: lengths that Join refuses, whatever the sums are.
func TestJoinWrongLengths(t *testing.T) {
	wrong := []int{-1, -2, -5, -8, -1 << 30, -1<<30 - 1, -1 << 31, -1 << 32, -1<<32 + 5, math.MinInt + 1, math.MinInt,
		1<<30 + 1, 1<<30 + 2, 1<<30 + 8, 1<<31 - 1, 1 << 31, 1 << 32, 1<<32 + 1, 1<<32 + 5, 1 << 33, 1 << 62, math.MaxInt - 1, math.MaxInt}
	for _, n := range wrong {
		for _, a := range edgeSums() {
			for _, b := range []uint32{0, 1, a, ^a, math.MaxUint32} {
				if sum, ok := Join(a, b, n); sum != 0 || ok {
					t.Fatalf("Join(%x, %x, %d) = %x, %v; want 0, false", a, b, n, sum, ok)
				}
			}
		}
	}
}

// P2.2: no byte leaves a as the register, without an XOR before or behind.
func TestJoinNoBytes(t *testing.T) {
	for _, a := range edgeSums() {
		for _, b := range edgeSums() {
			if sum, ok := Join(a, b, 0); sum != a^b || !ok {
				t.Fatalf("Join(%x, %x, 0) = %x, %v; want %x, true", a, b, sum, ok, a^b)
			}
		}
	}
}

// P2.2: every length up to some, from any register, and with any b.
func TestJoinRegister(t *testing.T) {
	for _, a := range edgeSums() {
		reg := a
		for n := range 600 {
			for _, b := range []uint32{0, 1, 0x80000000, 0xf1e2d3c4, math.MaxUint32} {
				if sum, ok := Join(a, b, n); sum != reg^b || !ok {
					t.Fatalf("Join(%x, %x, %d) = %x, %v; want %x, true", a, b, n, sum, ok, reg^b)
				}
			}
			reg = process(reg, 0)
		}
	}
}

// P2.2: lengths up to the greatest, 2^30, against the library's run over as many zero bytes.
func TestJoinLongLengths(t *testing.T) {
	zero := make([]byte, 1<<20)
	const a = 0x12345678
	crc, done := ^uint32(a), 0
	for _, n := range []int{1<<16 - 1, 1 << 16, 1<<20 - 1, 1 << 20, 1<<24 + 12345, 1<<29 - 1, 1 << 29, 1<<29 + 0x15a5a5a5, 1<<30 - 1, 1 << 30} {
		for done < n {
			part := min(n-done, len(zero))
			crc = crc32.Update(crc, crc32.IEEETable, zero[:part])
			done += part
		}
		if sum, ok := Join(a, 0x9abcdef0, n); sum != ^crc^0x9abcdef0 || !ok {
			t.Errorf("Join(%x, 9abcdef0, %d) = %x, %v; want %x, true", a, n, sum, ok, ^crc^0x9abcdef0)
		}
	}
}

// P2.2: the sums of two texts, cut at every place, join to that of both.
func TestJoinCuts(t *testing.T) {
	for _, s := range texts()[:150] {
		want := plain(s)
		for k := range len(s) + 1 {
			if n, ok := Join(plain(s[:k]), plain(s[k:]), len(s)-k); n != want || !ok {
				t.Errorf("%d bytes %.20q cut at %d: %x, %v; want %x", len(s), s, k, n, ok, want)
			}
		}
	}
	a, b := someText(20, 70001), someText(21, 50003)
	if n, ok := Join(Sum(a), Sum(b), len(b)); n != plain(a+b) || !ok {
		t.Errorf("long texts: %x, %v", n, ok)
	}
}

// P2.3: More and Join come to the same for two texts, and for three in either order.
func TestMoreIsJoin(t *testing.T) {
	l := texts()
	for i, s := range l {
		u, v := l[(i*7+3)%len(l)], l[(i*11+5)%len(l)]
		more := More(Sum(s), u)
		if join, ok := Join(Sum(s), Sum(u), len(u)); join != more || !ok {
			t.Errorf("texts %d: More %x, Join %x, %v", i, more, join, ok)
		}
		left, _ := Join(more, Sum(v), len(v))
		inner, _ := Join(Sum(u), Sum(v), len(v))
		right, _ := Join(Sum(s), inner, len(u)+len(v))
		if want := plain(s + u + v); left != want || right != want {
			t.Errorf("texts %d: %x, %x; want %x", i, left, right, want)
		}
	}
}

// P2.3: the XOR of three texts of one length has the XOR of their checksums.
func TestSumOfThree(t *testing.T) {
	for n := range 200 {
		x, y, z := someText(int64(3*n), n), someText(int64(3*n+1), n), someText(int64(3*n+2), n)
		b := make([]byte, n)
		for i := range b {
			b[i] = x[i] ^ y[i] ^ z[i]
		}
		if got, want := Sum(string(b)), Sum(x)^Sum(y)^Sum(z); got != want {
			t.Errorf("%d bytes: %x; want %x", n, got, want)
		}
	}
}

// flip is s with the bits of a pattern turned, the lowest one at bit at, counted from the lowest of the first byte on.
func flip(s string, at int, pattern uint64) string {
	b := []byte(s)
	for k := range 64 {
		if pattern>>k&1 == 1 {
			b[(at+k)/8] ^= 1 << ((at + k) % 8)
		}
	}
	return string(b)
}

// P2.3: texts that differ within 32 consecutive bits, wherever these begin, differ in their checksums.
func TestSumNearDifferences(t *testing.T) {
	r := rand.New(rand.NewSource(4))
	patterns := []uint64{1, 0xffffffff, 0x80000001, 0xEDB88320, 0x04C11DB7, 0xDB710641}
	for k := range 32 {
		patterns = append(patterns, 1|1<<k, 1<<(k+1)-1)
	}
	for range 200 {
		patterns = append(patterns, uint64(r.Uint32())|1)
	}
	for _, s := range []string{strings.Repeat("\x00", 20), strings.Repeat("\xff", 20), someText(8, 20)} {
		sum := Sum(s)
		for _, p := range patterns {
			for at := range 8*len(s) - 31 {
				if other := flip(s, at, p); Sum(other) == sum {
					t.Fatalf("%q and %q: both %x", s, other, sum)
				}
			}
		}
	}
}

// P2.3: the polynomial's own 33 bits, the lowest byte's lowest bit first, are the shortest difference that is not seen.
func TestSumFarDifference(t *testing.T) {
	const own = 0xEDB88320<<1 | 1
	for at := range 40 {
		s := someText(int64(at), 12)
		other := flip(s, at, own)
		if other == s || Sum(other) != Sum(s) {
			t.Errorf("at %d: %x and %x", at, Sum(s), Sum(other))
		}
	}
}

// R2, R4: a call leaves nothing behind that a later one would see.
func TestSumsAgain(t *testing.T) {
	s, u := someText(30, 300), someText(31, 77)
	sum, more := Sum(s), More(5, u)
	join, _ := Join(7, 9, 1<<30)
	for range 3 {
		Sum(u)
		More(math.MaxUint32, s)
		Join(1, 2, -1)
		again, ok := Join(7, 9, 1<<30)
		if Sum(s) != sum || More(5, u) != more || again != join || !ok {
			t.Fatal("the same calls answer otherwise the second time")
		}
	}
	if s != someText(30, 300) || u != someText(31, 77) {
		t.Error("a text was changed")
	}
}

// R1: Join ends as soon for the greatest length as for a small one.
func TestJoinQuick(t *testing.T) {
	for n := range 20000 {
		if _, ok := Join(uint32(n), 0, 1<<30-n); !ok {
			t.Fatal(n)
		}
	}
}
