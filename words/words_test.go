package words

import (
	"math"
	"slices"
	"strings"
	"testing"
)

var sizes = []int{1, 2, 4, 8}

// offsets are offsets around the edges of a text of so many bytes, and of what an int holds.
func offsets(length int) []int {
	l := []int{math.MinInt, math.MinInt + 1, math.MinInt + 8, -9, -8, -2, -1}
	for at := 0; at <= length+9; at++ {
		l = append(l, at)
	}
	for _, d := range []int{9, 8, 7, 4, 3, 2, 1, 0} {
		l = append(l, math.MaxInt-d)
	}
	return append(l, math.MaxInt32, math.MaxInt32+1, math.MaxUint32, math.MaxUint32+1)
}

// wrongSizes are sizes that no field has.
var wrongSizes = []int{math.MinInt, math.MinInt + 1, -8, -4, -2, -1, 0, 3, 5, 6, 7, 9, 10, 12, 16, 32, 64, 256, 1 << 32, 1<<32 + 1, 1<<32 + 8, math.MaxInt - 1, math.MaxInt}

func allSizes() []int { return slices.Concat(sizes, wrongSizes) }

// lies tells, without sums that could wrap round, whether a field lies in a text of so many bytes.
func lies(length, at, size int) bool {
	for i := 0; i+size <= length; i++ {
		if i == at {
			return true
		}
	}
	return false
}

// text is a text of so many bytes, no two of which side by side are equal.
func text(length int) string {
	var b strings.Builder
	for i := range length {
		b.WriteByte(byte(37*i + 211))
	}
	return b.String()
}

// values are numbers of all lengths, around the edges of what 1, 2, 4, 7 and 8 bytes hold.
func values() []uint64 {
	l := []uint64{0, 1, 2, 0x0102030405060708, 0xf1f2f3f4f5f6f7f8, 0x8000000000000001}
	for bit := range 64 {
		n := uint64(1) << bit
		l = append(l, n-1, n, n+1)
	}
	return append(l, math.MaxUint64-1, math.MaxUint64)
}

// holds tells whether a number fits into so many bytes, by a comparison instead of a shift.
func holds(n uint64, size int) bool {
	switch size {
	case 1:
		return n <= math.MaxUint8
	case 2:
		return n <= math.MaxUint16
	case 4:
		return n <= math.MaxUint32
	}
	return true
}

// P1.1: the chapter's examples, and values whose bytes all differ.
func TestGetValues(t *testing.T) {
	for _, x := range []struct {
		s        string
		at, size int
		want     uint64
	}{
		{"\x01\x02\x03\x04\x05", 1, 1, 2},
		{"\x01\x02\x03\x04\x05", 1, 2, 770},
		{"\x01\x02\x03\x04\x05", 1, 4, 84148994},
		{"\x01\x02\x03\x04\x05", 0, 1, 1},
		{"\x01\x02\x03\x04\x05", 4, 1, 5},
		{"\x01\x02\x03\x04\x05", 3, 2, 0x0504},
		{"\x08\x07\x06\x05\x04\x03\x02\x01", 0, 8, 0x0102030405060708},
		{"\x08\x07\x06\x05\x04\x03\x02\x01", 4, 4, 0x01020304},
		{"ab\x80\xff", 0, 2, 0x6261},
		{"ab\x80\xff", 2, 1, 0x80},
		{"ab\x80\xff", 2, 2, 0xff80},
		{"ab\x80\xff", 0, 4, 0xff806261},
		{"\x00\x00\x00\x00\x00\x00\x00\x80", 0, 8, 1 << 63},
		{"\xff\xff\xff\xff\xff\xff\xff\xff", 0, 8, math.MaxUint64},
		{"\x00\x00\x00\x00\x00\x00\x00\x00", 0, 8, 0},
		{"\x00", 0, 1, 0},
	} {
		if n, ok := Get(x.s, x.at, x.size); n != x.want || !ok {
			t.Errorf("Get(%q, %d, %d) = %d, %v; want %d, true", x.s, x.at, x.size, n, ok, x.want)
		}
	}
}

// P1.1: each byte counts for its place, and for no other.
func TestGetPlaces(t *testing.T) {
	for _, size := range sizes {
		for place := range size {
			for _, c := range []byte{1, 0x7f, 0x80, 0xff} {
				field := strings.Repeat("\x00", place) + string([]byte{c}) + strings.Repeat("\x00", size-place-1)
				want := uint64(c)
				for range place {
					want *= 256
				}
				for at := range 4 {
					s := strings.Repeat("\xaa", at) + field + "\xbb\xcc"
					if n, ok := Get(s, at, size); n != want || !ok {
						t.Errorf("Get(%q, %d, %d) = %d, %v; want %d, true", s, at, size, n, ok, want)
					}
				}
			}
		}
	}
}

// P1.1: every offset with every size of a field is valid just where the field lies in the text.
func TestGetOffsets(t *testing.T) {
	for length := 0; length <= 20; length++ {
		s := strings.Repeat("\x01", length)
		for _, size := range sizes {
			ones := uint64(0x0101010101010101) >> (64 - 8*size)
			for _, at := range offsets(length) {
				n, ok := Get(s, at, size)
				if want := lies(length, at, size); want && (n != ones || !ok) || !want && (n != 0 || ok) {
					t.Errorf("Get of %d bytes, %d, %d = %d, %v; valid: %v", length, at, size, n, ok, want)
				}
			}
		}
	}
}

// P1.1: a size that is none is never valid, wherever the field would lie.
func TestGetWrongSizes(t *testing.T) {
	for _, length := range []int{0, 1, 8, 20, 300} {
		s := text(length)
		for _, size := range wrongSizes {
			for _, at := range offsets(length) {
				if n, ok := Get(s, at, size); n != 0 || ok {
					t.Errorf("Get of %d bytes, %d, %d = %d, %v", length, at, size, n, ok)
				}
			}
		}
	}
}

// P1.2: the chapter's examples, and fields at the beginning, in the middle and at the end.
func TestPutValues(t *testing.T) {
	for _, x := range []struct {
		s        string
		at, size int
		n        uint64
		want     string
	}{
		{"\x01\x02\x03", 1, 2, 258, "\x01\x02\x01"},
		{"\x01\x02\x03", 0, 1, 255, "\xff\x02\x03"},
		{"\x01\x02\x03", 2, 1, 0, "\x01\x02\x00"},
		{"\x01\x02\x03", 1, 2, 7, "\x01\x07\x00"},
		{"\x01\x02\x03\x04", 0, 2, 0x1234, "\x34\x12\x03\x04"},
		{"\x01\x02\x03\x04\x05\x06", 1, 4, 0x89abcdef, "\x01\xef\xcd\xab\x89\x06"},
		{"abcdefghij", 1, 8, 0x0102030405060708, "a\x08\x07\x06\x05\x04\x03\x02\x01j"},
		{"abcdefgh", 0, 8, 0xf1f2f3f4f5f6f7f8, "\xf8\xf7\xf6\xf5\xf4\xf3\xf2\xf1"},
		{"abcdefgh", 0, 8, 0, "\x00\x00\x00\x00\x00\x00\x00\x00"},
		{"\x80", 0, 1, 0x81, "\x81"},
	} {
		if s, ok := Put(x.s, x.at, x.size, x.n); s != x.want || !ok {
			t.Errorf("Put(%q, %d, %d, %d) = %q, %v; want %q, true", x.s, x.at, x.size, x.n, s, ok, x.want)
		}
	}
}

// P1.2: numbers that just fit are put, and those that just don't are refused.
func TestPutFits(t *testing.T) {
	s := text(11)
	for _, size := range sizes {
		for _, n := range values() {
			got, ok := Put(s, 2, size, n)
			if !holds(n, size) {
				if got != "" || ok {
					t.Errorf("Put of %d into %d bytes = %q, %v", n, size, got, ok)
				}
				continue
			}
			want := s[:2]
			for m, i := n, 0; i < size; m, i = m/256, i+1 {
				want += string([]byte{byte(m % 256)})
			}
			if want += s[2+size:]; got != want || !ok {
				t.Errorf("Put of %d into %d bytes = %q, %v; want %q", n, size, got, ok, want)
			}
		}
	}
	if got, ok := Put("\x01\x02\x03", 1, 2, 65536); got != "" || ok {
		t.Errorf("Put of 65536 into 2 bytes = %q, %v", got, ok)
	}
}

// P1.2: a field that is not valid is refused, even where the number fits.
func TestPutOffsets(t *testing.T) {
	for length := 0; length <= 20; length++ {
		s := text(length)
		for _, size := range sizes {
			for _, at := range offsets(length) {
				got, ok := Put(s, at, size, 1)
				if want := lies(length, at, size); want && (len(got) != length || !ok) || !want && (got != "" || ok) {
					t.Errorf("Put into %d bytes, %d, %d = %q, %v; valid: %v", length, at, size, got, ok, want)
				}
			}
		}
	}
}

// P1.2: a size that is none is refused, whatever the number.
func TestPutWrongSizes(t *testing.T) {
	for _, length := range []int{0, 1, 8, 20, 300} {
		s := text(length)
		for _, size := range wrongSizes {
			for _, at := range offsets(length) {
				for _, n := range []uint64{0, 1, math.MaxUint64} {
					if got, ok := Put(s, at, size, n); got != "" || ok {
						t.Errorf("Put into %d bytes, %d, %d, %d = %q, %v", length, at, size, n, got, ok)
					}
				}
			}
		}
	}
}

// P1.3: GetInt refuses 2^63 and more, and what Get refuses.
func TestGetInt(t *testing.T) {
	for _, x := range []struct {
		s        string
		at, size int
		want     int
		ok       bool
	}{
		{"\xff\xff\xff\xff\xff\xff\xff\x7f", 0, 8, math.MaxInt64, true},
		{"\xfe\xff\xff\xff\xff\xff\xff\x7f", 0, 8, math.MaxInt64 - 1, true},
		{"\x00\x00\x00\x00\x00\x00\x00\x80", 0, 8, 0, false},
		{"\x01\x00\x00\x00\x00\x00\x00\x80", 0, 8, 0, false},
		{"\xfe\xff\xff\xff\xff\xff\xff\xff", 0, 8, 0, false},
		{"\xff\xff\xff\xff\xff\xff\xff\xff", 0, 8, 0, false},
		{"\xff\xff\xff\xff\xff\xff\xff\xff", 0, 4, math.MaxUint32, true},
		{"\xff\xff\xff\xff\xff\xff\xff\xff", 6, 2, math.MaxUint16, true},
		{"\xff\xff\xff\xff\xff\xff\xff\xff", 7, 1, math.MaxUint8, true},
		{"\x00\x00\x00\x80\x00\x00\x00\x00", 0, 4, 1 << 31, true},
		{"\x00", 0, 1, 0, true},
		{"\x01\x02\x03\x04\x05", 1, 4, 84148994, true},
		{"\x01\x02\x03\x04\x05", 2, 4, 0, false},
		{"\x01\x02\x03\x04\x05", 0, 3, 0, false},
		{"\x01\x02\x03\x04\x05", -1, 1, 0, false},
		{"\x01\x02\x03\x04\x05", 5, 1, 0, false},
		{"\x01\x02\x03\x04\x05", math.MaxInt, 1, 0, false},
		{"", 0, 1, 0, false},
	} {
		if n, ok := GetInt(x.s, x.at, x.size); n != x.want || ok != x.ok {
			t.Errorf("GetInt(%q, %d, %d) = %d, %v; want %d, %v", x.s, x.at, x.size, n, ok, x.want, x.ok)
		}
	}
}

// P1.3: where Get's value is below 2^63, GetInt tells the same; elsewhere it tells nothing.
func TestGetIntIsGet(t *testing.T) {
	for _, n := range values() {
		s := "\x55" + field(n) + "\xaa"
		for _, size := range allSizes() {
			for _, at := range offsets(len(s)) {
				m, ok := Get(s, at, size)
				if m >= 1<<63 {
					m, ok = 0, false
				}
				if i, okInt := GetInt(s, at, size); i < 0 || uint64(i) != m || okInt != ok {
					t.Fatalf("GetInt(%q, %d, %d) = %d, %v; want %d, %v", s, at, size, i, okInt, m, ok)
				}
			}
		}
	}
}

// field is the eight bytes of a number.
func field(n uint64) string {
	var b strings.Builder
	for range 8 {
		b.WriteByte(byte(n % 256))
		n /= 256
	}
	return b.String()
}

// P1.3: PutInt refuses negative numbers, also those whose low bytes would fit, and else is Put.
func TestPutInt(t *testing.T) {
	s := text(10)
	for _, n := range []int{-1, -2, -128, -256, -65536, -(1 << 32), math.MinInt, math.MinInt + 1} {
		for _, size := range allSizes() {
			for _, at := range offsets(len(s)) {
				if got, ok := PutInt(s, at, size, n); got != "" || ok {
					t.Errorf("PutInt(%d, %d, %d) = %q, %v", at, size, n, got, ok)
				}
			}
		}
	}
	for _, n := range []int{0, 1, 255, 256, 65535, 65536, 1<<31 - 1, 1 << 31, 1<<32 - 1, 1 << 32, math.MaxInt - 1, math.MaxInt} {
		for _, size := range allSizes() {
			for _, at := range offsets(len(s)) {
				want, wantOK := Put(s, at, size, uint64(n))
				if got, ok := PutInt(s, at, size, n); got != want || ok != wantOK {
					t.Errorf("PutInt(%d, %d, %d) = %q, %v; want %q, %v", at, size, n, got, ok, want, wantOK)
				}
			}
		}
	}
	if got, ok := PutInt("12345678", 0, 8, math.MaxInt64); got != "\xff\xff\xff\xff\xff\xff\xff\x7f" || !ok {
		t.Errorf("PutInt of the greatest = %q, %v", got, ok)
	}
	if got, ok := PutInt("\x01\x02\x03", 1, 2, 258); got != "\x01\x02\x01" || !ok {
		t.Errorf("PutInt of 258 = %q, %v", got, ok)
	}
}

// P1.4: what was put is had back, and no byte beside the field has changed.
func TestGetAfterPut(t *testing.T) {
	for _, length := range []int{1, 2, 4, 8, 9, 17} {
		s := text(length)
		for _, size := range sizes {
			for at := 0; at+size <= length; at++ {
				for _, n := range values() {
					got, ok := Put(s, at, size, n)
					if !ok {
						continue
					}
					if m, ok := Get(got, at, size); m != n || !ok {
						t.Fatalf("Get after Put of %d at %d, %d = %d, %v", n, at, size, m, ok)
					}
					if len(got) != length || got[:at] != s[:at] || got[at+size:] != s[at+size:] {
						t.Fatalf("Put of %d at %d, %d into %q = %q", n, at, size, s, got)
					}
				}
			}
		}
	}
}

// P1.4: a field's value is that of its first half, and that of its second half shifted.
func TestHalves(t *testing.T) {
	for _, n := range values() {
		s := "\x12" + field(n) + text(5)
		for _, size := range []int{2, 4, 8} {
			for at := 0; at+size <= len(s); at++ {
				whole, ok := Get(s, at, size)
				low, okLow := Get(s, at, size/2)
				high, okHigh := Get(s, at+size/2, size/2)
				if whole != low+high<<(4*size) || !ok || !okLow || !okHigh {
					t.Fatalf("%q at %d, %d: %d is not %d and %d", s, at, size, whole, low, high)
				}
			}
		}
	}
}

// P1.4: putting back what was had leaves the text as it is.
func TestPutBack(t *testing.T) {
	for _, n := range values() {
		s := "\x12" + field(n) + text(5)
		for _, size := range sizes {
			for at := 0; at+size <= len(s); at++ {
				m, _ := Get(s, at, size)
				if got, ok := Put(s, at, size, m); got != s || !ok {
					t.Fatalf("putting back %d at %d, %d into %q = %q, %v", m, at, size, s, got, ok)
				}
				i, ok := GetInt(s, at, size)
				if !ok {
					continue
				}
				if got, ok := PutInt(s, at, size, i); got != s || !ok {
					t.Fatalf("putting back %d at %d, %d into %q = %q, %v", i, at, size, s, got, ok)
				}
			}
		}
	}
}

// R1, R2, R4: any arguments are answered, twice the same, and the text that was handed in stays as it is.
func TestRules(t *testing.T) {
	for _, length := range []int{0, 1, 7, 8, 9, 128, 65536} {
		s := text(length)
		for _, size := range allSizes() {
			for _, at := range []int{math.MinInt, -size, -1, 0, 1, length - size, length - 1, length, math.MaxInt - size, math.MaxInt} {
				for _, n := range []uint64{0, 255, 256, 1 << 63, math.MaxUint64} {
					if a, b := told(s, at, size, n), told(s, at, size, n); a != b {
						t.Fatalf("%d bytes, %d, %d, %d: answered twice, differently", length, at, size, n)
					}
					if s != text(length) {
						t.Fatalf("%d bytes, %d, %d, %d: the text was changed", length, at, size, n)
					}
				}
			}
		}
	}
}

// answers is what all four functions tell.
type answers struct {
	n              uint64
	i              int
	put, putInt    string
	okGet, okInt   bool
	okPut, okPutIn bool
}

func told(s string, at, size int, n uint64) answers {
	var a answers
	a.n, a.okGet = Get(s, at, size)
	a.i, a.okInt = GetInt(s, at, size)
	a.put, a.okPut = Put(s, at, size, n)
	a.putInt, a.okPutIn = PutInt(s, at, size, int(n))
	return a
}
