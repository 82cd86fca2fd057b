package bits

import (
	"math"
	"math/rand"
	"slices"
	"strings"
	"testing"

	"glissade/api"
)

// example is the chapter's bitmap: the bits 0, 2, 3 and 15 are 1.
const example = "\x0d\x80"

// spread is a bitmap as the chapter's terms tell it, a bool for each bit.
func spread(s string) []bool {
	var l []bool
	for _, c := range []byte(s) {
		for range 8 {
			l = append(l, c%2 == 1)
			c /= 2
		}
	}
	return l
}

// joined is the bitmap that a list of bools spreads from.
func joined(l []bool) string {
	var b strings.Builder
	for ; len(l) >= 8; l = l[8:] {
		c, value := 0, 1
		for _, on := range l[:8] {
			if on {
				c += value
			}
			value *= 2
		}
		b.WriteByte(byte(c))
	}
	return b.String()
}

// firstBits are the first n bits.
func firstBits(s string, n int) []bool {
	l := spread(s)
	if n < 0 {
		return nil
	}
	if n > len(l) {
		return l
	}
	return l[:n]
}

// plainFit looks at every place, first from from on, then anew.
func plainFit(l []bool, size, from int) (api.Run, bool) {
	if size < 1 {
		return api.Run{}, false
	}
	for _, low := range []int{from, math.MinInt} {
		for start := range l {
			if start < low || size > len(l)-start {
				continue
			}
			if !slices.Contains(l[start:start+size], true) {
				return api.Run{Start: start, Len: size}, true
			}
		}
	}
	return api.Run{}, false
}

// plainFree goes through the bits one by one.
func plainFree(l []bool) []api.Run {
	var free []api.Run
	for i, on := range l {
		if on {
			continue
		}
		if i > 0 && !l[i-1] {
			free[len(free)-1].Len++
			continue
		}
		free = append(free, api.Run{Start: i, Len: 1})
	}
	return free
}

// bitmaps are of many lengths and kinds: empty, full, with few bits and with many.
func bitmaps() []string {
	l := []string{"", "\x00", "\xff", "\x01", "\x80", "\x7f", "\xfe", "\x55", "\xaa", "\x18", "\xe7", example,
		"\x00\x00\x00", "\xff\xff\xff", "\xff\x00\xff", "\x00\xff\x00", "\x0f\x00\xf0", "\xf0\xff\x0f", "\x80\x01", "\x7f\xfe", "\xff\x01\x80\xff", "äö\n"}
	r := rand.New(rand.NewSource(3))
	for n := range 40 {
		b := make([]byte, n%7+1)
		r.Read(b)
		for i := range b {
			switch n % 4 {
			case 0:
				b[i] &= byte(r.Intn(256)) & byte(r.Intn(256))
			case 1:
				b[i] |= byte(r.Intn(256)) | byte(r.Intn(256))
			}
		}
		l = append(l, string(b))
	}
	return l
}

// places are numbers within and around the bits of a bitmap, and the outermost that an int holds.
func places(s string) []int {
	l := []int{math.MinInt, math.MinInt + 1, math.MinInt + 8, math.MinInt32, -65, -64, -17, -9, -8, -7, -2, -1}
	for i := 0; i <= 8*len(s)+9; i++ {
		l = append(l, i)
	}
	return append(l, 1<<31, 1<<32, 1<<32+1, 1<<61, 1<<61+1, math.MaxInt-8*len(s), math.MaxInt-8, math.MaxInt-7, math.MaxInt-1, math.MaxInt)
}

// P3.1: the chapter's examples of Has and of With.
func TestHasExamples(t *testing.T) {
	for i, want := range map[int]bool{0: true, 1: false, 2: true, 3: true, 4: false, 7: false, 8: false, 14: false, 15: true, 16: false, 99: false, -1: false} {
		if Has(example, i) != want {
			t.Errorf("Has(%d) = %v", i, !want)
		}
	}
	for _, x := range []struct {
		i    int
		on   bool
		want string
	}{
		{1, true, "\x0f\x80"}, {1, false, example}, {0, false, "\x0c\x80"}, {0, true, example}, {7, true, "\x8d\x80"},
		{8, true, "\x0d\x81"}, {15, false, "\x0d\x00"}, {16, true, example}, {-1, true, example}, {-8, true, example},
	} {
		if got := With(example, x.i, x.on); got != x.want {
			t.Errorf("With(%d, %v) = %q; want %q", x.i, x.on, got, x.want)
		}
	}
}

// P3.1: Has is true just for bits that exist and are 1.
func TestHas(t *testing.T) {
	for _, s := range bitmaps() {
		l := spread(s)
		for _, i := range places(s) {
			want := i >= 0 && i < len(l) && l[i]
			if Has(s, i) != want {
				t.Fatalf("Has(%q, %d) = %v", s, i, !want)
			}
		}
	}
}

// P3.1, P3.4: the bit has the value that was set, all others are as they were; a bit that does not exist changes nothing.
func TestWith(t *testing.T) {
	for _, s := range bitmaps() {
		for _, i := range places(s) {
			for _, on := range []bool{false, true} {
				l := spread(s)
				if i >= 0 && i < len(l) {
					l[i] = on
				}
				got := With(s, i, on)
				if want := joined(l); got != want {
					t.Fatalf("With(%q, %d, %v) = %q; want %q", s, i, on, got, want)
				}
				if exists := i >= 0 && i < len(l); Has(got, i) != (exists && on) {
					t.Fatalf("Has(%d) after With(%q, %v) = %v", i, s, on, Has(got, i))
				}
			}
		}
	}
}

// P3.2: the chapter's examples of Count and of Free.
func TestCountExamples(t *testing.T) {
	for n, want := range map[int]int{0: 0, 1: 1, 2: 1, 3: 2, 4: 3, 8: 3, 15: 3, 16: 4, 17: 4, 99: 4, -1: 0, -3: 0} {
		if got := Count(example, n); got != want {
			t.Errorf("Count(%d) = %d; want %d", n, got, want)
		}
	}
	for n, want := range map[int][]api.Run{
		16: {{Start: 1, Len: 1}, {Start: 4, Len: 11}},
		99: {{Start: 1, Len: 1}, {Start: 4, Len: 11}},
		5:  {{Start: 1, Len: 1}, {Start: 4, Len: 1}},
		4:  {{Start: 1, Len: 1}}, 3: {{Start: 1, Len: 1}}, 2: {{Start: 1, Len: 1}}, 1: nil, 0: nil, -1: nil,
	} {
		if got := Free(example, n); !slices.Equal(got, want) {
			t.Errorf("Free(%d) = %v; want %v", n, got, want)
		}
	}
}

// P3.2, P3.4: Count and Free against the bits one by one; their lengths add up to the number of the first n bits.
func TestCountFree(t *testing.T) {
	for _, s := range bitmaps() {
		for _, n := range places(s) {
			l := firstBits(s, n)
			ones := 0
			for _, on := range l {
				if on {
					ones++
				}
			}
			if got := Count(s, n); got != ones {
				t.Fatalf("Count(%q, %d) = %d; want %d", s, n, got, ones)
			}
			free := Free(s, n)
			if want := plainFree(l); !slices.Equal(free, want) {
				t.Fatalf("Free(%q, %d) = %v; want %v", s, n, free, want)
			}
			for _, r := range free {
				ones += r.Len
			}
			if ones != len(l) {
				t.Fatalf("%q, %d: the runs of Free and Count add up to %d", s, n, ones)
			}
		}
	}
}

// P3.2: a run goes on over the bytes' edges, and ends with the first n bits.
func TestFreeLong(t *testing.T) {
	s := "\xff" + strings.Repeat("\x00", 510) + "\x80"
	for n, want := range map[int][]api.Run{
		4096: {{Start: 8, Len: 4087}}, 4095: {{Start: 8, Len: 4087}}, 4094: {{Start: 8, Len: 4086}},
		1001: {{Start: 8, Len: 993}}, 1000: {{Start: 8, Len: 992}}, 9: {{Start: 8, Len: 1}}, 8: nil, 7: nil,
	} {
		if got := Free(s, n); !slices.Equal(got, want) {
			t.Errorf("Free(%d) = %v; want %v", n, got, want)
		}
	}
}

// P3.3: the chapter's examples, and the edges that it names.
func TestFitExamples(t *testing.T) {
	for _, x := range []struct {
		n, size, from int
		want          api.Run
		ok            bool
	}{
		{16, 2, 0, api.Run{Start: 4, Len: 2}, true},
		{16, 2, 14, api.Run{Start: 4, Len: 2}, true},
		{16, 2, 13, api.Run{Start: 13, Len: 2}, true},
		{16, 12, 0, api.Run{}, false},
		{16, 11, 0, api.Run{Start: 4, Len: 11}, true},
		{16, 11, 5, api.Run{Start: 4, Len: 11}, true},
		{15, 11, 0, api.Run{Start: 4, Len: 11}, true},
		{14, 11, 0, api.Run{}, false},
		{14, 10, 4, api.Run{Start: 4, Len: 10}, true},
		{14, 10, 5, api.Run{Start: 4, Len: 10}, true},
		{16, 10, 5, api.Run{Start: 5, Len: 10}, true},
		{16, 10, 6, api.Run{Start: 4, Len: 10}, true},
		{16, 1, 15, api.Run{Start: 1, Len: 1}, true},
		{16, 1, 16, api.Run{Start: 1, Len: 1}, true},
		{16, 1, 99, api.Run{Start: 1, Len: 1}, true},
		{16, 1, math.MaxInt, api.Run{Start: 1, Len: 1}, true},
		{16, 2, math.MaxInt, api.Run{Start: 4, Len: 2}, true},
		{16, 1, -5, api.Run{Start: 1, Len: 1}, true},
		{16, 11, math.MinInt, api.Run{Start: 4, Len: 11}, true},
		{99, 11, 0, api.Run{Start: 4, Len: 11}, true},
		{math.MaxInt, 11, 0, api.Run{Start: 4, Len: 11}, true},
		{16, 0, 0, api.Run{}, false},
		{16, -1, 0, api.Run{}, false},
		{16, math.MinInt, 0, api.Run{}, false},
		{16, 16, 0, api.Run{}, false},
		{16, 17, 0, api.Run{}, false},
		{16, math.MaxInt, 0, api.Run{}, false},
		{16, math.MaxInt, math.MaxInt, api.Run{}, false},
		{0, 1, 0, api.Run{}, false},
		{-1, 1, 0, api.Run{}, false},
		{math.MinInt, 1, 0, api.Run{}, false},
	} {
		if got, ok := Fit(example, x.n, x.size, x.from); got != x.want || ok != x.ok {
			t.Errorf("Fit(%d, %d, %d) = %v, %v; want %v, %v", x.n, x.size, x.from, got, ok, x.want, x.ok)
		}
	}
	for _, x := range []struct {
		n, from, want int
		ok            bool
	}{
		{16, 0, 1, true}, {16, 1, 1, true}, {16, 2, 4, true}, {16, 14, 14, true}, {16, 15, 1, true}, {16, 99, 1, true},
		{16, -1, 1, true}, {16, math.MinInt, 1, true}, {16, math.MaxInt, 1, true}, {2, 0, 1, true}, {4, 3, 1, true},
		{1, 0, 0, false}, {0, 0, 0, false}, {-1, 0, 0, false}, {math.MinInt, 0, 0, false},
	} {
		if got, ok := First(example, x.n, x.from); got != x.want || ok != x.ok {
			t.Errorf("First(%d, %d) = %d, %v; want %d, %v", x.n, x.from, got, ok, x.want, x.ok)
		}
	}
}

// P3.3: a size as great as a bitmap of zeros fits, and a greater one doesn't.
func TestFitWhole(t *testing.T) {
	for length := range 5 {
		s := strings.Repeat("\x00", length)
		for n := range 8*length + 1 {
			for _, from := range []int{math.MinInt, -1, 0, 1, n - 1, n, n + 1, math.MaxInt} {
				got, ok := Fit(s, n, n, from)
				if want := (api.Run{Start: 0, Len: n}); n > 0 && (got != want || !ok) || n == 0 && (got != want || ok) {
					t.Errorf("Fit of %d bytes (%d, %d, %d) = %v, %v", length, n, n, from, got, ok)
				}
				if got, ok := Fit(s, n, n+1, from); got != (api.Run{}) || ok {
					t.Errorf("Fit of %d bytes (%d, %d, %d) = %v, %v", length, n, n+1, from, got, ok)
				}
			}
		}
	}
}

// P3.3, P3.4: Fit against a look at every place; First is Fit with size 1; a size fits just if a run of Free is as long.
func TestFit(t *testing.T) {
	for _, s := range bitmaps() {
		sizes := []int{math.MinInt, -1, 0, 1, 2, 3, 4, 7, 8, 9, 12, 16, 17, 24, 8*len(s) - 1, 8 * len(s), 8*len(s) + 1, math.MaxInt - 1, math.MaxInt}
		for _, n := range places(s) {
			l, longest := firstBits(s, n), 0
			for _, r := range Free(s, n) {
				longest = max(longest, r.Len)
			}
			for _, from := range places(s) {
				if from > 12 && from < 8*len(s)-12 && from%5 > 0 {
					continue
				}
				for _, size := range sizes {
					got, ok := Fit(s, n, size, from)
					if want, wantOK := plainFit(l, size, from); got != want || ok != wantOK {
						t.Fatalf("Fit(%q, %d, %d, %d) = %v, %v; want %v, %v", s, n, size, from, got, ok, want, wantOK)
					}
					if ok != (size >= 1 && size <= longest) {
						t.Fatalf("Fit(%q, %d, %d, %d) tells %v; the longest run has %d", s, n, size, from, ok, longest)
					}
				}
				one, wantOK := Fit(s, n, 1, from)
				if at, ok := First(s, n, from); at != one.Start || ok != wantOK {
					t.Fatalf("First(%q, %d, %d) = %d, %v; want %v, %v", s, n, from, at, ok, one, wantOK)
				}
			}
		}
	}
}

// R2, R4: the same calls tell the same again, in lists of their own.
func TestBitsAgain(t *testing.T) {
	s := strings.Clone(example)
	free := Free(s, 16)
	want := slices.Clone(free)
	for i := range free {
		free[i] = api.Run{Start: -1, Len: -1}
	}
	free = append(free[:0], api.Run{Start: 7, Len: 7})
	With(s, 4, true)
	Fit(s, 16, 11, 9)
	if again := Free(s, 16); !slices.Equal(again, want) {
		t.Errorf("Free tells %v; at first %v", again, want)
	}
	if s != example || len(free) != 1 {
		t.Errorf("the bitmap is %q", s)
	}
}

// A run that is not wanted is the last that is handed on.
func TestEachFreeStops(t *testing.T) {
	for stop := 1; stop <= 4; stop++ {
		var got []api.Run
		eachFree("\x55", 8, func(r api.Run) bool {
			got = append(got, r)
			return len(got) < stop
		})
		want := []api.Run{{Start: 1, Len: 1}, {Start: 3, Len: 1}, {Start: 5, Len: 1}, {Start: 7, Len: 1}}[:stop]
		if !slices.Equal(got, want) {
			t.Errorf("up to %d: %v", stop, got)
		}
	}
}
