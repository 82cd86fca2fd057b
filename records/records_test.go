package records

import (
	"math"
	"math/rand"
	"reflect"
	"slices"
	"strings"
	"testing"

	"glissade/api"
)

// zeros is so many zero bytes.
func zeros(n int) string { return strings.Repeat("\x00", n) }

// padded is a block that begins with such bytes, and goes on with zeros.
func padded(begin string) string { return begin + zeros(128-len(begin)) }

// low is the lowest bytes of a number, the lowest one first, told by divisions.
func low(n uint64, bytes int) string {
	var b strings.Builder
	for range bytes {
		b.WriteByte(byte(n % 256))
		n /= 256
	}
	return b.String()
}

// counted is a block whose fields are a count, as many homes as there are, and bytes behind them; nothing of it need fit together.
func counted(kind, count int, homes []int, behind string) string {
	s := "GLJw" + low(uint64(kind), 1) + low(77, 8) + low(uint64(count), 1)
	for _, h := range homes {
		s += low(uint64(h), 2)
	}
	s += behind
	if len(s) > 128 {
		return s[:128]
	}
	return padded(s)
}

// rising is so many homes from a first one on, a step apart.
func rising(n, first, step int) []int {
	var l []int
	for i := range n {
		l = append(l, first+i*step)
	}
	return l
}

// flags is so many booleans of which every third is true, beginning with the given one.
func flags(n, first int) []bool {
	l := make([]bool, n)
	for i := first; i < n; i += 3 {
		l[i] = true
	}
	return l
}

// story is the block of a record as the chapter tells it, and whether the record is valid.
func story(r api.Record) (string, bool) {
	s := "GLJw" + low(uint64(r.Kind), 1) + low(r.Seq, 8)
	switch {
	case r.Kind == 1 && r.At >= 0 && r.At < 511 && len(r.Homes)+len(r.Masked) == 0 && r.Sum == 0:
		return padded(s + low(uint64(r.At), 2)), true
	case r.Kind == 2 && listed(r.Homes, 24) && len(r.Masked) == len(r.Homes) && r.At == 0 && r.Sum == 0:
	case r.Kind == 3 && listed(r.Homes, 28) && len(r.Masked) == 0 && r.At == 0 && r.Sum == 0:
	case r.Kind == 4 && r.At == 0 && len(r.Homes)+len(r.Masked) == 0:
		return padded(s + low(uint64(r.Sum), 4)), true
	default:
		return "", false
	}
	s += low(uint64(len(r.Homes)), 1)
	for _, h := range r.Homes {
		s += low(uint64(h), 2)
	}
	for _, m := range r.Masked {
		s += map[bool]string{false: "\x00", true: "\x01"}[m]
	}
	return padded(s), true
}

// listed tells whether homes may stand in a record: sorted and each there once, they are still the same.
func listed(homes []int, most int) bool {
	l := slices.Compact(slices.Sorted(slices.Values(homes)))
	return len(l) > 0 && len(l) <= most && slices.Equal(l, homes) && l[0] >= 0 && l[len(l)-1] < 4096
}

// parsed is the record of a block, read from it byte by byte, and whether it is one.
func parsed(block string) (api.Record, bool) {
	var r api.Record
	if len(block) != 128 || block[:4] != "GLJw" {
		return r, false
	}
	next := 4
	take := func(bytes int) int {
		n := 0
		for i := range bytes {
			n += int(block[next+i]) << (8 * i)
		}
		next += bytes
		return n
	}
	r.Kind = take(1)
	r.Seq = uint64(take(4))
	r.Seq += uint64(take(4)) << 32
	ok := false
	switch r.Kind {
	case 1:
		r.At = take(2)
		ok = r.At <= 510
	case 2, 3:
		n, most := take(1), 24
		if r.Kind == 3 {
			most = 28
		}
		if n > most {
			return api.Record{}, false
		}
		for range n {
			r.Homes = append(r.Homes, take(2))
		}
		ok = listed(r.Homes, most)
		for i := 0; i < n && r.Kind == 2; i++ {
			m := take(1)
			ok = ok && m < 2
			r.Masked = append(r.Masked, m == 1)
		}
	case 4:
		r.Sum = uint32(take(4))
		ok = true
	}
	if !ok || strings.Trim(block[next:], "\x00") != "" {
		return api.Record{}, false
	}
	return r, true
}

// same holds two records against each other; a list may be nil or empty.
func same(a, b api.Record) bool {
	return a.Kind == b.Kind && a.Seq == b.Seq && a.At == b.At && a.Sum == b.Sum && slices.Equal(a.Homes, b.Homes) && slices.Equal(a.Masked, b.Masked)
}

// isZero tells whether a record is the one beside an error.
func isZero(r api.Record) bool {
	return same(r, api.Record{}) && len(r.Homes) == 0 && len(r.Masked) == 0
}

// encodes holds what Encode tells of a record against the story, and what Decode makes of it against the record.
func encodes(t *testing.T, r api.Record, valid bool) {
	t.Helper()
	kept := copied(r)
	want, ok := story(r)
	if ok != valid {
		t.Fatal("the story says otherwise:", r, ok)
	}
	s, e := Encode(r)
	if !reflect.DeepEqual(r, kept) {
		t.Fatal("the record was changed:", r, kept)
	}
	if !ok {
		if s != "" || e != api.ErrArg {
			t.Fatalf("%v is %q, %v", r, s, e)
		}
		return
	}
	if s != want || e != api.OK {
		t.Fatalf("%v is %q, %v, wanted %q", r, s, e, want)
	}
	if x, e := Decode(s); !same(x, r) || e != api.OK {
		t.Fatalf("%v is had back as %v, %v", r, x, e)
	}
	if x, masked := Mask(s); !masked || x == s || Unmask(x) != s {
		t.Fatalf("%v is masked as %q, %v", r, x, masked)
	} else if y, e := Decode(x); !isZero(y) || e != api.ErrForm {
		t.Fatal(r, "masked is still a record:", y, e)
	}
}

// copied is a record with the same lists in memory of its own, up to what they have room for.
func copied(r api.Record) api.Record {
	r.Homes = append(r.Homes[:0:0], r.Homes...)
	r.Masked = append(r.Masked[:0:0], r.Masked...)
	return r
}

// decodes holds what Decode tells of a block against what is read from it byte by byte.
func decodes(t *testing.T, block string, valid bool) {
	t.Helper()
	want, ok := parsed(block)
	if ok != valid {
		t.Fatalf("read byte by byte %q is otherwise: %v", block, ok)
	}
	held(t, block)
	if ok {
		if s, e := Encode(want); s != block || e != api.OK {
			t.Fatalf("%v is %q, %v, wanted %q", want, s, e, block)
		}
	}
}

func held(t *testing.T, block string) bool {
	t.Helper()
	want, ok := parsed(block)
	r, e := Decode(block)
	if ok && (!same(r, want) || e != api.OK) {
		t.Fatalf("%q is %v, %v, wanted %v", block, r, e, want)
	}
	if !ok && (!isZero(r) || e != api.ErrForm) {
		t.Fatalf("%q is %v, %v, and no record", block, r, e)
	}
	return ok
}

// someRecords are valid records of each kind: the least and the greatest ones, and some between.
func someRecords() []api.Record {
	return []api.Record{
		{Kind: api.RecHead},
		{Kind: api.RecHead, Seq: 258, At: 510},
		{Kind: api.RecHead, Seq: math.MaxUint64, At: 255},
		{Kind: api.RecHead, Seq: 1 << 63, At: 256},
		{Kind: api.RecDesc, Homes: []int{0}, Masked: []bool{false}},
		{Kind: api.RecDesc, Homes: []int{4095}, Masked: []bool{true}},
		{Kind: api.RecDesc, Seq: 0x0102030405060708, Homes: []int{5, 300}, Masked: []bool{false, true}},
		{Kind: api.RecDesc, Seq: 9, Homes: rising(24, 0, 1), Masked: slices.Repeat([]bool{true}, 24)},
		{Kind: api.RecDesc, Seq: math.MaxUint64, Homes: rising(24, 4072, 1), Masked: flags(24, 0)},
		{Kind: api.RecDesc, Homes: rising(23, 3, 170), Masked: flags(23, 2)},
		{Kind: api.RecRevoke, Homes: []int{0}},
		{Kind: api.RecRevoke, Homes: []int{4095}},
		{Kind: api.RecRevoke, Seq: math.MaxUint64, Homes: []int{0, 1, 4094, 4095}},
		{Kind: api.RecRevoke, Seq: 1, Homes: rising(28, 4068, 1)},
		{Kind: api.RecRevoke, Seq: 2, Homes: rising(28, 0, 151)},
		{Kind: api.RecCommit},
		{Kind: api.RecCommit, Seq: 258, Sum: 1},
		{Kind: api.RecCommit, Seq: math.MaxUint64, Sum: math.MaxUint32},
		{Kind: api.RecCommit, Sum: 0x80000000},
	}
}

// P8.1: the chapter's examples.
func TestExamples(t *testing.T) {
	s, e := Encode(api.Record{Kind: api.RecCommit, Seq: 258, Sum: 1})
	first := string([]byte{71, 76, 74, 119, 4, 2, 1, 0, 0, 0, 0, 0, 0, 1, 0, 0, 0, 0})
	if e != api.OK || s != padded(first) {
		t.Errorf("%q, %v", s, e)
	}
	d, e := Encode(api.Record{Kind: api.RecDesc, Homes: []int{5, 300}, Masked: []bool{false, true}})
	if e != api.OK || len(d) != 128 || d[13:] != string([]byte{2, 5, 0, 44, 1, 0, 1})+zeros(108) {
		t.Errorf("%q, %v", d, e)
	}
	for _, r := range []api.Record{
		{Kind: api.RecHead, At: 511},
		{Kind: api.RecRevoke, Homes: []int{2, 1}},
		{Kind: api.RecCommit, At: 1},
		{Kind: 5},
	} {
		if s, e := Encode(r); s != "" || e != api.ErrArg {
			t.Errorf("%v is %q, %v", r, s, e)
		}
	}
	for _, block := range []string{zeros(128), s[:127], zeros(127), s[:127] + "\x01"} {
		if r, e := Decode(block); !isZero(r) || e != api.ErrForm {
			t.Errorf("%q is %v, %v", block, r, e)
		}
	}
	if x, masked := Mask(s); x != zeros(4)+s[4:] || !masked {
		t.Errorf("%q, %v", x, masked)
	}
	if x, masked := Mask(zeros(128)); x != zeros(128) || masked {
		t.Errorf("%q, %v", x, masked)
	}
}

// P8.1, P8.3: valid records of each kind, to the byte.
func TestRecords(t *testing.T) {
	for _, r := range someRecords() {
		encodes(t, r, true)
	}
}

// P8.1: an At from 0 to 510 and no other, and not modulo what two bytes hold.
func TestAt(t *testing.T) {
	for at := -3; at < 600; at++ {
		encodes(t, api.Record{Kind: api.RecHead, Seq: 7, At: at}, 0 <= at && at <= 510)
	}
	for _, at := range []int{math.MinInt, math.MinInt + 1, -65536, -65535, -511, -510, -256, 1023, 32768, 65535, 65536, 65537, 65536 + 510, 1 << 32, 1<<32 + 1, math.MaxInt - 1, math.MaxInt} {
		encodes(t, api.Record{Kind: api.RecHead, At: at}, false)
	}
	for at := range 65536 {
		decodes(t, padded("GLJw\x01"+low(3, 8)+low(uint64(at), 2)), at <= 510)
	}
}

// P8.1: a descriptor has 1 to 24 homes, a revoke record 1 to 28.
func TestHowManyHomes(t *testing.T) {
	for n := range 300 {
		homes := rising(n, 11, 13)
		encodes(t, api.Record{Kind: api.RecDesc, Homes: homes, Masked: flags(n, 0)}, 1 <= n && n <= 24)
		encodes(t, api.Record{Kind: api.RecRevoke, Homes: homes}, 1 <= n && n <= 28)
	}
	for _, n := range []int{1024, 4096, 65536, 65537} {
		encodes(t, api.Record{Kind: api.RecDesc, Homes: rising(n, 0, 1), Masked: flags(n, 0)}, false)
		encodes(t, api.Record{Kind: api.RecRevoke, Homes: rising(n, 0, 1)}, false)
	}
	for _, kind := range []int{api.RecDesc, api.RecRevoke} {
		for _, none := range [][]int{nil, {}} {
			encodes(t, api.Record{Kind: kind, Homes: none}, false)
			encodes(t, api.Record{Kind: kind, Homes: none, Masked: []bool{}}, false)
		}
	}
}

// listing is a record of a kind that has homes, with those homes.
func listing(kind int, homes ...int) api.Record {
	r := api.Record{Kind: kind, Seq: 5, Homes: homes}
	if kind == api.RecDesc {
		r.Masked = flags(len(homes), 1)
	}
	return r
}

// P8.1: homes from 0 to 4095 and no others, at each place of a list.
func TestWhichHomes(t *testing.T) {
	for _, kind := range []int{api.RecDesc, api.RecRevoke} {
		for home := -3; home < 4200; home++ {
			encodes(t, listing(kind, home), 0 <= home && home <= 4095)
		}
		for _, home := range []int{math.MinInt, math.MinInt + 1, -65536, -65531, -4096, -256, -1, 4096, 4097, 65535, 65536, 65541, 1 << 32, 1<<32 + 5, math.MaxInt - 1, math.MaxInt} {
			encodes(t, listing(kind, home), false)
			encodes(t, listing(kind, 5, home), false)
			encodes(t, listing(kind, home, 5), false)
			encodes(t, listing(kind, 5, home, 7), false)
			encodes(t, listing(kind, append(rising(23, 0, 1), home)...), false)
		}
		encodes(t, listing(kind, 0, 4095), true)
		encodes(t, listing(kind, 0, 1, 2, 4094, 4095), true)
		encodes(t, listing(kind, 4094, 4095, 4096), false)
		encodes(t, listing(kind, -1, 0, 1), false)
	}
}

// P8.1: homes ascend, with no two equal, at each place of a list.
func TestHomesAscend(t *testing.T) {
	for _, kind := range []int{api.RecDesc, api.RecRevoke} {
		encodes(t, listing(kind, 2, 1), false)
		encodes(t, listing(kind, 2, 2), false)
		encodes(t, listing(kind, 0, 0), false)
		encodes(t, listing(kind, 4095, 4095), false)
		encodes(t, listing(kind, 1, 2), true)
		encodes(t, listing(kind, 1, 3, 2), false)
		encodes(t, listing(kind, 3, 1, 2), false)
		// By their low bytes alone 256 and 255 would descend, and 1 and 257 be equal.
		encodes(t, listing(kind, 255, 256), true)
		encodes(t, listing(kind, 1, 257), true)
		encodes(t, listing(kind, 256, 255), false)
		for i := range 23 {
			homes := rising(24, 100, 2)
			encodes(t, listing(kind, homes...), true)
			homes[i]++
			encodes(t, listing(kind, homes...), true)
			homes[i]++
			encodes(t, listing(kind, homes...), false)
			homes[i]++
			encodes(t, listing(kind, homes...), false)
		}
	}
}

// P8.1: a descriptor has a boolean for each home; a list that another kind has not is nil or empty.
func TestHowManyMasked(t *testing.T) {
	for n := 1; n <= 24; n++ {
		for m := range 30 {
			encodes(t, api.Record{Kind: api.RecDesc, Homes: rising(n, 1, 5), Masked: flags(m, 0)}, m == n)
			encodes(t, api.Record{Kind: api.RecRevoke, Homes: rising(n, 1, 5), Masked: flags(m, 0)}, m == 0)
		}
		encodes(t, api.Record{Kind: api.RecDesc, Homes: rising(n, 1, 5)}, false)
		encodes(t, api.Record{Kind: api.RecDesc, Homes: rising(n, 1, 5), Masked: []bool{}}, false)
		encodes(t, api.Record{Kind: api.RecRevoke, Homes: rising(n, 1, 5), Masked: []bool{}}, true)
	}
	for _, kind := range []int{api.RecHead, api.RecCommit} {
		encodes(t, api.Record{Kind: kind, Homes: []int{}, Masked: []bool{}}, true)
		encodes(t, api.Record{Kind: kind, Homes: nil, Masked: []bool{}}, true)
		encodes(t, api.Record{Kind: kind, Homes: []int{}, Masked: nil}, true)
	}
}

// P8.1: each boolean has a byte of its own.
func TestMaskedBytes(t *testing.T) {
	for _, n := range []int{1, 2, 23, 24} {
		for i := range n {
			masked := make([]bool, n)
			masked[i] = true
			encodes(t, api.Record{Kind: api.RecDesc, Homes: rising(n, 0, 3), Masked: masked}, true)
			s, _ := Encode(api.Record{Kind: api.RecDesc, Homes: rising(n, 0, 3), Masked: masked})
			if want := zeros(i) + "\x01" + zeros(128-14-2*n-i-1); s[14+2*n:] != want {
				t.Errorf("%d of %d: %q", i, n, s)
			}
		}
	}
}

// P8.1: a field that is another kind's is zero or empty, whatever else is right.
func TestOtherFields(t *testing.T) {
	for _, r := range someRecords() {
		for _, at := range []int{1, 255, 510, 511, -1, math.MinInt, math.MaxInt, 1 << 32} {
			if x := r; r.Kind != api.RecHead {
				x.At = at
				encodes(t, x, false)
			}
		}
		for _, sum := range []uint32{1, 256, 1 << 31, math.MaxUint32} {
			if x := r; r.Kind != api.RecCommit {
				x.Sum = sum
				encodes(t, x, false)
			}
		}
		for _, homes := range [][]int{{0}, {1}, {4095}, {1, 2}, {-1}} {
			if x := r; r.Kind == api.RecHead || r.Kind == api.RecCommit {
				x.Homes = homes
				encodes(t, x, false)
				x.Masked = make([]bool, len(homes))
				encodes(t, x, false)
			}
		}
		for _, masked := range [][]bool{{false}, {true}, {false, false}, make([]bool, len(r.Homes))} {
			if x := r; r.Kind != api.RecDesc && len(masked) > 0 {
				x.Masked = masked
				encodes(t, x, false)
			}
		}
	}
}

// P8.1: Seq may be anything, and so may a commit's Sum.
func TestSeqAndSum(t *testing.T) {
	for bit := range 64 {
		for _, seq := range []uint64{1<<bit - 1, 1 << bit, 1<<bit + 1, math.MaxUint64 - 1<<bit, math.MaxUint64} {
			for _, r := range someRecords() {
				r.Seq = seq
				encodes(t, r, true)
			}
			encodes(t, api.Record{Kind: api.RecCommit, Seq: seq, Sum: uint32(seq)}, true)
			encodes(t, api.Record{Kind: 0, Seq: seq}, false)
		}
	}
}

// P8.1: there are four kinds, and no others, whatever the fields and whatever a byte holds of the kind.
func TestKinds(t *testing.T) {
	kinds := []int{math.MinInt, math.MinInt + 1, math.MinInt + 4, -256, -255, -252, -4, -1, 256, 257, 258, 259, 260, 1<<32 + 1, 1<<32 + 4, math.MaxInt - 1, math.MaxInt}
	for kind := range 256 {
		kinds = append(kinds, kind)
	}
	for _, kind := range kinds {
		bare := kind == api.RecHead || kind == api.RecCommit
		encodes(t, api.Record{Kind: kind}, bare)
		encodes(t, api.Record{Kind: kind, Seq: math.MaxUint64}, bare)
		encodes(t, api.Record{Kind: kind, At: 1}, kind == api.RecHead)
		encodes(t, api.Record{Kind: kind, Sum: 1}, kind == api.RecCommit)
		encodes(t, api.Record{Kind: kind, Homes: []int{1}}, kind == api.RecRevoke)
		encodes(t, api.Record{Kind: kind, Homes: []int{1}, Masked: []bool{true}}, kind == api.RecDesc)
	}
	for kind := range 256 {
		bare := kind == api.RecHead || kind == api.RecCommit
		decodes(t, padded("GLJw"+low(uint64(kind), 1)), bare)
		decodes(t, counted(kind, 1, []int{1}, ""), kind >= 1 && kind <= 4)
		decodes(t, counted(kind, 2, []int{1, 258}, "\x01\x01"), kind == api.RecDesc)
		decodes(t, counted(kind, 2, []int{1, 258}, ""), kind == api.RecDesc || kind == api.RecRevoke)
	}
}

// P8.1: no string that is shorter or longer than a block is one, though all else be right.
func TestDecodeLengths(t *testing.T) {
	for _, r := range someRecords() {
		s, _ := Encode(r)
		for n := range 128 {
			decodes(t, s[:n], false)
			decodes(t, s[n+1:], false)
		}
		decodes(t, s, true)
		for _, n := range []int{1, 2, 127, 128, 129, 1 << 16, 1 << 20} {
			decodes(t, s+zeros(n), false)
			decodes(t, zeros(n)+s, false)
		}
		decodes(t, s+s, false)
		decodes(t, s+"\x01", false)
	}
	for _, n := range []int{0, 1, 3, 4, 5, 12, 13, 14, 127, 128, 129, 256} {
		decodes(t, zeros(n), false)
		decodes(t, strings.Repeat("\xff", n), false)
		decodes(t, strings.Repeat("GLJw", n)[:n], false)
	}
}

// P8.1: each byte of each kind's block, changed to each other value, makes a record just where the chapter allows it.
func TestDecodeBytes(t *testing.T) {
	for _, r := range someRecords() {
		s, _ := Encode(r)
		for i := range s {
			for c := range 256 {
				block := s[:i] + string([]byte{byte(c)}) + s[i+1:]
				valid := held(t, block)
				if i < 4 && valid != (block == s) {
					t.Fatalf("%q: %v", block, valid)
				}
				if i >= 5 && i < 13 && !valid {
					t.Fatalf("%q: a Seq is refused", block)
				}
			}
		}
	}
}

// P8.1: each byte behind the last field is 0.
func TestDecodeRest(t *testing.T) {
	for _, r := range someRecords() {
		s, _ := Encode(r)
		end := 13
		switch r.Kind {
		case api.RecHead:
			end += 2
		case api.RecDesc:
			end += 1 + 3*len(r.Homes)
		case api.RecRevoke:
			end += 1 + 2*len(r.Homes)
		case api.RecCommit:
			end += 4
		}
		for i := end; i < 128; i++ {
			for _, c := range []string{"\x01", "\x02", "\x80", "\xff"} {
				decodes(t, s[:i]+c+s[i+1:], false)
			}
		}
	}
}

// P8.1: counts of homes of which there is none, one more than there may be, and more than a block has room for.
func TestDecodeCounts(t *testing.T) {
	for count := range 256 {
		homes := rising(count, 1, 1)
		for _, behind := range []string{"", "\x01", zeros(24)} {
			decodes(t, counted(api.RecDesc, count, homes, behind), 1 <= count && count <= 24)
			decodes(t, counted(api.RecRevoke, count, homes, behind), 1 <= count && count <= 28 && behind != "\x01")
		}
		for _, kind := range []int{api.RecDesc, api.RecRevoke} {
			decodes(t, counted(kind, count, nil, ""), count == 1)
			decodes(t, counted(kind, count, nil, strings.Repeat("\xff", 128)), false)
			// One home more than counted: of a descriptor its bytes would be Masked's.
			decodes(t, counted(kind, count, rising(count+1, 2, 1), ""), false)
		}
	}
}

// P8.1: a Masked byte is 0 or 1, at each place.
func TestDecodeMasked(t *testing.T) {
	for _, n := range []int{1, 2, 24} {
		for i := range n {
			for c := range 256 {
				behind := zeros(i) + string([]byte{byte(c)})
				decodes(t, counted(api.RecDesc, n, rising(n, 9, 9), behind), c < 2)
			}
		}
		decodes(t, counted(api.RecDesc, n, rising(n, 9, 9), strings.Repeat("\x01", n)), true)
		decodes(t, counted(api.RecDesc, n, rising(n, 9, 9), strings.Repeat("\x01", n+1)), false)
		decodes(t, counted(api.RecDesc, n, rising(n, 9, 9), zeros(n)+"\x01"), false)
	}
}

// P8.1: homes that do not ascend, or are out of range, are no record's.
func TestDecodeHomes(t *testing.T) {
	for _, kind := range []int{api.RecDesc, api.RecRevoke} {
		for home := range 65536 {
			decodes(t, counted(kind, 1, []int{home}, ""), home < 4096)
		}
		for _, x := range []struct {
			homes []int
			valid bool
		}{
			{[]int{1, 2}, true}, {[]int{2, 1}, false}, {[]int{2, 2}, false}, {[]int{0, 0}, false},
			{[]int{255, 256}, true}, {[]int{256, 255}, false}, {[]int{0, 4095}, true}, {[]int{0, 4096}, false},
			{[]int{4096, 1}, false}, {[]int{4095, 4096}, false}, {[]int{1, 2, 65535}, false}, {[]int{1, 3, 2}, false},
			{[]int{1, 2, 2, 3}, false}, {[]int{1, 2, 3, 4}, true}, {rising(24, 4072, 1), true}, {rising(24, 4073, 1), false},
		} {
			decodes(t, counted(kind, len(x.homes), x.homes, ""), x.valid)
		}
	}
}

// P8.1, P8.3: blocks that were made up, or changed in a few places, are records just where the chapter says so, and go back to the same block.
func TestMadeUpBlocks(t *testing.T) {
	from := rand.New(rand.NewSource(8))
	good := someRecords()
	valid := 0
	for range 100000 {
		s, _ := Encode(good[from.Intn(len(good))])
		b := []byte(s)
		for range from.Intn(4) {
			b[from.Intn(100)] = byte(from.Intn(5)) * byte(1+from.Intn(60))
		}
		if block := string(b); held(t, block) {
			valid++
			decodes(t, block, true)
		}
	}
	if valid < 20000 || valid > 90000 {
		t.Error("so many of them are records:", valid)
	}
	for range 10000 {
		b := make([]byte, 128)
		for i := range b {
			b[i] = byte(from.Intn(256))
		}
		decodes(t, string(b), false)
		copy(b, "GLJw")
		b[4] = byte(1 + from.Intn(4))
		held(t, string(b))
	}
}

// P8.1, P8.3: records that were made up, valid or not, and back.
func TestMadeUpRecords(t *testing.T) {
	from := rand.New(rand.NewSource(80))
	valid := 0
	for range 50000 {
		r := api.Record{Kind: from.Intn(6), Seq: from.Uint64() >> from.Intn(64)}
		if r.Kind == 1 || from.Intn(9) == 0 {
			r.At = from.Intn(520) - 4
		}
		if r.Kind == 4 || from.Intn(9) == 0 {
			r.Sum = from.Uint32() >> from.Intn(33)
		}
		if r.Kind == 2 || r.Kind == 3 || from.Intn(9) == 0 {
			for home := from.Intn(160) - 1; len(r.Homes) < 30 && from.Intn(20) > 0; home += 1 + from.Intn(300) - from.Intn(2) {
				r.Homes = append(r.Homes, home)
			}
		}
		if r.Kind == 2 || from.Intn(9) == 0 {
			r.Masked = flags(max(0, len(r.Homes)-from.Intn(9)/8), from.Intn(3))
		}
		_, ok := story(r)
		encodes(t, r, ok)
		if ok {
			valid++
		}
	}
	if valid < 10000 {
		t.Error("so few of them are valid:", valid)
	}
}

// P8.2: what begins with the magic number loses it, whatever comes behind; all else stays.
func TestMask(t *testing.T) {
	for _, x := range []struct {
		s, want string
		masked  bool
	}{
		{"", "", false},
		{"G", "G", false},
		{"GL", "GL", false},
		{"GLJ", "GLJ", false},
		{"GLJw", zeros(4), true},
		{"GLJwa", zeros(4) + "a", true},
		{"GLJw\xff\x00", zeros(4) + "\xff\x00", true},
		{"GLJwGLJw", zeros(4) + "GLJw", true},
		{"GLJW", "GLJW", false},
		{"aGLJw", "aGLJw", false},
		{"wJLG", "wJLG", false},
		{zeros(4), zeros(4), false},
		{zeros(5), zeros(5), false},
		{zeros(4) + "GLJw", zeros(4) + "GLJw", false},
		{zeros(3) + "GLJw", zeros(3) + "GLJw", false},
		{zeros(128), zeros(128), false},
		{padded("GLJw"), zeros(128), true},
		{strings.Repeat("GLJw", 32), zeros(4) + strings.Repeat("GLJw", 31), true},
		{strings.Repeat("GLJw", 1<<16), zeros(4) + strings.Repeat("GLJw", 1<<16-1), true},
		{strings.Repeat("a", 1<<16), strings.Repeat("a", 1<<16), false},
	} {
		if s, masked := Mask(x.s); s != x.want || masked != x.masked {
			t.Errorf("Mask of %.9q = %.9q, %v", x.s, s, masked)
		}
	}
	for i := range 4 {
		for c := range 256 {
			s := "GLJw"[:i] + string([]byte{byte(c)}) + "GLJw"[i+1:] + "rest"
			x, masked := Mask(s)
			if want := byte(c) == "GLJw"[i]; masked != want || masked && x != zeros(4)+"rest" || !masked && x != s {
				t.Errorf("Mask of %q = %q, %v", s, x, masked)
			}
		}
	}
}

// P8.2: whatever has four bytes begins with the magic number then, and whatever has fewer stays.
func TestUnmask(t *testing.T) {
	for _, x := range []struct{ s, want string }{
		{"", ""},
		{"a", "a"},
		{"ab", "ab"},
		{"abc", "abc"},
		{zeros(1), zeros(1)},
		{zeros(3), zeros(3)},
		{"abcd", "GLJw"},
		{"abcde", "GLJwe"},
		{zeros(4), "GLJw"},
		{zeros(5), "GLJw\x00"},
		{zeros(128), padded("GLJw")},
		{"GLJw", "GLJw"},
		{"GLJwGLJw", "GLJwGLJw"},
		{strings.Repeat("\xff", 128), "GLJw" + strings.Repeat("\xff", 124)},
		{strings.Repeat("xyz", 1<<16), "GLJwyz" + strings.Repeat("xyz", 1<<16-2)},
	} {
		if s := Unmask(x.s); s != x.want {
			t.Errorf("Unmask of %.9q = %.9q", x.s, s)
		}
	}
}

// P8.3: what was masked is unmasked to what it was, and nothing that Mask returns is a record or would be masked again.
func TestMasking(t *testing.T) {
	from := rand.New(rand.NewSource(83))
	for range 20000 {
		b := make([]byte, []int{0, 1, 2, 3, 4, 5, 8, 127, 128, 129, 300}[from.Intn(11)])
		for i := range b {
			b[i] = "GLJw\x00\x01\x02\x03\x04a"[from.Intn(10)]
		}
		if from.Intn(2) == 0 {
			copy(b, "GLJw"[:from.Intn(5)])
		}
		s := string(b)
		x, masked := Mask(s)
		if len(x) != len(s) || len(x) >= 4 && x[:4] == "GLJw" || masked != (x != s) {
			t.Fatalf("Mask of %q = %q, %v", s, x, masked)
		}
		if masked && Unmask(x) != s {
			t.Fatalf("%q is masked to %q, and unmasked to %q", s, x, Unmask(x))
		}
		if y, again := Mask(x); y != x || again {
			t.Fatalf("%q is masked to %q, and again to %q", s, x, y)
		}
		if r, e := Decode(x); !isZero(r) || e != api.ErrForm {
			t.Fatalf("%q is masked to %q, which is %v, %v", s, x, r, e)
		}
		if y := Unmask(s); len(y) != len(s) || Unmask(y) != y {
			t.Fatalf("Unmask of %q = %q", s, y)
		}
	}
}

// R4: what is handed in is neither changed nor kept, even where its lists have room for more.
func TestHandedIn(t *testing.T) {
	homes := []int{3, 5, 9, 9, 9, 9}
	masked := []bool{true, false, true, true, true}
	r := api.Record{Kind: api.RecDesc, Seq: 4, Homes: homes[:3], Masked: masked[:3]}
	s, e := Encode(r)
	if e != api.OK {
		t.Fatal(e)
	}
	if !slices.Equal(homes, []int{3, 5, 9, 9, 9, 9}) || !slices.Equal(masked, []bool{true, false, true, true, true}) || len(r.Homes) != 3 || len(r.Masked) != 3 {
		t.Error(homes, masked)
	}
	homes[0], masked[0] = 4, false
	want := api.Record{Kind: api.RecDesc, Seq: 4, Homes: []int{3, 5, 9}, Masked: []bool{true, false, true}}
	if x, e := Decode(s); !same(x, want) || e != api.OK {
		t.Error(x, e)
	}
	if again, e := Encode(r); again == s || e != api.OK {
		t.Error("what was handed in first is encoded again:", e)
	}
}

// R2, R4: lists that are returned are new each time, and changing them, or adding to them, changes nothing else.
func TestReturned(t *testing.T) {
	for _, r := range someRecords() {
		s, _ := Encode(r)
		a, _ := Decode(s)
		b, _ := Decode(s)
		for i := range a.Homes {
			a.Homes[i] = -1
		}
		for i := range a.Masked {
			a.Masked[i] = !a.Masked[i]
		}
		_ = append(a.Homes, -7, -7, -7)
		_ = append(a.Masked, true, true, true)
		if !same(b, r) {
			t.Fatal(r, "is now", b)
		}
		if c, e := Decode(s); !same(c, r) || e != api.OK {
			t.Fatal(r, "is decoded anew as", c, e)
		}
	}
}

// R1, R2, R5: whatever is wrong at once, there is one error, told twice the same.
func TestManyWrong(t *testing.T) {
	for _, r := range []api.Record{
		{},
		{Kind: -1, At: -1, Homes: []int{-1, -1}, Masked: []bool{true}, Sum: 9},
		{Kind: api.RecHead, At: 511, Homes: []int{5000}, Sum: 1},
		{Kind: api.RecDesc, At: -1, Homes: rising(30, 4090, 1), Masked: flags(3, 0)},
		{Kind: api.RecDesc, Homes: []int{math.MaxInt, math.MinInt}, Masked: []bool{true, true}},
		{Kind: api.RecRevoke, At: 1, Sum: 1, Homes: rising(29, -3, 0), Masked: flags(1, 0)},
		{Kind: api.RecCommit, At: math.MinInt, Homes: []int{}, Masked: []bool{false}, Sum: 1},
	} {
		for range 2 {
			encodes(t, r, false)
		}
	}
	for _, s := range []string{"", "GLJ", "GLJw", "GLJw\x02", counted(2, 255, nil, strings.Repeat("\xff", 200)), "GLJw" + strings.Repeat("\xff", 124)} {
		for range 2 {
			decodes(t, s, false)
		}
	}
}
