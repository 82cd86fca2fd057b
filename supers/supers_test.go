package supers

import (
	"math"
	"math/rand"
	"slices"
	"strings"
	"testing"

	"glissade/api"
	"glissade/records"
)

// zeros is so many zero bytes.
func zeros(n int) string { return strings.Repeat("\x00", n) }

// row is a superblock's ten numbers in the order in which the block has them.
type row [10]int

// Where a row has what.
const (
	blocksIn = iota
	logIn
	inodesIn
	cursorIn
	inodeIn
	logicalIn
	fromIn
	toIn
	lenIn
	movedIn
)

// super is the superblock of a row.
func (r row) super() api.Super {
	return api.Super{
		Blocks: r[0], Log: r[1], Inodes: r[2], Cursor: r[3],
		Inode: r[4], Logical: r[5], From: r[6], To: r[7], Len: r[8], Moved: r[9],
	}
}

// rowOf is the row of a superblock.
func rowOf(s api.Super) row {
	return row{s.Blocks, s.Log, s.Inodes, s.Cursor, s.Inode, s.Logical, s.From, s.To, s.Len, s.Moved}
}

// with is a row with another number at one place.
func (r row) with(i, n int) row {
	r[i] = n
	return r
}

// block is what a row's block is: the name, and each number in four bytes, told by divisions; the numbers are not below 0.
func (r row) block() string {
	b := []byte("glissade")
	for _, n := range r {
		for range 4 {
			b = append(b, byte(n%256))
			n /= 256
		}
	}
	return string(b) + zeros(80)
}

// laid tells whether a device may be laid out so, by laying it.
func laid(blocks, log, inodes int) bool {
	if blocks < 256 || blocks > 4096 || log < 128 || log > 512 || inodes < 8 || inodes > 512 || inodes&1 == 1 {
		return false
	}
	before := 1 + log
	for bits := 0; bits < blocks; bits += 1024 {
		before++
	}
	for n := 0; n < inodes; n += 2 {
		before++
	}
	return before+16 <= blocks
}

// valid tells whether a row's superblock is valid, as the chapter tells it. The cursor and the move are held against what lies before and behind them, with no differences.
func (r row) valid() bool {
	if !laid(r[blocksIn], r[logIn], r[inodesIn]) || r[cursorIn] < 0 || r[cursorIn] > r[blocksIn] {
		return false
	}
	if [6]int(r[inodeIn:]) == [6]int{} {
		return true
	}
	for _, n := range r {
		if n < 0 || n > 4096 {
			return false
		}
	}
	return r[lenIn] >= 2 && r[movedIn] > 0 && r[movedIn] < r[lenIn] && r[inodeIn] < r[inodesIn] &&
		r[logicalIn]+r[lenIn] <= 2048 && r[fromIn]+r[lenIn] <= r[blocksIn] && r[toIn]+r[lenIn] <= r[blocksIn]
}

// takes holds all three functions against what the chapter tells of a superblock.
func takes(t *testing.T, r row, valid bool) {
	t.Helper()
	if r.valid() != valid {
		t.Fatal("the story says otherwise:", r, r.valid())
	}
	s := r.super()
	for range 2 {
		if got := Check(s); got != valid {
			t.Fatal(r, "is checked as", got)
		}
		block, e := Encode(s)
		if !valid {
			if block != "" || e != api.ErrArg {
				t.Fatalf("%v is %q, %v", r, block, e)
			}
			continue
		}
		if want := r.block(); block != want || e != api.OK {
			t.Fatalf("%v is %q, %v, wanted %q", r, block, e, want)
		}
		if x, e := Decode(block); x != s || e != api.OK {
			t.Fatal(r, "is had back as", x, e)
		}
		if x, e := records.Decode(block); x.Kind != 0 || e != api.ErrForm {
			t.Fatal(r, "is a record:", x, e)
		}
	}
}

// parsed is the row that a block has, read from it byte by byte, and whether it is a superblock's.
func parsed(block string) (row, bool) {
	var r row
	if len(block) != 128 || !strings.HasPrefix(block, "glissade") || strings.Trim(block[48:], "\x00") != "" {
		return row{}, false
	}
	for i := range r {
		for place := 3; place >= 0; place-- {
			r[i] = 256*r[i] + int(block[8+4*i+place])
		}
	}
	if !r.valid() {
		return row{}, false
	}
	return r, true
}

// decodes holds what Decode tells of a block against what is read from it byte by byte, and tells whether it is a superblock's.
func decodes(t *testing.T, block string) bool {
	t.Helper()
	want, ok := parsed(block)
	for range 2 {
		s, e := Decode(block)
		if !ok {
			if s != (api.Super{}) || e != api.ErrForm {
				t.Fatalf("%q is %v, %v, and no superblock", block, s, e)
			}
			continue
		}
		if s != want.super() || e != api.OK {
			t.Fatalf("%q is %v, %v, wanted %v", block, s, e, want)
		}
		if again, e := Encode(s); again != block || e != api.OK {
			t.Fatalf("%q goes back to %q, %v", block, again, e)
		}
	}
	return ok
}

// refuses holds that a block is no superblock's.
func refuses(t *testing.T, block string) {
	t.Helper()
	if decodes(t, block) {
		t.Fatalf("%q is a superblock's", block)
	}
}

// resting are superblocks without a move: the smallest layouts, the largest one, those with the fewest blocks of data, and cursors at both ends.
func resting() []row {
	return []row{
		{256, 128, 8},
		{256, 128, 8, 134},
		{256, 128, 8, 256},
		{256, 128, 220, 255},
		{256, 200, 76, 1},
		{257, 129, 10, 200},
		{1024, 300, 100, 1023},
		{1025, 300, 100, 1025},
		{4096, 128, 8},
		{4096, 512, 512, 773},
		{4096, 512, 512, 4096},
	}
}

// sliding are superblocks with a move: each of its numbers is the least or the greatest one in some of them.
func sliding() []row {
	return []row{
		{256, 128, 8, 0, 7, 3, 200, 190, 4, 3},
		{256, 128, 8, 134, 0, 0, 0, 0, 2, 1},
		{256, 128, 8, 256, 7, 2046, 254, 254, 2, 1},
		{256, 128, 8, 17, 1, 1792, 0, 0, 256, 255},
		{256, 128, 220, 17, 205, 1, 1, 2, 128, 64},
		{1500, 200, 50, 1499, 49, 548, 0, 0, 1500, 1},
		{4096, 512, 512, 4096, 511, 2046, 4094, 773, 2, 1},
		{4096, 512, 512, 0, 300, 0, 2048, 2047, 2048, 2047},
		{4096, 512, 512, 773, 256, 1000, 1000, 3000, 1000, 500},
		{4096, 128, 8, 258, 0, 2040, 4000, 258, 8, 7},
	}
}

// some are valid superblocks of both kinds.
func some() []row { return slices.Concat(resting(), sliding()) }

// far are numbers that no field of a superblock may have, the ends of an int and of what is cut to four bytes among them.
func far() []int {
	return []int{
		math.MinInt, math.MinInt + 1, math.MinInt + 2, math.MinInt + 256, math.MinInt + 4096, -1 << 32, -1 << 31, -4096, -256, -8, -2, -1,
		4097, 65536, 65536 + 256, 1<<24 + 2, 1<<31 - 1, 1 << 31, 1<<31 + 2, 1<<32 - 1, 1 << 32, 1<<32 + 1, 1<<32 + 2, 1<<32 + 256,
		math.MaxInt - 4096, math.MaxInt - 2, math.MaxInt - 1, math.MaxInt,
	}
}

// P10.1: the chapter's examples.
func TestExamples(t *testing.T) {
	block, e := Encode(api.Super{Blocks: 256, Log: 128, Inodes: 8, Cursor: 134})
	fields := string([]byte{0, 1, 0, 0, 128, 0, 0, 0, 8, 0, 0, 0, 134, 0, 0, 0})
	if e != api.OK || block != "glissade"+fields+zeros(104) {
		t.Fatalf("%q, %v", block, e)
	}
	for _, x := range []struct {
		s    api.Super
		want bool
	}{
		{api.Super{Blocks: 256, Log: 128, Inodes: 8, Cursor: 256}, true},
		{api.Super{Blocks: 256, Log: 128, Inodes: 8, Cursor: 257}, false},
		{api.Super{Blocks: 256, Log: 128, Inodes: 8, Cursor: -1}, false},
		{api.Super{Blocks: 256, Log: 128, Inodes: 9}, false},
		{api.Super{Blocks: 256, Log: 128, Inodes: 8, Inode: 7, Logical: 3, From: 200, To: 190, Len: 4, Moved: 3}, true},
		{api.Super{Blocks: 256, Log: 128, Inodes: 8, Inode: 7, Logical: 3, From: 200, To: 190, Len: 4, Moved: 4}, false},
		{api.Super{Blocks: 256, Log: 128, Inodes: 8, Inode: 8, Logical: 3, From: 200, To: 190, Len: 4, Moved: 3}, false},
		{api.Super{Blocks: 256, Log: 128, Inodes: 8, Inode: 7, Logical: 3, From: 200, To: 190, Len: 1, Moved: 0}, false},
	} {
		if got := Check(x.s); got != x.want {
			t.Error(x.s, got)
		}
	}
	for _, s := range []string{zeros(128), block[:127]} {
		if x, e := Decode(s); x != (api.Super{}) || e != api.ErrForm {
			t.Errorf("%q: %v, %v", s, x, e)
		}
	}
}

// P10.1: every field has its own place, told by a superblock all of whose numbers differ.
func TestPlaces(t *testing.T) {
	s := api.Super{Blocks: 4001, Log: 502, Inodes: 510, Cursor: 3333, Inode: 298, Logical: 1025, From: 2561, To: 3074, Len: 777, Moved: 259}
	want := "glissade" + string([]byte{
		0xa1, 0x0f, 0, 0, 0xf6, 0x01, 0, 0, 0xfe, 0x01, 0, 0, 0x05, 0x0d, 0, 0,
		0x2a, 0x01, 0, 0, 0x01, 0x04, 0, 0, 0x01, 0x0a, 0, 0, 0x02, 0x0c, 0, 0, 0x09, 0x03, 0, 0, 0x03, 0x01, 0, 0,
	}) + zeros(80)
	if block, e := Encode(s); block != want || e != api.OK {
		t.Errorf("%q, %v", block, e)
	}
	if x, e := Decode(want); x != s || e != api.OK {
		t.Error(x, e)
	}
}

// P10.1, P10.2: superblocks of both kinds, the smallest and the largest layouts among them.
func TestSome(t *testing.T) {
	for _, r := range some() {
		takes(t, r, true)
	}
}

// P10.1: each bound of the cursor and of the move's numbers at its edge and one beyond it, for all that is taken.
func TestEdges(t *testing.T) {
	for _, r := range some() {
		blocks := r[blocksIn]
		for _, x := range []struct {
			n    int
			want bool
		}{{-1, false}, {0, true}, {1, true}, {blocks - 1, true}, {blocks, true}, {blocks + 1, false}} {
			takes(t, r.with(cursorIn, x.n), x.want)
		}
	}
	type edge struct {
		in, n int
		want  bool
	}
	for _, r := range sliding() {
		blocks, inodes, long := r[blocksIn], r[inodesIn], r[lenIn]
		for _, x := range []edge{
			{inodeIn, -1, false}, {inodeIn, 0, true}, {inodeIn, inodes - 1, true}, {inodeIn, inodes, false},
			{logicalIn, -1, false}, {logicalIn, 0, true}, {logicalIn, 2048 - long, true}, {logicalIn, 2049 - long, false},
			{fromIn, -1, false}, {fromIn, 0, true}, {fromIn, blocks - long, true}, {fromIn, blocks - long + 1, false},
			{toIn, -1, false}, {toIn, 0, true}, {toIn, blocks - long, true}, {toIn, blocks - long + 1, false},
			{movedIn, -1, false}, {movedIn, 0, false}, {movedIn, 1, true}, {movedIn, long - 1, true}, {movedIn, long, false}, {movedIn, long + 1, false},
			{lenIn, -1, false}, {lenIn, 0, false}, {lenIn, 1, false}, {lenIn, blocks + 1, false},
		} {
			takes(t, r.with(x.in, x.n), x.want)
		}
	}
}

// P10.1: the length at its edges where the other numbers leave it room, so that it alone decides.
func TestLen(t *testing.T) {
	for _, blocks := range []int{256, 257, 1024, 2047, 2048} {
		for _, x := range []struct {
			n    int
			want bool
		}{{-2, false}, {-1, false}, {0, false}, {1, false}, {2, true}, {3, true}, {blocks - 1, true}, {blocks, true}, {blocks + 1, false}, {blocks + 2, false}} {
			r := row{blocks, 128, 8, 0, 0, 0, 0, 0, x.n, 1}
			takes(t, r, x.want)
			// With no length and nothing moved there is no move.
			takes(t, r.with(movedIn, 0), x.n == 0)
			takes(t, r.with(movedIn, x.n-1), x.want)
			takes(t, r.with(movedIn, x.n), x.n == 0)
		}
	}
	// On a greater device the greatest file comes before the device's end.
	for _, x := range []struct {
		n    int
		want bool
	}{{2, true}, {2047, true}, {2048, true}, {2049, false}, {2050, false}, {4095, false}, {4096, false}, {4097, false}} {
		takes(t, row{4096, 128, 8, 0, 0, 0, 0, 0, x.n, 1}, x.want)
		takes(t, row{4096, 128, 8, 0, 0, 2048 - x.n, 0, 0, x.n, 1}, x.want)
		takes(t, row{4096, 128, 8, 0, 0, 2049 - x.n, 0, 0, x.n, 1}, false)
	}
	// A long move leaves the other numbers one place each.
	long := row{256, 128, 8, 9, 7, 1792, 0, 0, 256, 255}
	takes(t, long, true)
	takes(t, long.with(fromIn, 1), false)
	takes(t, long.with(toIn, 1), false)
	takes(t, long.with(logicalIn, 1793), false)
	takes(t, long.with(lenIn, 255), false)
	takes(t, long.with(movedIn, 254), true)
}

// P10.1: where nothing moves all six numbers are 0; one or two of them that are not make no move either, but for a length with a part that moved.
func TestHalfMoves(t *testing.T) {
	numbers := append([]int{1, 2, 3, 7, 8, 100, 255, 256, 2046}, far()...)
	for _, r := range resting() {
		takes(t, r, true)
		for i := inodeIn; i <= movedIn; i++ {
			for _, n := range numbers {
				takes(t, r.with(i, n), false)
			}
			for j := inodeIn; j < i; j++ {
				takes(t, r.with(j, 1).with(i, 2), false)
				takes(t, r.with(j, 2).with(i, 1), j == lenIn && i == movedIn)
			}
		}
	}
	for _, r := range sliding() {
		takes(t, r.with(lenIn, 0), false)
		takes(t, r.with(movedIn, 0), false)
		takes(t, r.with(lenIn, 0).with(movedIn, 0), r[inodeIn]+r[logicalIn]+r[fromIn]+r[toIn] == 0)
	}
}

// P10.1, P10.2: numbers that have a layout, and numbers that have none: too few and too many blocks, a log that is too short or too long, inodes that may not be, no room for data.
func TestLayouts(t *testing.T) {
	all := []int{math.MinInt, -256, -1, 0, 1, 6, 7, 8, 9, 10, 76, 78, 127, 128, 129, 200, 220, 222, 236, 255, 256, 257, 510, 511, 512, 513, 514, 1024, 1025, 4095, 4096, 4097, 1<<32 + 8, 1<<32 + 128, 1<<32 + 256, math.MaxInt}
	layouts := 0
	for _, blocks := range all {
		for _, log := range all {
			for _, inodes := range all {
				ok := laid(blocks, log, inodes)
				takes(t, row{blocks, log, inodes}, ok)
				takes(t, row{blocks, log, inodes, 0, 0, 0, 1, 0, 2, 1}, ok)
				if ok {
					layouts++
				}
			}
		}
	}
	if layouts < 100 {
		t.Fatal("so few layouts:", layouts)
	}
	for _, x := range []struct {
		r    row
		want bool
	}{
		{row{}, false},
		{row{255, 128, 8}, false}, {row{256, 128, 8}, true}, {row{4096, 128, 8}, true}, {row{4097, 128, 8}, false},
		{row{1000, 127, 8}, false}, {row{1000, 128, 8}, true}, {row{1000, 512, 8}, true}, {row{1000, 513, 8}, false},
		{row{1000, 128, 6}, false}, {row{1000, 128, 7}, false}, {row{1000, 128, 9}, false}, {row{1000, 128, 511}, false}, {row{1000, 128, 512}, true}, {row{1000, 128, 514}, false},
		{row{256, 200, 76}, true}, {row{256, 200, 78}, false}, {row{256, 201, 76}, false}, {row{255, 200, 76}, false},
		{row{4096, 512, 512}, true}, {row{4097, 512, 512}, false}, {row{4096, 513, 512}, false}, {row{4096, 512, 514}, false},
	} {
		takes(t, x.r, x.want)
	}
}

// P10.1, R1: the ends of an int, and other numbers that are far from all bounds, in each field and in each two of them.
func TestFar(t *testing.T) {
	for _, r := range some() {
		for i := range r {
			for _, n := range far() {
				takes(t, r.with(i, n), false)
			}
			for j := range i {
				for _, n := range []int{math.MinInt, -1, math.MaxInt} {
					for _, m := range []int{math.MinInt, math.MinInt + 1, -1, 0, 1, math.MaxInt - 1, math.MaxInt} {
						takes(t, r.with(j, m).with(i, n), false)
					}
				}
			}
		}
	}
	for _, n := range far() {
		var r row
		for i := range r {
			r[i] = n
		}
		takes(t, r, false)
	}
}

// P10.1, P10.2: each byte of a block turned to each other value: no superblock, or one of which the byte's field is another, and then its block again.
func TestBytes(t *testing.T) {
	others := 0
	for _, r := range some() {
		block := r.block()
		for i := range block {
			for c := range 256 {
				other := block[:i] + string([]byte{byte(c)}) + block[i+1:]
				if !decodes(t, other) || other == block {
					continue
				}
				if i < 8 || i >= 48 {
					t.Fatalf("%q: a byte that is no field's is another", other)
				}
				s, _ := Decode(other)
				if differ := differing(r, rowOf(s)); !slices.Equal(differ, []int{(i - 8) / 4}) {
					t.Fatal(r, s, "differ in", differ)
				}
				others++
			}
		}
	}
	if others < 1000 {
		t.Error("so few other superblocks:", others)
	}
}

// differing are the places at which two rows differ.
func differing(a, b row) []int {
	var l []int
	for i := range a {
		if a[i] != b[i] {
			l = append(l, i)
		}
	}
	return l
}

// P10.1: texts that are shorter or longer than a block are none, though all else be right.
func TestLengths(t *testing.T) {
	for _, r := range some() {
		block := r.block()
		if !decodes(t, block) {
			t.Fatal(r)
		}
		for n := range 128 {
			refuses(t, block[:n])
			refuses(t, block[n+1:])
		}
		for _, n := range []int{1, 2, 127, 128, 129, 1 << 16} {
			refuses(t, block+zeros(n))
			refuses(t, zeros(n)+block)
		}
		refuses(t, block+block)
		refuses(t, block+"\x01")
		refuses(t, block[:8]+block[8:48]+zeros(79))
	}
	for _, n := range []int{0, 1, 7, 8, 9, 47, 48, 49, 127, 128, 129, 256} {
		refuses(t, zeros(n))
		refuses(t, strings.Repeat("\xff", n))
		refuses(t, strings.Repeat("glissade", 40)[:n])
	}
}

// P10.1: the eight bytes at the beginning, and no others.
func TestMagic(t *testing.T) {
	for _, r := range some() {
		rest := r.block()[8:]
		for _, begin := range []string{"Glissade", "GLISSADE", "glissadE", "glissadf", "flissade", "edassilg", "glissad\x00", "\x00lissade", zeros(8), "GLJwsade", "GLJw\x01\x00\x00\x00", " lissade", "glisszde"} {
			refuses(t, begin+rest)
		}
		refuses(t, "glissade"+rest[1:]+"\x00")
		refuses(t, "\x00glissade"+rest[:119])
	}
}

// P10.1: all bytes behind the last field are 0.
func TestRest(t *testing.T) {
	for _, r := range some() {
		block := r.block()
		for i := 48; i < 128; i++ {
			for _, c := range []string{"\x01", "\x02", "\x40", "\x80", "\xff"} {
				refuses(t, block[:i]+c+block[i+1:])
			}
		}
		refuses(t, block[:48]+strings.Repeat("\x01", 80))
	}
}

// P10.1: a field of four bytes is taken whole and without a sign: above 2^31 it is no number that may be.
func TestFieldsAbove(t *testing.T) {
	for _, r := range some() {
		for i := range r {
			for _, n := range []int{1<<31 - 1, 1 << 31, 1<<31 + r[i], 1<<31 + 1, 1<<32 - 2, 1<<32 - 1, 1<<24 + r[i], 1<<16 + r[i]} {
				refuses(t, r.with(i, n).block())
			}
		}
	}
	var all row
	for i := range all {
		all[i] = 1<<32 - 1
	}
	refuses(t, all.block())
}

// madeUp is a row that is made up, with a move in two of three of them; most of them are valid.
func madeUp(from *rand.Rand) row {
	r := row{256 + from.Intn(3841), 128 + from.Intn(385), 8 + 2*from.Intn(253)}
	if from.Intn(3) == 0 {
		r[blocksIn] = 256 + from.Intn(400)
	}
	r[cursorIn] = from.Intn(r[blocksIn] + 1)
	if from.Intn(3) > 0 {
		long := 2 + from.Intn(min(r[blocksIn], 2048)-1)
		if from.Intn(2) == 0 {
			long = 2 + from.Intn(9)
		}
		r[inodeIn], r[logicalIn] = from.Intn(r[inodesIn]), from.Intn(2049-long)
		r[fromIn], r[toIn] = from.Intn(r[blocksIn]-long+1), from.Intn(r[blocksIn]-long+1)
		r[lenIn], r[movedIn] = long, 1+from.Intn(long-1)
	}
	if from.Intn(4) == 0 {
		i := from.Intn(10)
		r[i] += from.Intn(9) - 4
	}
	if from.Intn(20) == 0 {
		r[from.Intn(10)] = from.Intn(5000) - 100
	}
	return r
}

// P10.1, P10.2: superblocks that were made up, valid or not, and back.
func TestMadeUp(t *testing.T) {
	from := rand.New(rand.NewSource(10))
	valid := 0
	for range 50000 {
		r := madeUp(from)
		ok := r.valid()
		takes(t, r, ok)
		if ok {
			valid++
		}
	}
	if valid < 25000 || valid > 49000 {
		t.Error("so many of them are valid:", valid)
	}
}

// P10.1, P10.2: blocks that were made up, or changed in a few places, are superblocks' just where the chapter says so.
func TestMadeUpBlocks(t *testing.T) {
	from := rand.New(rand.NewSource(101))
	valid := 0
	for range 50000 {
		r := madeUp(from)
		if !r.valid() {
			continue
		}
		b := []byte(r.block())
		for range from.Intn(3) {
			b[8+4*from.Intn(10)+from.Intn(5)/4] = byte(from.Intn(256)) >> from.Intn(8)
		}
		if from.Intn(30) == 0 {
			b[from.Intn(128)]++
		}
		if decodes(t, string(b)) {
			valid++
		}
	}
	if valid < 15000 || valid > 40000 {
		t.Error("so many of them are superblocks':", valid)
	}
	for range 10000 {
		b := make([]byte, 128)
		for i := range b {
			b[i] = byte(from.Intn(256))
		}
		refuses(t, string(b))
		copy(b, "glissade")
		refuses(t, string(b))
	}
}

// P10.2: unlike superblocks have unlike blocks, which differ in the bytes of the fields alone that differ, and in each of these fields.
func TestUnlike(t *testing.T) {
	from := rand.New(rand.NewSource(102))
	pool := some()
	for len(pool) < 300 {
		if r := madeUp(from); r.valid() {
			pool = append(pool, r)
		}
	}
	// Neighbours that differ in one field each.
	for _, r := range pool {
		for i := range r {
			if x := r.with(i, r[i]+1); x.valid() {
				pool = append(pool, x)
			}
		}
	}
	var blocks []string
	for _, r := range pool {
		block, e := Encode(r.super())
		if e != api.OK {
			t.Fatal(r, e)
		}
		blocks = append(blocks, block)
	}
	for i, a := range pool {
		for j, b := range pool[:i] {
			x, y := blocks[i], blocks[j]
			if x[:8] != y[:8] || x[48:] != y[48:] {
				t.Fatal(a, b, "differ where no field is")
			}
			for n := range a {
				if at := 8 + 4*n; (x[at:at+4] == y[at:at+4]) != (a[n] == b[n]) {
					t.Fatalf("%v and %v: field %d is %q and %q", a, b, n, x[at:at+4], y[at:at+4])
				}
			}
		}
	}
}

// P10.2: no superblock's block is a journal's record, nor is it masked as one.
func TestNoRecord(t *testing.T) {
	for _, r := range some() {
		block, e := Encode(r.super())
		if e != api.OK {
			t.Fatal(r, e)
		}
		if x, e := records.Decode(block); x.Kind != 0 || x.Seq != 0 || e != api.ErrForm {
			t.Error(r, x, e)
		}
		if x, masked := records.Mask(block); x != block || masked {
			t.Errorf("%v is masked as %q", r, x)
		}
	}
	for _, x := range []api.Record{
		{Kind: api.RecHead, Seq: 1, At: 5},
		{Kind: api.RecDesc, Seq: 2, Homes: []int{0, 9}, Masked: []bool{false, true}},
		{Kind: api.RecRevoke, Homes: []int{7}},
		{Kind: api.RecCommit, Sum: math.MaxUint32},
	} {
		block, e := records.Encode(x)
		if e != api.OK {
			t.Fatal(x, e)
		}
		refuses(t, block)
	}
}

// R2, R5: whatever is wrong at once, there is one error, told twice the same, with nothing beside it, and what was refused changes nothing of what comes behind.
func TestManyWrong(t *testing.T) {
	for _, r := range []row{
		{-1, -1, -1, -1, -1, -1, -1, -1, -1, -1},
		{256, 128, 9, 257, 9, 2048, 256, 256, 257, 257},
		{0, 0, 0, 1, 7, 3, 200, 190, 4, 3},
		{4097, 513, 514, 5000, 600, 4000, 5000, 5000, 1, 1},
		{256, 128, 8, -1, 7, 3, 200, 190, 4, 4},
		{256, 128, 8, 257, 0, 0, 0, 0, 1, 0},
	} {
		takes(t, r, false)
		takes(t, sliding()[0], true)
	}
	good := sliding()[0].block()
	for _, s := range []string{
		"", "g", "Glissade", zeros(129),
		"glissade" + strings.Repeat("\xff", 121),
		"Glissade" + good[8:127] + "\x01",
		good[:40] + "\x01\x00\x00\x00" + good[44:],
	} {
		refuses(t, s)
		if !decodes(t, good) {
			t.Fatal("what is good is refused behind", s)
		}
	}
}
