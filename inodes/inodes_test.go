package inodes

import (
	"math"
	"math/rand"
	"slices"
	"strings"
	"testing"

	"glissade/api"
)

// zeros is so many zero bytes.
func zeros(n int) string { return strings.Repeat("\x00", n) }

// entries is a list of entries, told by three numbers each.
func entries(l ...int) []api.Entry {
	var out []api.Entry
	for i := 0; i+2 < len(l); i += 3 {
		out = append(out, api.Entry{Logical: l[i], Physical: l[i+1], Len: l[i+2]})
	}
	return out
}

// low is the lowest bytes of a number that is not below 0, the lowest one first, told by divisions.
func low(n, bytes int) string {
	var b strings.Builder
	for range bytes {
		b.WriteByte(byte(n % 256))
		n /= 256
	}
	return b.String()
}

// same tells whether two inodes are the same; an empty list is a list that is nil.
func same(x, y api.Inode) bool {
	return x.Kind == y.Kind && x.Pinned == y.Pinned && x.Links == y.Links && x.Size == y.Size && x.Depth == y.Depth && slices.Equal(x.Root, y.Root)
}

// zero tells whether an inode is what stands beside an error.
func zero(x api.Inode) bool { return same(x, api.Inode{}) && x.Root == nil }

// laid is what an inode's bytes are, as the chapter lays them; no number is below 0.
func laid(x api.Inode) string {
	s := low(x.Kind, 1)
	if x.Pinned {
		s += "\x01"
	} else {
		s += "\x00"
	}
	s += low(x.Links, 2) + low(x.Size, 8) + low(x.Depth, 1) + low(len(x.Root), 1)
	for _, y := range x.Root {
		s += low(y.Logical, 4) + low(y.Physical, 4) + low(y.Len, 4)
	}
	if len(s) > 64 {
		return s
	}
	return s + zeros(64-len(s))
}

// covered is the logical blocks and the blocks of the device that an entry of a leaf names, one by one, and whether all of them may be.
func covered(y api.Entry) ([]int, bool) {
	if y.Len < 1 || y.Len > 5000 || y.Logical < 0 || y.Logical > 5000 || y.Physical < 0 || y.Physical > 5000 {
		return nil, false
	}
	var logical []int
	for i := range y.Len {
		if y.Logical+i > 2047 || y.Physical+i == 0 || y.Physical+i > 4095 {
			return nil, false
		}
		logical = append(logical, y.Logical+i)
	}
	return logical, true
}

// sound tells whether an inode is valid, as the chapter tells it: by all logical blocks that it names, which rise.
func sound(x api.Inode) bool {
	if x.Kind == 0 {
		return same(x, api.Inode{})
	}
	if x.Kind != 1 && x.Kind != 2 || x.Links < 0 || x.Links > 100 || x.Size < 0 || x.Size > 262144 || x.Depth < 0 || x.Depth > 4 || len(x.Root) > 4 {
		return false
	}
	var all []int
	for _, y := range x.Root {
		if x.Depth > 0 {
			if y.Len != 0 {
				return false
			}
			// An entry of a node names one logical block and one block of the device.
			y.Len = 1
		}
		l, ok := covered(y)
		if !ok {
			return false
		}
		all = append(all, l...)
	}
	for i := range all {
		if i > 0 && all[i-1] >= all[i] {
			return false
		}
	}
	return x.Depth == 0 || len(all) > 0
}

// takes holds all three functions against what the chapter tells of an inode.
func takes(t *testing.T, x api.Inode, valid bool) {
	t.Helper()
	if sound(x) != valid {
		t.Fatal("the story says otherwise:", x, !valid)
	}
	kept := x
	kept.Root = slices.Clone(x.Root)
	for range 2 {
		if got := Check(x); got != valid {
			t.Fatal(x, "is checked as", got)
		}
		s, e := Encode(x)
		if !same(x, kept) {
			t.Fatal(kept, "was changed to", x)
		}
		if !valid {
			if s != "" || e != api.ErrArg {
				t.Fatalf("%v is %q, %v", x, s, e)
			}
			continue
		}
		if want := laid(x); s != want || e != api.OK {
			t.Fatalf("%v is %q, %v, wanted %q", x, s, e, want)
		}
		if y, e := Decode(s); !same(x, y) || e != api.OK {
			t.Fatal(x, "is had back as", y, e)
		}
	}
}

// raised is the number of so many bytes, the lowest one first; it stays below all that may be where it would be beyond an int.
func raised(s string) int {
	n := 0
	for i := len(s) - 1; i >= 0; i-- {
		if n > math.MaxInt/256 {
			return -1
		}
		n = n*256 + int(s[i])
	}
	return n
}

// parsed is the inode that bytes tell of, read byte by byte, and whether they are an inode's.
func parsed(s string) (api.Inode, bool) {
	if len(s) != 64 || s[1] > 1 || s[13] > 4 {
		return api.Inode{}, false
	}
	x := api.Inode{Kind: int(s[0]), Pinned: s[1] == 1, Links: raised(s[2:4]), Size: raised(s[4:12]), Depth: int(s[12])}
	rest := s[14:]
	for range s[13] {
		x.Root = append(x.Root, api.Entry{Logical: raised(rest[:4]), Physical: raised(rest[4:8]), Len: raised(rest[8:12])})
		rest = rest[12:]
	}
	if strings.Trim(rest, "\x00") != "" || !sound(x) {
		return api.Inode{}, false
	}
	return x, true
}

// decodes holds what Decode tells of bytes against what is read from them byte by byte, and tells whether they are an inode's.
func decodes(t *testing.T, s string) bool {
	t.Helper()
	want, ok := parsed(s)
	for range 2 {
		x, e := Decode(s)
		if !ok {
			if !zero(x) || e != api.ErrForm {
				t.Fatalf("%q is %v, %v, and no inode", s, x, e)
			}
			continue
		}
		if !same(x, want) || e != api.OK {
			t.Fatalf("%q is %v, %v, wanted %v", s, x, e, want)
		}
		if !Check(x) {
			t.Fatalf("%q is %v, which is not valid", s, x)
		}
		if again, e := Encode(x); again != s || e != api.OK {
			t.Fatalf("%q goes back to %q, %v", s, again, e)
		}
	}
	return ok
}

// refuses holds that bytes are no inode's.
func refuses(t *testing.T, s string) {
	t.Helper()
	if decodes(t, s) {
		t.Fatalf("%q is an inode's", s)
	}
}

// leaves are roots of depth 0: none, one, contiguous ones, ones with holes, ones at the ends, and the greatest one.
func leaves() [][]api.Entry {
	return [][]api.Entry{
		nil,
		{},
		entries(0, 100, 3),
		entries(0, 1, 1),
		entries(2047, 4095, 1),
		entries(0, 1, 2048),
		entries(0, 2048, 2048),
		entries(5, 300, 1, 6, 301, 1),
		entries(0, 100, 1, 1, 102, 1),
		entries(0, 500, 7, 7, 400, 9, 20, 300, 4),
		entries(10, 9, 5, 100, 9, 5, 1000, 9, 5),
		entries(0, 1, 1, 1, 3, 1, 2, 5, 1, 3, 7, 1),
		entries(258, 515, 260, 772, 1029, 131, 1286, 1543, 22, 1800, 3855, 241),
		entries(0, 4095, 1, 1, 3585, 511, 512, 2561, 1024, 1536, 2048, 512),
	}
}

// parents are roots of nodes: one, and up to four of them.
func parents() [][]api.Entry {
	return [][]api.Entry{
		entries(0, 50, 0),
		entries(0, 1, 0),
		entries(2047, 4095, 0),
		entries(0, 50, 0, 7, 40, 0),
		entries(0, 9, 0, 1, 9, 0, 2, 9, 0),
		entries(3, 4095, 0, 4, 1, 0, 5, 2, 0, 6, 3, 0),
		entries(0, 4095, 0, 1, 3000, 0, 2046, 2000, 0, 2047, 1000, 0),
		entries(258, 515, 0, 772, 1029, 0, 1286, 1543, 0, 1800, 3855, 0),
	}
}

// some are valid inodes of all kinds, roots and depths.
func some() []api.Inode {
	l := []api.Inode{{}, {Root: []api.Entry{}}}
	for i, root := range leaves() {
		l = append(l,
			api.Inode{Kind: 1 + i%2, Pinned: i%3 == 0, Links: 7 * i, Size: 20000 * i, Root: root},
			api.Inode{Kind: 2 - i%2, Pinned: i%3 == 1, Links: 100 - i, Size: 262144 - i, Root: root})
	}
	for i, root := range parents() {
		for depth := 1; depth <= 4; depth++ {
			l = append(l, api.Inode{Kind: 1 + (i+depth)%2, Pinned: (i+depth)%3 == 0, Links: 12*i + depth, Size: 30000*i + 300*depth, Depth: depth, Root: root})
		}
	}
	return l
}

// far are numbers that no field may have, the ends of an int and of what is cut to one, two and four bytes among them.
func far() []int {
	return []int{
		math.MinInt, math.MinInt + 1, math.MinInt + 2, math.MinInt + 2048, math.MinInt + 4096, -1 << 32, -1<<32 + 1, -1 << 31, -65536, -65535, -4096, -2048, -256, -255, -2, -1,
		262145, 1<<24 + 1, 1<<31 - 1, 1 << 31, 1<<31 + 1, 1<<32 - 1, 1 << 32, 1<<32 + 1, 1<<32 + 2, 1<<32 + 100,
		math.MaxInt - 4096, math.MaxInt - 2048, math.MaxInt - 1, math.MaxInt,
	}
}

// spots is where the numbers of an inode and of its root's entries stand.
func spots(x *api.Inode) []*int {
	l := []*int{&x.Kind, &x.Links, &x.Size, &x.Depth}
	for i := range x.Root {
		l = append(l, &x.Root[i].Logical, &x.Root[i].Physical, &x.Root[i].Len)
	}
	return l
}

// with is an inode with another number at one of its spots.
func with(x api.Inode, spot, n int) api.Inode {
	x.Root = slices.Clone(x.Root)
	*spots(&x)[spot] = n
	return x
}

// bound is a number and whether it may be.
type bound struct {
	n    int
	want bool
}

// P11.1: the chapter's examples.
func TestExamples(t *testing.T) {
	x := api.Inode{Kind: api.InFile, Pinned: true, Links: 1, Size: 300, Root: entries(0, 100, 3)}
	s, e := Encode(x)
	begin := string([]byte{1, 1, 1, 0, 44, 1, 0, 0, 0, 0, 0, 0, 0, 1, 0, 0, 0, 0, 100, 0, 0, 0, 3, 0, 0, 0})
	if s != begin+zeros(38) || e != api.OK {
		t.Fatalf("%q, %v", s, e)
	}
	for _, x := range []struct {
		x    api.Inode
		want bool
	}{
		{api.Inode{Kind: api.InDir, Root: entries(0, 100, 1, 1, 101, 1)}, true},
		{api.Inode{Kind: api.InDir, Root: entries(0, 100, 1, 1, 102, 1)}, true},
		{api.Inode{Kind: api.InDir, Root: entries(0, 100, 2, 1, 200, 1)}, false},
		{api.Inode{Kind: api.InFile, Depth: 1}, false},
		{api.Inode{Kind: api.InFree, Links: 1}, false},
		{api.Inode{Kind: api.InFile, Links: 101}, false},
	} {
		if got := Check(x.x); got != x.want {
			t.Error(x.x, got)
		}
	}
	if x, e := Decode(zeros(64)); !same(x, api.Inode{}) || e != api.OK {
		t.Error(x, e)
	}
	for _, s := range []string{zeros(63), s[:63] + "\x01"} {
		if x, e := Decode(s); !zero(x) || e != api.ErrForm {
			t.Errorf("%q: %v, %v", s, x, e)
		}
	}
}

// P11.1: every field has its own place, told by an inode all of whose bytes within them differ.
func TestPlaces(t *testing.T) {
	x := api.Inode{Kind: api.InDir, Pinned: true, Links: 99, Size: 0x31415, Depth: 0, Root: entries(0x102, 0x203, 0x104, 0x306, 0x407, 0x83, 0x508, 0x609, 0x16, 0x70a, 0xf0b, 0xf1)}
	want := string([]byte{
		2, 1, 99, 0, 0x15, 0x14, 3, 0, 0, 0, 0, 0, 0, 4,
		0x02, 1, 0, 0, 0x03, 2, 0, 0, 0x04, 1, 0, 0,
		0x06, 3, 0, 0, 0x07, 4, 0, 0, 0x83, 0, 0, 0,
		0x08, 5, 0, 0, 0x09, 6, 0, 0, 0x16, 0, 0, 0,
		0x0a, 7, 0, 0, 0x0b, 15, 0, 0, 0xf1, 0, 0, 0,
		0, 0,
	})
	if s, e := Encode(x); s != want || e != api.OK {
		t.Errorf("%q, %v", s, e)
	}
	if y, e := Decode(want); !same(x, y) || e != api.OK {
		t.Error(y, e)
	}
	node := api.Inode{Kind: api.InFile, Depth: 3, Root: entries(0x102, 0x203, 0, 0x304, 0x105, 0)}
	want = string([]byte{1, 0, 0, 0, 0, 0, 0, 0, 0, 0, 0, 0, 3, 2, 2, 1, 0, 0, 3, 2, 0, 0, 0, 0, 0, 0, 4, 3, 0, 0, 5, 1, 0, 0}) + zeros(30)
	if s, e := Encode(node); s != want || e != api.OK {
		t.Errorf("%q, %v", s, e)
	}
	if y, e := Decode(want); !same(node, y) || e != api.OK {
		t.Error(y, e)
	}
}

// P11.1, P11.2: inodes of all kinds and depths, pinned or not.
func TestSome(t *testing.T) {
	for _, x := range some() {
		takes(t, x, true)
		x.Pinned = !x.Pinned
		takes(t, x, x.Kind != api.InFree)
		x.Kind = api.InFile + api.InDir - x.Kind
		takes(t, x, x.Kind != api.InFile+api.InDir)
	}
}

// P11.1: each bound of an inode's own numbers at its edge and beyond it, for each root.
func TestBounds(t *testing.T) {
	for _, x := range some()[2:] {
		for _, b := range []bound{{math.MinInt, false}, {-2, false}, {-1, false}, {api.InFree, false}, {api.InFile, true}, {api.InDir, true}, {3, false}, {4, false}, {256, false}, {257, false}, {258, false}, {math.MaxInt, false}} {
			takes(t, with(x, 0, b.n), b.want)
		}
		for _, b := range []bound{{math.MinInt, false}, {-1, false}, {0, true}, {1, true}, {50, true}, {99, true}, {100, true}, {101, false}, {102, false}, {255, false}, {256, false}, {65535, false}, {65536, false}, {65636, false}, {math.MaxInt, false}} {
			takes(t, with(x, 1, b.n), b.want)
		}
		for _, b := range []bound{{math.MinInt, false}, {-1, false}, {0, true}, {1, true}, {127, true}, {128, true}, {255, true}, {65536, true}, {262143, true}, {262144, true}, {262145, false}, {262146, false}, {1 << 19, false}, {1 << 32, false}, {math.MaxInt, false}} {
			takes(t, with(x, 2, b.n), b.want)
		}
		nodes := x.Depth > 0
		for _, b := range []bound{{math.MinInt, false}, {-2, false}, {-1, false}, {0, !nodes}, {1, nodes}, {2, nodes}, {3, nodes}, {4, nodes}, {5, false}, {6, false}, {256, false}, {257, false}, {math.MaxInt, false}} {
			// Where there is no entry there is no depth but 0, and no entry that could be of the other kind.
			takes(t, with(x, 3, b.n), b.want && (b.n == 0 || len(x.Root) > 0))
		}
	}
}

// rising is so many entries in order, of the given length each.
func rising(n, length int) []api.Entry {
	var l []api.Entry
	for i := range n {
		l = append(l, api.Entry{Logical: 2 * i, Physical: 100 + i, Len: length})
	}
	return l
}

// P11.1, R1: 0 to 4 entries, 5, and very many; with nodes at least one.
func TestCounts(t *testing.T) {
	for _, n := range []int{0, 1, 2, 3, 4, 5, 6, 8, 10, 255, 256, 257, 258, 260, 1 << 16, 1<<16 + 1, 1 << 18} {
		takes(t, api.Inode{Kind: api.InFile, Root: rising(n, 1)}, n <= 4)
		takes(t, api.Inode{Kind: api.InDir, Depth: 0, Root: rising(n, 0)}, n == 0)
		for depth := 1; depth <= 4; depth++ {
			takes(t, api.Inode{Kind: api.InDir, Depth: depth, Root: rising(n, 0)}, n >= 1 && n <= 4)
			takes(t, api.Inode{Kind: api.InFile, Depth: depth, Root: rising(n, 1)}, false)
		}
		takes(t, api.Inode{Root: rising(n, 1)}, n == 0)
		takes(t, api.Inode{Root: rising(n, 0)}, n == 0)
		takes(t, api.Inode{Root: make([]api.Entry, n)}, n == 0)
		takes(t, api.Inode{Kind: api.InFile, Root: make([]api.Entry, n)}, n == 0)
		takes(t, api.Inode{Kind: api.InFile, Depth: 1, Root: make([]api.Entry, n)}, false)
	}
	for _, kind := range []int{api.InFile, api.InDir} {
		for depth := 1; depth <= 4; depth++ {
			takes(t, api.Inode{Kind: kind, Depth: depth}, false)
			takes(t, api.Inode{Kind: kind, Depth: depth, Root: []api.Entry{}}, false)
		}
	}
}

// P11.1: an entry of a leaf, alone, each of its numbers at its edges and beyond them.
func TestLeafEntries(t *testing.T) {
	for _, kind := range []int{api.InFile, api.InDir} {
		one := func(logical, physical, n int, want bool) {
			t.Helper()
			takes(t, api.Inode{Kind: kind, Root: entries(logical, physical, n)}, want)
		}
		for _, b := range []bound{{-2, false}, {-1, false}, {0, false}, {1, true}, {2, true}, {2047, true}, {2048, true}, {2049, false}, {4094, false}, {4095, false}, {4096, false}} {
			one(0, 1, b.n, b.want)
			one(0, 0, b.n, false)
			one(-1, 1, b.n, false)
		}
		for _, n := range []int{1, 2, 3, 10, 255, 256, 257, 1024, 2046, 2047, 2048} {
			one(2048-n, 4096-n, n, true)
			one(2048-n, 1, n, true)
			one(0, 4096-n, n, true)
			one(2049-n, 4096-n, n, false)
			one(2049-n, 1, n, false)
			one(2048-n, 4097-n, n, false)
			one(0, 4097-n, n, false)
			one(0, 1, n, true)
			one(-1, 1, n, false)
			one(0, 0, n, false)
			one(0, -1, n, false)
			one(0, -n, n, false)
			one(-n, 1, n, false)
			one(2048, 1, n, false)
			one(0, 4096, n, false)
			one(0, 1, -n, false)
			one(2047, 4095, -n, false)
		}
	}
}

// P11.1: an entry of a node, alone, each of its numbers at its edges and beyond them.
func TestNodeEntries(t *testing.T) {
	for depth := 1; depth <= 4; depth++ {
		one := func(logical, physical, n int, want bool) {
			t.Helper()
			takes(t, api.Inode{Kind: api.InFile, Depth: depth, Root: entries(logical, physical, n)}, want)
			takes(t, api.Inode{Kind: api.InDir, Depth: depth, Root: entries(logical, physical, n)}, want)
			takes(t, api.Inode{Kind: api.InFile, Depth: 0, Root: entries(logical, physical, 0)}, false)
		}
		for _, l := range []bound{{-2, false}, {-1, false}, {0, true}, {1, true}, {1000, true}, {2046, true}, {2047, true}, {2048, false}, {2049, false}} {
			for _, p := range []bound{{-1, false}, {0, false}, {1, true}, {2, true}, {2048, true}, {4094, true}, {4095, true}, {4096, false}, {4097, false}} {
				for _, n := range []bound{{math.MinInt, false}, {-2, false}, {-1, false}, {0, true}, {1, false}, {2, false}, {256, false}, {1 << 32, false}, {math.MaxInt, false}} {
					one(l.n, p.n, n.n, l.want && p.want && n.want)
				}
			}
		}
	}
}

// P11.1: each entry of longer roots at its edges, too, not the first one alone.
func TestEachEntry(t *testing.T) {
	roots := [][]api.Entry{
		entries(0, 10, 1, 10, 20, 1, 20, 30, 1, 30, 40, 1),
		entries(0, 10, 0, 10, 20, 0, 20, 30, 0, 30, 40, 0),
	}
	for which, root := range roots {
		x := api.Inode{Kind: api.InFile, Depth: which, Root: root}
		for i := range root {
			last := i == len(root)-1
			logical, physical, length := 4+3*i, 5+3*i, 6+3*i
			for _, n := range []int{-1, 0, 1, 4094, 4095, 4096} {
				takes(t, with(x, physical, n), n >= 1 && n <= 4095)
			}
			for _, n := range []int{-1, 0, 1, 2, 10, 11} {
				takes(t, with(x, length, n), which == 0 && n >= 1 && n <= 10 || which == 0 && last && n == 11 || which == 1 && n == 0)
			}
			for _, n := range []int{-1, 2048, 2049} {
				takes(t, with(x, logical, n), false)
			}
			takes(t, with(x, logical, 2047), last)
		}
	}
}

// P11.1: the order of leaf entries: contiguous ones, ones with a hole, ones that overlap, are equal, or go down; physical blocks have no order.
func TestLeafOrder(t *testing.T) {
	for _, n := range []int{1, 2, 3, 7, 200} {
		for _, m := range []int{1, 2, 3, 7, 200} {
			for _, first := range []int{0, 1, 300, 1000} {
				for next := first - 2; next <= first+n+2; next++ {
					want := next >= first+n
					for _, p := range [][2]int{{500, 500 + n}, {500, 501 + n}, {500, 499 + n}, {500, 500}, {500, 100}} {
						l := entries(first, p[0], n, next, p[1], m)
						takes(t, api.Inode{Kind: api.InFile, Root: l}, want && next >= 0)
						// The second and the third, the third and the fourth of four are held as well.
						behind := append(slices.Clone(l), entries(1500, 9, 1, 1501, 9, 1)...)
						takes(t, api.Inode{Kind: api.InDir, Root: behind}, want && next >= 0)
						if first >= 300 {
							before := append(entries(0, 9, 1, 297, 9, 1), l...)
							takes(t, api.Inode{Kind: api.InDir, Root: before}, want)
							takes(t, api.Inode{Kind: api.InDir, Root: before[1:]}, want)
						}
					}
				}
			}
		}
	}
	// Whatever is within a longer one overlaps it.
	takes(t, api.Inode{Kind: api.InFile, Root: entries(0, 100, 10, 3, 200, 1)}, false)
	takes(t, api.Inode{Kind: api.InFile, Root: entries(0, 100, 1, 5, 200, 10, 10, 300, 100)}, false)
	takes(t, api.Inode{Kind: api.InFile, Root: entries(0, 100, 2048, 0, 100, 2048)}, false)
	takes(t, api.Inode{Kind: api.InFile, Root: entries(0, 100, 1, 5, 200, 1, 2, 300, 1)}, false)
}

// P11.1: the order of node entries: each behind the one before it.
func TestNodeOrder(t *testing.T) {
	for depth := 1; depth <= 4; depth++ {
		for _, first := range []int{0, 1, 300, 2045, 2047} {
			for next := first - 2; next <= first+2; next++ {
				want := next > first && next <= 2047
				takes(t, api.Inode{Kind: api.InFile, Depth: depth, Root: entries(first, 9, 0, next, 8, 0)}, want)
				takes(t, api.Inode{Kind: api.InDir, Depth: depth, Root: entries(first, 9, 0, next, 9, 0)}, want)
				if first == 300 {
					takes(t, api.Inode{Kind: api.InDir, Depth: depth, Root: entries(0, 5, 0, 297, 6, 0, first, 9, 0, next, 9, 0)}, want)
					takes(t, api.Inode{Kind: api.InDir, Depth: depth, Root: entries(0, 5, 0, first, 9, 0, next, 9, 0, 2000, 6, 0)}, want)
				}
			}
		}
		takes(t, api.Inode{Kind: api.InFile, Depth: depth, Root: entries(9, 1, 0, 5, 2, 0, 1, 3, 0)}, false)
		takes(t, api.Inode{Kind: api.InFile, Depth: depth, Root: entries(5, 1, 0, 5, 1, 0, 5, 1, 0, 5, 1, 0)}, false)
	}
}

// P11.1: a node entry among leaf entries, and a leaf entry among node entries, at each place.
func TestMixed(t *testing.T) {
	for depth := range 5 {
		for n := 1; n <= 4; n++ {
			for leaf := range 1 << n {
				var l []api.Entry
				for i := range n {
					l = append(l, api.Entry{Logical: 3 * i, Physical: 50 + i, Len: leaf >> i & 1})
				}
				takes(t, api.Inode{Kind: api.InFile, Depth: depth, Root: l}, depth == 0 && leaf == 1<<n-1 || depth > 0 && leaf == 0)
			}
		}
	}
}

// P11.1: a free inode has nothing else, though an empty list may be there.
func TestFree(t *testing.T) {
	for _, x := range []api.Inode{{}, {Root: []api.Entry{}}, {Root: make([]api.Entry, 0, 4)}} {
		takes(t, x, true)
		if s, e := Encode(x); s != zeros(64) || e != api.OK {
			t.Fatalf("%q, %v", s, e)
		}
	}
	takes(t, api.Inode{Pinned: true}, false)
	for _, n := range append([]int{1, 2, 3, 4, 100, 128, 262144}, far()...) {
		takes(t, api.Inode{Links: n}, false)
		takes(t, api.Inode{Size: n}, false)
		takes(t, api.Inode{Depth: n}, false)
		takes(t, api.Inode{Depth: n, Root: entries(0, 50, 0)}, false)
		takes(t, api.Inode{Depth: n, Root: []api.Entry{}}, false)
	}
	for _, root := range slices.Concat(leaves(), parents()) {
		takes(t, api.Inode{Root: root}, len(root) == 0)
	}
	for _, root := range [][]api.Entry{{{}}, {{Logical: 1}}, {{Physical: 1}}, {{Len: 1}}, {{}, {}, {}, {}}} {
		takes(t, api.Inode{Root: root}, false)
	}
}

// P11.1, R1: the ends of an int, and other numbers that are far from all bounds, in each field and in each two of them.
func TestFar(t *testing.T) {
	for _, x := range some() {
		for i := range spots(&x) {
			for _, n := range far() {
				takes(t, with(x, i, n), false)
			}
			for j := range i {
				for _, n := range []int{math.MinInt, -1, math.MaxInt} {
					for _, m := range []int{math.MinInt, math.MinInt + 1, -1, 0, 1, math.MaxInt - 1, math.MaxInt} {
						takes(t, with(with(x, j, m), i, n), false)
					}
				}
			}
		}
	}
	for _, n := range far() {
		takes(t, api.Inode{Kind: n, Links: n, Size: n, Depth: n, Root: entries(n, n, n, n, n, n)}, false)
		takes(t, api.Inode{Kind: n}, false)
	}
	// Sums that would wrap round to what may be.
	for _, x := range [][]api.Entry{
		entries(1, 1, math.MaxInt, 2, 2, 1),
		entries(math.MaxInt, 1, 1, 0, 2, 1),
		entries(math.MaxInt, 1, math.MaxInt, 0, 2, 1),
		entries(1<<62, 1, 1<<62, 0, 2, 1),
		entries(0, math.MaxInt, math.MaxInt),
		entries(math.MinInt, 1, math.MinInt),
		entries(0, 1, math.MinInt, 5, 1, 1),
		entries(math.MinInt+2048, 1, math.MinInt),
	} {
		for depth := range 5 {
			takes(t, api.Inode{Kind: api.InFile, Depth: depth, Root: x}, false)
		}
	}
}

// differing are the spots at which two inodes with as many entries differ.
func differing(a, b api.Inode) []int {
	var l []int
	other := spots(&b)
	for i, n := range spots(&a) {
		if *n != *other[i] {
			l = append(l, i)
		}
	}
	return l
}

// spotOf is the spot that a byte behind Pinned belongs to, and whether there is one; the number of entries has none.
func spotOf(at int) (int, bool) {
	switch {
	case at == 0:
		return 0, true
	case at >= 2 && at < 4:
		return 1, true
	case at >= 4 && at < 12:
		return 2, true
	case at == 12:
		return 3, true
	case at >= 14 && at < 62:
		return 4 + (at-14)/4, true
	}
	return 0, false
}

// P11.1, P11.2: each byte of an inode's bytes turned to each other value: no inode, or one of which the byte's field alone is another, and then its bytes again.
func TestBytes(t *testing.T) {
	others := make([]int, 64)
	for i, x := range some() {
		// A third of them has all kinds, depths and counts.
		if i%3 != 0 {
			continue
		}
		s := laid(x)
		for at := range s {
			for c := range 256 {
				other := s[:at] + string([]byte{byte(c)}) + s[at+1:]
				if !decodes(t, other) || other == s {
					continue
				}
				others[at]++
				y, _ := Decode(other)
				spot, ok := spotOf(at)
				switch {
				case at == 1:
					if y.Pinned == x.Pinned || len(differing(x, y)) > 0 {
						t.Fatal(x, y, "differ elsewhere than in what is pinned")
					}
				case !ok:
					t.Fatalf("%q: byte %d is another", other, at)
				case y.Pinned != x.Pinned || len(y.Root) != len(x.Root) || !slices.Equal(differing(x, y), []int{spot}):
					t.Fatal(x, y, "differ in", differing(x, y))
				}
			}
		}
	}
	for at, want := range map[int]bool{0: true, 1: true, 2: true, 3: false, 4: true, 5: true, 6: true, 7: false, 11: false, 12: true, 13: false, 14: true, 15: true, 16: false, 18: true, 19: true, 20: false, 22: true, 50: true, 61: false, 62: false, 63: false} {
		if others[at] > 0 != want {
			t.Error("byte", at, "makes other inodes:", others[at])
		}
	}
}

// P11.1: texts of other lengths than 64 are no inode's, though all else be right.
func TestLengths(t *testing.T) {
	for _, x := range some() {
		s := laid(x)
		if !decodes(t, s) {
			t.Fatal(x)
		}
		for n := range 64 {
			refuses(t, s[:n])
			refuses(t, s[n+1:])
		}
		for _, n := range []int{1, 2, 12, 63, 64, 65, 1 << 16} {
			refuses(t, s+zeros(n))
			refuses(t, zeros(n)+s)
		}
		refuses(t, s+s)
		refuses(t, s+"\x01")
	}
	for _, n := range []int{0, 1, 2, 13, 14, 15, 26, 62, 63, 65, 128} {
		refuses(t, zeros(n))
		refuses(t, strings.Repeat("\x01", n))
		refuses(t, strings.Repeat("\xff", n))
	}
	if !decodes(t, zeros(64)) {
		t.Error("64 zero bytes are no inode")
	}
	// A root that goes on behind the bytes is none, whether or not its bytes are there.
	for n := range 256 {
		s := laid(api.Inode{Kind: api.InFile, Root: rising(n, 1)})
		if ok := decodes(t, s); ok != (n <= 4) {
			t.Error(n, "entries:", ok)
		}
		refuses(t, s[:14])
		if n > 4 {
			refuses(t, s[:64])
		}
	}
}

// P11.1: behind the last entry all bytes are 0; a count that says more or fewer entries is none.
func TestRest(t *testing.T) {
	for _, x := range some() {
		s := laid(x)
		for at := 14 + 12*len(x.Root); at < 64; at++ {
			for _, c := range []string{"\x01", "\x02", "\x40", "\x80", "\xff"} {
				refuses(t, s[:at]+c+s[at+1:])
			}
		}
		for n := range 256 {
			if n != len(x.Root) {
				refuses(t, s[:13]+string([]byte{byte(n)})+s[14:])
			}
		}
	}
}

// P11.1: fields are taken whole and without a sign, what is 1 and what is 0 alone tell of a pin, and kinds end with InDir.
func TestFieldsAbove(t *testing.T) {
	high := []string{"\x80", "\xff", "\x01", "\x40"}
	for _, x := range some() {
		s := laid(x)
		for c := range 256 {
			b := string([]byte{byte(c)})
			if ok := decodes(t, s[:1]+b+s[2:]); ok != (c == 0 || c == 1 && x.Kind != api.InFree) {
				t.Fatal(x, "pinned", c, ok)
			}
			if ok := decodes(t, b+s[1:]); c > api.InDir && ok {
				t.Fatal(x, "of kind", c)
			}
		}
		for _, h := range high {
			refuses(t, s[:3]+h+s[4:])
			for at := 7; at < 12; at++ {
				refuses(t, s[:at]+h+s[at+1:])
			}
			for i := range 3 * len(x.Root) {
				at := 14 + 4*i
				refuses(t, s[:at+3]+h+s[at+4:])
				refuses(t, s[:at+2]+h+s[at+3:])
			}
		}
		refuses(t, s[:4]+strings.Repeat("\xff", 8)+s[12:])
		refuses(t, s[:4]+strings.Repeat("\xff", 7)+"\x7f"+s[12:])
		refuses(t, s[:4]+zeros(7)+"\x80"+s[12:])
		refuses(t, s[:2]+"\xff\xff"+s[4:])
		for i := range 3 * len(x.Root) {
			at := 14 + 4*i
			refuses(t, s[:at]+"\xff\xff\xff\xff"+s[at+4:])
			refuses(t, s[:at]+"\xff\xff\xff\x7f"+s[at+4:])
		}
	}
	// Eight bytes that are beyond an int are not 0.
	empty := laid(api.Inode{Kind: api.InFile, Links: 1})
	refuses(t, empty[:4]+strings.Repeat("\xff", 8)+empty[12:])
	refuses(t, zeros(4)+strings.Repeat("\xff", 8)+zeros(52))
}

// madeUp is an inode that is made up; most of them are valid.
func madeUp(from *rand.Rand) api.Inode {
	x := api.Inode{Kind: 1 + from.Intn(2), Pinned: from.Intn(2) == 0, Links: from.Intn(101), Size: from.Intn(262145)}
	if from.Intn(2) == 0 {
		x.Depth = 1 + from.Intn(4)
	}
	at := from.Intn(300)
	for n := from.Intn(5); n > 0 || x.Depth > 0 && len(x.Root) == 0; n-- {
		y := api.Entry{Logical: at, Physical: 1 + from.Intn(3600)}
		at++
		if x.Depth == 0 {
			y.Len = 1 + from.Intn(300)
			at += y.Len - 1
		}
		if from.Intn(3) == 0 {
			at += from.Intn(100)
		}
		x.Root = append(x.Root, y)
	}
	if from.Intn(4) == 0 {
		l := spots(&x)
		*l[from.Intn(len(l))] += from.Intn(9) - 4
	}
	if from.Intn(20) == 0 {
		l := spots(&x)
		*l[from.Intn(len(l))] = from.Intn(5000) - 100
	}
	if from.Intn(50) == 0 {
		x.Kind = from.Intn(5) - 1
	}
	return x
}

// P11.1, P11.2: inodes that were made up, valid or not, and back.
func TestMadeUp(t *testing.T) {
	from := rand.New(rand.NewSource(11))
	valid := 0
	for range 50000 {
		x := madeUp(from)
		ok := sound(x)
		takes(t, x, ok)
		if ok {
			valid++
		}
	}
	if valid < 25000 || valid > 48000 {
		t.Error("so many of them are valid:", valid)
	}
}

// P11.1, P11.2: bytes that were made up, or changed in a few places, are an inode's just where the chapter says so.
func TestMadeUpBytes(t *testing.T) {
	from := rand.New(rand.NewSource(111))
	valid := 0
	for range 50000 {
		x := madeUp(from)
		if !sound(x) {
			continue
		}
		b := []byte(laid(x))
		for range from.Intn(3) {
			b[from.Intn(14+12*len(x.Root))] = byte(from.Intn(256)) >> from.Intn(8)
		}
		if from.Intn(30) == 0 {
			b[from.Intn(64)]++
		}
		if decodes(t, string(b)) {
			valid++
		}
	}
	if valid < 12000 || valid > 38000 {
		t.Error("so many of them are inodes':", valid)
	}
	for range 10000 {
		b := make([]byte, 64)
		for i := range b {
			b[i] = byte(from.Intn(256))
		}
		refuses(t, string(b))
		b[0], b[1], b[12], b[13] = 1, 1, 0, 4
		refuses(t, string(b))
	}
}

// P11.2: without its last entry an inode stays valid, unless it has nodes and that entry was the only one.
func TestLastTakenAway(t *testing.T) {
	from := rand.New(rand.NewSource(112))
	pool := some()
	for len(pool) < 5000 {
		if x := madeUp(from); sound(x) {
			pool = append(pool, x)
		}
	}
	for _, x := range pool {
		for len(x.Root) > 0 {
			takes(t, x, true)
			x.Root = x.Root[:len(x.Root)-1]
		}
		takes(t, x, x.Depth == 0)
	}
}

// P11.2: with an entry of its kind that is valid and keeps the order behind its last one an inode stays valid, up to four of them; any other one makes it invalid.
func TestLastLaidBehind(t *testing.T) {
	from := rand.New(rand.NewSource(113))
	pool := some()
	for len(pool) < 3000 {
		if x := madeUp(from); sound(x) {
			pool = append(pool, x)
		}
	}
	longer := 0
	for _, x := range pool {
		end := 0
		if n := len(x.Root); n > 0 {
			end = x.Root[n-1].Logical + max(x.Root[n-1].Len, 1)
		}
		length := 1
		if x.Depth > 0 {
			length = 0
		}
		for _, at := range []int{end - 1, end, end + 1, 2046, 2047, 2048} {
			for _, n := range []int{length, 1 - length, 2} {
				y := x
				y.Root = append(slices.Clone(x.Root), api.Entry{Logical: at, Physical: 1 + from.Intn(4000), Len: n})
				right := x.Depth == 0 && n >= 1 || x.Depth > 0 && n == 0
				ok := x.Kind != api.InFree && len(x.Root) < 4 && right && at >= end && at+max(n, 1) <= 2048
				takes(t, y, ok)
				if ok {
					longer++
				}
			}
		}
	}
	if longer < 3000 {
		t.Error("so few longer ones:", longer)
	}
}

// P11.2: unlike inodes have unlike bytes.
func TestUnlike(t *testing.T) {
	from := rand.New(rand.NewSource(114))
	pool := some()
	for len(pool) < 400 {
		if x := madeUp(from); sound(x) {
			pool = append(pool, x)
		}
	}
	// Neighbours that differ in one field each.
	for _, x := range pool {
		for i := range spots(&x) {
			if y := with(x, i, *spots(&x)[i]+1); sound(y) {
				pool = append(pool, y)
			}
		}
	}
	seen := map[string]api.Inode{}
	for _, x := range pool {
		s, e := Encode(x)
		if e != api.OK {
			t.Fatal(x, e)
		}
		if y, ok := seen[s]; ok && !same(x, y) {
			t.Fatalf("%v and %v are both %q", x, y, s)
		}
		seen[s] = x
	}
}

// R4: the entries that are passed stay as they are, with what lies behind them, and are not kept; those that are returned are new each time.
func TestLists(t *testing.T) {
	for _, x := range some() {
		n := len(x.Root)
		room := append(slices.Clone(x.Root), entries(1, 2, 3, 4, 5, 6)...)
		whole := slices.Clone(room)
		x.Root = room[:n]
		if !Check(x) {
			t.Fatal(x)
		}
		s, e := Encode(x)
		if e != api.OK || !slices.Equal(room, whole) {
			t.Fatal(x, e, room, whole)
		}
		y, e := Decode(s)
		z, d := Decode(s)
		if e != api.OK || d != api.OK || !same(x, y) || !same(x, z) {
			t.Fatal(x, y, z, e, d)
		}
		for i := range y.Root {
			y.Root[i] = api.Entry{Logical: -1, Physical: -1, Len: -1}
		}
		y.Root = append(y.Root, api.Entry{Logical: 9, Physical: 9, Len: 9})
		if !slices.Equal(room, whole) || !same(x, z) {
			t.Fatal(x, "shares its entries with what was returned:", z)
		}
		clear(room)
		if again, e := Decode(s); e != api.OK || !same(again, z) {
			t.Fatal("what was passed is kept:", again, z, e)
		}
		if x, e := Encode(z); x != s || e != api.OK {
			t.Fatalf("%q, %v, wanted %q", x, e, s)
		}
	}
	// A list that is refused stays as it is, too.
	bad := entries(5, 100, 1, 3, 100, 1, 9, 0, 0, 1, 1, 1, 7, 7, 7)
	kept := slices.Clone(bad)
	if s, e := Encode(api.Inode{Kind: api.InFile, Root: bad}); s != "" || e != api.ErrArg || !slices.Equal(bad, kept) {
		t.Errorf("%q, %v, %v", s, e, bad)
	}
}

// R2, R5: whatever is wrong at once, there is one error, told twice the same, with nothing beside it, and what was refused changes nothing of what comes behind.
func TestManyWrong(t *testing.T) {
	good := api.Inode{Kind: api.InDir, Pinned: true, Links: 100, Size: 262144, Depth: 4, Root: entries(3, 4095, 0, 4, 1, 0, 5, 2, 0, 6, 3, 0)}
	for _, x := range []api.Inode{
		{Kind: -1, Pinned: true, Links: -1, Size: -1, Depth: -1, Root: entries(-1, -1, -1)},
		{Kind: 3, Links: 101, Size: 262145, Depth: 5, Root: rising(5, 2)},
		{Pinned: true, Links: 1, Size: 1, Depth: 1, Root: entries(0, 1, 0)},
		{Kind: api.InFile, Links: 101, Root: entries(5, 0, 1, 4, 1, 0)},
		{Kind: api.InDir, Size: -1, Depth: 4},
	} {
		takes(t, x, false)
		takes(t, good, true)
	}
	s := laid(good)
	for _, other := range []string{
		"", "\x01", "\x03", zeros(65), zeros(63) + "\x01", "\x00\x01" + zeros(62),
		strings.Repeat("\xff", 64), strings.Repeat("\xff", 65),
		"\x03\x02" + s[2:63] + "\x01",
		s[:13] + "\x05" + s[14:],
	} {
		refuses(t, other)
		if !decodes(t, s) {
			t.Fatalf("what is good is refused behind %q", other)
		}
	}
}
