package forks

import (
	"math/rand"
	"slices"
	"strings"
	"testing"

	"glissade/api"
)

// encodes holds Encode of a list, as a leaf and as none, against the chapter, and decodes what it answers.
func encodes(t *testing.T, l []api.Entry) (asLeaf, asNode api.Errno) {
	t.Helper()
	one := func(leaf bool) api.Errno {
		room := append(make([]api.Entry, 0, len(l)+2), l...)
		fill(room[len(l):], api.Entry{Logical: -5})
		kept := slices.Clone(room[:cap(room)])
		s, e := Encode(room, leaf)
		if !slices.Equal(room[:cap(room)], kept) {
			t.Fatalf("Encode changed %v", l)
		}
		want, wantE := "", api.ErrArg
		if len(l) >= 1 && len(l) <= 10 && mayRow(l, leaf) {
			want, wantE = lay(l, leaf), api.OK
		}
		if s != want || e != wantE {
			t.Fatalf("Encode(%v, %v) = %q, %v, not %q, %v", l, leaf, s, e, want, wantE)
		}
		if e == api.OK {
			if got, is, e := Decode(s); e != api.OK || is != leaf || !slices.Equal(got, l) {
				t.Fatalf("Decode(%q) = %v, %v, %v, not %v, %v", s, got, is, e, l, leaf)
			}
		}
		return e
	}
	return one(true), one(false)
}

// decodes holds Decode of a block against the chapter.
func decodes(t *testing.T, block string) api.Errno {
	t.Helper()
	want, wantLeaf, ok := unlay(block)
	wantE := api.OK
	if !ok {
		want, wantLeaf, wantE = nil, false, api.ErrForm
	}
	l, leaf, e := Decode(block)
	if e != wantE || leaf != wantLeaf || !slices.Equal(l, want) {
		t.Fatalf("Decode(%q) = %v, %v, %v, not %v, %v, %v", block, l, leaf, e, want, wantLeaf, wantE)
	}
	if e != api.OK {
		return e
	}
	fill(l, api.Entry{Logical: -7})
	if again, _, _ := Decode(block); !slices.Equal(again, want) {
		t.Fatalf("Decode(%q) again: %v", block, again)
	}
	if s, e := Encode(want, leaf); s != block || e != api.OK {
		t.Fatalf("Encode(%v, %v) = %q, %v, not %q", want, leaf, s, e, block)
	}
	return e
}

// leaves is n leaf entries, touching or not, and above n node entries.
func leaves(n, gap int) []api.Entry {
	var l []api.Entry
	for i := range n {
		l = append(l, api.Entry{Logical: i * gap, Physical: 4000 - i*gap, Len: gap})
	}
	return l
}

func above(n, gap int) []api.Entry {
	l := leaves(n, gap)
	for i := range l {
		l[i].Len = 0
	}
	return l
}

// P15.1: nodes of no entry, of one, of as many as there may be, of one more, and of very many.
func TestNodeCounts(t *testing.T) {
	for _, n := range []int{0, 1, 2, 3, 4, 5, 9, 10, 11, 12, 127, 128, 255, 256, 257, 266, 2048, 1 << 16} {
		wantLeaf, wantNode := api.ErrArg, api.ErrArg
		if n >= 1 && n <= 10 {
			wantLeaf, wantNode = api.OK, api.OK
		}
		for _, gap := range []int{1, 3} {
			if leaf, node := encodes(t, leaves(n, gap)); leaf != wantLeaf || node != api.ErrArg {
				t.Errorf("%d leaf entries: %v, %v", n, leaf, node)
			}
			if leaf, node := encodes(t, above(n, gap)); leaf != api.ErrArg || node != wantNode {
				t.Errorf("%d node entries: %v, %v", n, leaf, node)
			}
		}
	}
	if s, e := Encode([]api.Entry{}, false); s != "" || e != api.ErrArg {
		t.Errorf("%q, %v", s, e)
	}
}

// P15.1: entries of both kinds in one node, wherever the other one stands.
func TestMixed(t *testing.T) {
	for n := 1; n <= 10; n++ {
		for i := range n {
			l, m := leaves(n, 2), above(n, 2)
			l[i].Len, m[i].Len = 0, 1
			leaf, node := encodes(t, l)
			if leaf != api.ErrArg || (node == api.OK) != (n == 1) {
				t.Errorf("%v: %v, %v", l, leaf, node)
			}
			leaf, node = encodes(t, m)
			if (leaf == api.OK) != (n == 1) || node != api.ErrArg {
				t.Errorf("%v: %v, %v", m, leaf, node)
			}
		}
	}
}

// P15.1: two entries out of order, at each place of a node, and by how much.
func TestOutOfOrder(t *testing.T) {
	for n := 2; n <= 10; n++ {
		for i := range n {
			for by := -25; by <= 25; by++ {
				for _, l := range [][]api.Entry{leaves(n, 3), above(n, 3)} {
					l[i].Logical += by
					encodes(t, l)
				}
			}
			for j := range i {
				for _, l := range [][]api.Entry{leaves(n, 3), above(n, 3)} {
					l[i], l[j] = l[j], l[i]
					if leaf, node := encodes(t, l); leaf != api.ErrArg || node != api.ErrArg {
						t.Errorf("%v: %v, %v", l, leaf, node)
					}
				}
			}
		}
	}
	// What touches is in order, what overlaps by one is not, and of node entries each only needs to be beyond the one before.
	for _, x := range []struct {
		l          []api.Entry
		leaf, node api.Errno
	}{
		{row(0, 100, 5, 5, 105, 1), 0, 2}, {row(0, 100, 5, 4, 200, 1), 2, 2}, {row(0, 100, 5, 5, 100, 5), 0, 2}, {row(0, 100, 5, 0, 200, 5), 2, 2},
		{row(0, 100, 0, 1, 101, 0), 2, 0}, {row(0, 100, 0, 0, 101, 0), 2, 2}, {row(1, 100, 0, 0, 101, 0), 2, 2}, {row(0, 100, 0, 1, 100, 0), 2, 0},
		{row(0, 1, 2047, 2047, 1, 1), 0, 2}, {row(0, 1, 2048, 2047, 1, 1), 2, 2}, {row(2046, 1, 0, 2047, 4095, 0), 2, 0}, {row(2047, 1, 0, 2048, 4095, 0), 2, 2},
	} {
		if leaf, node := encodes(t, x.l); leaf != x.leaf || node != x.node {
			t.Errorf("%v: %v, %v", x.l, leaf, node)
		}
	}
}

// P15.1, R1: each field at its edge and one beyond, in the first, a middle and the last entry, and entries of any three numbers.
func TestFields(t *testing.T) {
	numbers := append(far(), 3, 10, 2045, 2050, 4093, 4098)
	for _, logical := range numbers {
		for _, physical := range numbers {
			for _, n := range append(numbers, 2048-logical, 2049-logical, 4096-physical, 4097-physical) {
				encodes(t, row(logical, physical, n))
				encodes(t, row(0, 9, 1, logical, physical, n))
				encodes(t, row(0, 9, 0, logical, physical, n))
				encodes(t, row(logical, physical, n, 2047, 7, 1))
				encodes(t, row(logical, physical, n, 2047, 7, 0))
				encodes(t, row(0, 9, 1, logical, physical, n, 2047, 7, 1))
				encodes(t, row(0, 9, 0, logical, physical, n, 2047, 7, 0))
			}
		}
	}
}

// P15.1: what is no block of a node: another length, another first or second byte, another count, and a rest that is not zero.
func TestBlocks(t *testing.T) {
	for n := 1; n <= 10; n++ {
		for _, s := range []string{lay(leaves(n, 2), true), lay(above(n, 2), false), lay(leaves(n, 2), false), lay(above(n, 2), true)} {
			decodes(t, s)
			for _, other := range []string{s[:127], s + "\x00", s + s, s[1:], "\x00" + s[:127], s[:3], s[:2], s[:1]} {
				if e := decodes(t, other); e != api.ErrForm {
					t.Errorf("%q: %v", other, e)
				}
			}
			// Every byte, as every other one: the mark, the kind, the count, the entries' bytes and those of the rest.
			for i := range s {
				for b := range 256 {
					decodes(t, s[:i]+string([]byte{byte(b)})+s[i+1:])
				}
			}
		}
	}
	for _, s := range []string{"", "F", "F\x01\x01", strings.Repeat("\x00", 128), strings.Repeat("F", 128), strings.Repeat("\xff", 128), strings.Repeat("\x01", 128), strings.Repeat("F\x01\x01\x00", 1<<16)} {
		if e := decodes(t, s); e != api.ErrForm {
			t.Errorf("%q: %v", s[:min(len(s), 128)], e)
		}
	}
	for _, x := range []struct {
		at, b int
		want  api.Errno
	}{
		{0, 70, 0}, {0, 69, 2}, {0, 71, 2}, {0, 0, 2}, {1, 0, 2}, {1, 1, 0}, {1, 2, 2}, {1, 255, 2}, {2, 0, 2}, {2, 1, 2}, {2, 9, 2}, {2, 10, 0}, {2, 11, 2}, {2, 255, 2}, {123, 1, 2}, {127, 1, 2}, {127, 0, 0},
	} {
		s := lay(leaves(10, 2), true)
		if x.want == 2 {
			x.want = api.ErrForm
		}
		if e := decodes(t, s[:x.at]+string([]byte{byte(x.b)})+s[x.at+1:]); e != x.want {
			t.Errorf("%d at %d: %v", x.b, x.at, e)
		}
	}
}

// P15.1: the numbers of a block at their edges, as no int would have them, too.
func TestNumbers(t *testing.T) {
	numbers := []uint32{0, 1, 2, 255, 256, 257, 2046, 2047, 2048, 2049, 4094, 4095, 4096, 4097, 1 << 16, 1<<16 + 1, 1 << 24, 1<<31 - 1, 1 << 31, 1<<32 - 1}
	for _, logical := range numbers {
		for _, physical := range numbers {
			for _, n := range numbers {
				l := row(int(logical), int(physical), int(n))
				decodes(t, lay(l, true))
				decodes(t, lay(l, false))
				l = append(l, row(2047, 9, 0)...)
				decodes(t, lay(l, false))
			}
		}
	}
}

// P15.1: blocks made up at random, most of them nearly those of a node.
func TestRandomBlocks(t *testing.T) {
	r := rand.New(rand.NewSource(15))
	good := 0
	for range 20000 {
		n := 1 + r.Intn(10)
		var l []api.Entry
		at := r.Intn(20)
		leaf := r.Intn(2) == 0
		for range n {
			x := api.Entry{Logical: at, Physical: r.Intn(4000), Len: r.Intn(8)}
			if !leaf && r.Intn(10) > 0 {
				x.Len = 0
			}
			l = append(l, x)
			at += x.Len + r.Intn(3)
		}
		encodes(t, l)
		s := []byte(lay(l, leaf))
		for range r.Intn(3) {
			s[r.Intn(len(s))] = byte(r.Intn(256))
		}
		if decodes(t, string(s)) == api.OK {
			good++
		}
	}
	if good < 1000 {
		t.Error("so few were nodes:", good)
	}
}
