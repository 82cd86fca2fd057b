package forks

import (
	"math/rand"
	"testing"

	"glissade/api"
)

// P15.3, R1: from and to at every edge and beyond, equal and the wrong way round, with lists that are in order and lie between them, or not.
func TestReplaceArgs(t *testing.T) {
	numbers := append(far(), 3, 4, 5, 9, 10)
	lists := [][]api.Ext{
		nil, {}, list(4, 600, 1), list(0, 600, 1), list(2047, 600, 1), list(0, 600, 2048), list(3, 600, 2), list(4, 600, 1, 5, 601, 4), list(4, 600, 2, 5, 601, 4), list(5, 600, 1, 4, 601, 1),
		list(4, 600, 0), list(4, 0, 1), list(4, 4096, 1), list(4, 4095, 1), list(-1, 600, 1), list(2048, 600, 1), list(2047, 600, 2),
	}
	for _, n := range far() {
		lists = append(lists, list(n, 600, 1), list(4, n, 1), list(4, 600, n), list(4, 600, 1, n, 601, 1))
	}
	tree, d := pointed()
	seen := map[api.Errno]int{}
	for _, from := range numbers {
		for _, to := range numbers {
			for _, l := range lists {
				_, e := replaces(t, tree, d, from, to, l, good(tree, d, from, to, l))
				seen[e]++
				_, e = replaces(t, Tree{}, newDisk(), from, to, l, nil)
				seen[e]++
			}
		}
	}
	if seen[api.OK] < 1000 || seen[api.ErrArg] < 1000 || len(seen) != 2 {
		t.Error("so many of each:", seen)
	}
	for i, x := range []struct {
		from, to int
		l        []api.Ext
		want     api.Errno
	}{
		{0, 0, nil, 0}, {0, 2048, nil, 0}, {0, 2047, nil, 0}, {0, 2049, nil, 2}, {-1, 0, nil, 2}, {-1, -1, nil, 2}, {2047, 2048, nil, 0}, {2048, 2048, nil, 0}, {2048, 2049, nil, 2}, {2049, 2049, nil, 2}, {1, 0, nil, 2}, {2048, 2047, nil, 2},
		{4, 8, list(4, 600, 4), 0}, {4, 8, list(3, 600, 4), 2}, {4, 8, list(3, 600, 1), 2}, {4, 8, list(4, 600, 5), 2}, {4, 8, list(8, 600, 1), 2}, {4, 8, list(7, 600, 1), 0}, {4, 8, list(3, 600, 6), 2}, {4, 8, list(7, 600, 2), 2},
		{4, 8, list(4, 600, 2, 6, 602, 2), 0}, {4, 8, list(4, 600, 2, 6, 602, 3), 2}, {4, 8, list(3, 600, 2, 6, 602, 2), 2}, {4, 4, list(4, 600, 1), 2}, {2047, 2048, list(2047, 600, 1), 0}, {0, 2048, list(0, 600, 1, 2047, 601, 1), 0},
	} {
		if _, e := replaces(t, tree, d, x.from, x.to, x.l, good(tree, d, x.from, x.to, x.l)); e != x.want {
			t.Errorf("%d: %v: %v", i, x, e)
		}
	}
}

// P15.3, R5: where there are several errors, the one that the chapter names first: of the arguments, of Walk, of the physical blocks, of fresh.
func TestReplaceOrder(t *testing.T) {
	for bits := range 16 {
		tree, d := pointed()
		from, to, l := 40, 60, every(11, 1, 600)
		for i := range l {
			l[i].Logical += 40
		}
		want := api.OK
		s := good(tree, d, from, to, l)
		if bits&8 != 0 {
			s = &spring{tell: func(int) (int, api.Errno) { return 0, 778 }}
			want = 778
		}
		if bits&4 != 0 {
			l[9].Physical = 21
			want = api.ErrArg
		}
		if bits&2 != 0 {
			d.fails[24] = 777
			want = 777
		}
		if bits&1 != 0 {
			to = 50
			want = api.ErrArg
		}
		if _, e := replaces(t, tree, d, from, to, l, s); e != want {
			t.Errorf("%04b: %v, not %v", bits, e, want)
		}
	}
	// Every fault of the tree comes behind the arguments', and ahead of the rest.
	for _, x := range trees() {
		_, _, reads, _ := told(x.tree, x.d)
		for i, b := range reads {
			if i > 3 && i < len(reads)-1 {
				continue
			}
			for _, e := range failures() {
				other := x.d.clone()
				other.fails[b] = e
				bad := &spring{tell: func(int) (int, api.Errno) { return 0, 778 }}
				if _, got := replaces(t, x.tree, other, 0, 5, list(0, b, 1), bad); got != e {
					t.Errorf("%v: %v, not %v", x.tree, got, e)
				}
				if _, got := replaces(t, x.tree, other, 0, 0, nil, bad); got != e {
					t.Errorf("%v: %v, not %v", x.tree, got, e)
				}
				if _, got := replaces(t, x.tree, other, 0, 5, list(0, b, 6), bad); got != api.ErrArg {
					t.Errorf("%v: %v", x.tree, got)
				}
			}
		}
	}
	for _, tree := range []Tree{{Depth: 1}, {Depth: -1}, {Depth: 5, Root: row(0, 50, 0)}, {Root: leaves(5, 1)}} {
		if _, e := replaces(t, tree, newDisk(), 0, 5, list(0, 50, 1), nil); e != api.ErrForm {
			t.Errorf("%v: %v", tree, e)
		}
		if _, e := replaces(t, tree, newDisk(), 0, 5, list(0, 50, 6), nil); e != api.ErrArg {
			t.Errorf("%v: %v", tree, e)
		}
	}
}

// P15.3: no extent may have the block of a node, be that node freed or not; which blocks the nodes and extents had otherwise is all one.
func TestReplaceOntoNodes(t *testing.T) {
	tree, d := pointed()
	for _, node := range []int{21, 22, 23, 24, 25, 31, 32} {
		for _, at := range [][3]int{{0, 4, 4}, {0, 20, 1}, {0, 20, 20}, {0, 2048, 2048}, {13, 17, 3}, {30, 40, 5}} {
			for physical := node - at[2] - 1; physical <= node+1; physical++ {
				l := list(at[0], physical, at[2])
				want := api.OK
				if physical < 1 || covers(l, []int{21, 22, 23, 24, 25, 31, 32}) {
					want = api.ErrArg
				}
				if _, e := replaces(t, tree, d, at[0], at[1], l, good(tree, d, at[0], at[1], l)); e != want {
					t.Errorf("%v: %v", l, e)
				}
			}
		}
	}
	// Onto the blocks that were there, and onto those of other extents.
	for _, l := range [][]api.Ext{list(0, 100, 2), list(0, 102, 2), list(0, 112, 4), list(1, 100, 3), list(0, 101, 1, 1, 100, 1)} {
		if _, e := replaces(t, tree, d, 0, 4, l, good(tree, d, 0, 4, l)); e != api.OK {
			t.Errorf("%v: %v", l, e)
		}
	}
}

// P15.3: what fresh may not answer, at the first, at a later and at the last call: it is not asked again then.
func TestFresh(t *testing.T) {
	kept := row(0, 100, 3, 3, 900, 4, 2000, 700, 9)
	for _, n := range []int{1, 5, 30, 400} {
		l := every(n, 1, 2000)
		for i := range l {
			l[i].Logical += 10
		}
		d := newDisk()
		tree := Tree{Root: kept}
		s := good(tree, d, 3, 1990, l)
		if _, e := replaces(t, tree, d, 3, 1990, l, s); e != api.OK {
			t.Fatal(e)
		}
		needed := s.told
		if (n > 1) != (len(needed) > 0) {
			t.Errorf("%d: %v", n, needed)
		}
		for k := range needed {
			if k > 3 && k < len(needed)-1 {
				continue
			}
			for _, bad := range []answer{
				{0, 0}, {-1, 0}, {4096, 0}, {4097, 0}, {far()[0], 0}, {far()[len(far())-1], 0}, {100, 0}, {102, 0}, {700, 0}, {708, 0}, {2000, 0}, {1999 + n, 0},
				{3000, api.ErrSpace}, {0, api.ErrSpace}, {needed[k].block, 777}, {0, -1}, {1, api.ErrArg}, {needed[k].block, api.ErrNil},
			} {
				s := &spring{tell: func(i int) (int, api.Errno) {
					if i >= k {
						return bad.block, bad.e
					}
					return needed[i].block, needed[i].e
				}}
				want := bad.e
				if want == api.OK {
					want = api.ErrArg
				}
				if _, e := replaces(t, tree, d, 3, 1990, l, s); e != want || len(s.told) != k+1 {
					t.Errorf("%d, %d, %v: %v, %v", n, k, bad, e, s.told)
				}
			}
			for i := range k {
				s := &spring{tell: func(j int) (int, api.Errno) {
					if j == k {
						j = i
					}
					return needed[j].block, api.OK
				}}
				if _, e := replaces(t, tree, d, 3, 1990, l, s); e != api.ErrArg || len(s.told) != k+1 {
					t.Errorf("%d, %d twice: %v, %v", n, k, e, s.told)
				}
			}
		}
		// Blocks at the edges are as good as any, and so are those which extents had and have no longer.
		edges := []int{1, 4095, 900, 903, 99, 103, 709, 1999}
		s = &spring{tell: func(i int) (int, api.Errno) {
			if i < len(edges) {
				return edges[i], api.OK
			}
			return 3000 + i, api.OK
		}}
		if _, e := replaces(t, tree, d, 3, 1990, l, s); e != api.OK {
			t.Errorf("%d: %v", n, e)
		}
		want := api.ErrArg
		if len(needed) == 0 {
			want = api.OK
		}
		if _, e := replaces(t, tree, d, 3, 1990, l, nil); e != want {
			t.Errorf("%d: %v", n, e)
		}
	}
}

// P15.3: fresh tells the block of a node, be it one that stays or one that is freed.
func TestFreshNode(t *testing.T) {
	tree, d := pointed()
	l := every(80, 1, 600)
	for i := range l {
		l[i].Logical += 100
	}
	for _, from := range []int{0, 100} {
		s := good(tree, d, from, 200, l)
		if _, e := replaces(t, tree, d, from, 200, l, s); e != api.OK || len(s.told) == 0 {
			t.Fatal(e, s.told)
		}
		needed := s.told
		for k := range needed {
			for _, node := range []int{21, 22, 23, 24, 25, 31, 32} {
				s := &spring{tell: func(i int) (int, api.Errno) {
					if i == k {
						return node, api.OK
					}
					return needed[i].block, api.OK
				}}
				if _, e := replaces(t, tree, d, from, 200, l, s); e != api.ErrArg || len(s.told) != k+1 {
					t.Errorf("%d, %d: %v, %v", k, node, e, s.told)
				}
			}
		}
	}
}

// P15.3: a Replace that leaves the list as it is changes no block and asks for none, whoever laid out the tree.
func TestSame(t *testing.T) {
	for _, x := range trees() {
		l, _, _, _ := told(x.tree, x.d)
		same := func(from, to int, m []api.Ext) {
			t.Helper()
			s := &spring{tell: func(int) (int, api.Errno) { return 0, api.ErrSpace }}
			got, e := replaces(t, x.tree, x.d, from, to, m, s)
			if e != api.OK || !equal(got, Set{x.tree, nil, nil}) || len(s.told) > 0 {
				t.Errorf("%v, %d, %d, %v: %v, %v", x.tree, from, to, m, got, e)
			}
		}
		same(0, 2048, l)
		same(0, 0, nil)
		same(2048, 2048, nil)
		for i, y := range l {
			if i > 8 && i < len(l)-2 {
				continue
			}
			same(y.Logical, y.Logical+y.Len, l[i:i+1])
			same(y.Logical, y.Logical, nil)
			same(0, y.Logical, l[:i])
			same(y.Logical, 2048, l[i:])
			if i > 0 && l[i-1].Logical+l[i-1].Len < y.Logical {
				same(l[i-1].Logical+l[i-1].Len, y.Logical, nil)
			}
		}
	}
	// The midst of an extent is not parted by a Replace of nothing, but by one of the same blocks it is.
	tree := Tree{Root: row(0, 100, 9)}
	if x, e := replaces(t, tree, newDisk(), 4, 4, nil, nil); e != api.OK || !equal(x, Set{tree, nil, nil}) {
		t.Error(x, e)
	}
	if x, e := replaces(t, tree, newDisk(), 4, 5, list(4, 104, 1), nil); e != api.OK || !equal(x, Set{Tree{0, row(0, 100, 4, 4, 104, 1, 5, 105, 4)}, nil, nil}) {
		t.Error(x, e)
	}
}

// P15.3: trees that were not built by Replace, with nodes of as few entries as one: what is laid into them and taken out at random.
func TestOtherTrees(t *testing.T) {
	t.Parallel()
	r := rand.New(rand.NewSource(153))
	for round := range 2500 {
		d := newDisk()
		sizes := [][2]int{{1, 10}, {1, 3}, {2, 9}, {10, 1}, {1, 1}, {4, 3}}[r.Intn(6)]
		tree := grown(d, some(r, 1+r.Intn(70)), r.Intn(5), func() int { return sizes[0] + r.Intn(sizes[1]) })
		if tree.Depth > 4 {
			continue
		}
		for range 1 + r.Intn(6) {
			from := r.Intn(200)
			to := from + r.Intn(60)
			if r.Intn(8) == 0 {
				to = 2048
			}
			var l []api.Ext
			for _, x := range some(r, r.Intn(20)) {
				if x.Logical += from; x.Logical+x.Len <= to {
					l = append(l, x)
				}
			}
			s := good(tree, d, from, to, l)
			x, e := replaces(t, tree, d, from, to, l, s)
			if e != api.OK && round%2 == 0 {
				t.Fatalf("%v, %d, %d, %v: %v", tree, from, to, l, e)
			}
			if e == api.OK {
				tree = d.take(x)
			}
		}
	}
}

// crowded is a tree of the greatest depth, whose nodes on the way to one leaf are full, and all others have one entry only.
func crowded(d *disk, first bool) (Tree, int) {
	next := 4096
	at := 0
	full := func(i, n int) bool { return first && i == 0 || !first && i == n-1 }
	var build func(height int, dense bool) api.Entry
	build = func(height int, dense bool) api.Entry {
		n := 1
		if dense {
			n = 10
		}
		var l []api.Entry
		for i := range n {
			if height == 1 {
				l = append(l, api.Entry{Logical: at, Physical: 1 + at, Len: 1})
				at += 2
				continue
			}
			l = append(l, build(height-1, dense && full(i, n)))
		}
		next--
		d.blocks[next] = lay(l, height == 1)
		return api.Entry{Logical: l[0].Logical, Physical: next}
	}
	tree := Tree{Depth: 4}
	for i := range 4 {
		tree.Root = append(tree.Root, build(4, full(i, 4)))
	}
	return tree, at
}

// P15.3: where there is no room on the way up to the root of the deepest tree, the list is laid out otherwise.
func TestCrowded(t *testing.T) {
	for _, first := range []bool{true, false} {
		d := newDisk()
		tree, end := crowded(d, first)
		if _, _, e := walks(t, tree, d); e != api.OK {
			t.Fatal(e)
		}
		for at := -1; at < end; at++ {
			from, to := at, at+1
			if at < 0 {
				from, to = end, end+1
			}
			l := list(from, 2000, 1)
			x, e := replaces(t, tree, d, from, to, l, good(tree, d, from, to, l))
			if e != api.OK || x.Tree.Depth > 4 {
				t.Fatalf("%d: %v, %v", at, x, e)
			}
			if _, e := replaces(t, tree, d, from, to, nil, good(tree, d, from, to, nil)); e != api.OK {
				t.Fatal(e)
			}
		}
	}
}
