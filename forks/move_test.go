package forks

import (
	"maps"
	"math/rand"
	"slices"
	"testing"

	"glissade/api"
)

// changed is a disk and a tree whose entries are what change makes of them, each node in the block where it was.
func changed(tree Tree, d *disk, nodes []int, change func(x *api.Entry)) (Tree, *disk) {
	now := d.clone()
	root := slices.Clone(tree.Root)
	for i := range root {
		change(&root[i])
	}
	for _, b := range nodes {
		l, leaf, _ := unlay(d.blocks[b])
		for i := range l {
			change(&l[i])
		}
		now.blocks[b] = lay(l, leaf)
	}
	return Tree{tree.Depth, root}, now
}

// changesOf is the blocks of nodes that are others than they were.
func changesOf(before, now *disk, nodes []int) []api.Change {
	var l []api.Change
	for _, b := range slices.Sorted(slices.Values(nodes)) {
		if before.blocks[b] != now.blocks[b] {
			l = append(l, api.Change{Block: b, Data: now.blocks[b]})
		}
	}
	return l
}

// movesTo is what the chapter says of a Move.
func movesTo(tree Tree, d *disk, logical, n, to int) (Set, api.Errno) {
	l, nodes, _, e := told(tree, d)
	if e != api.OK {
		return Set{}, e
	}
	if !slices.ContainsFunc(l, func(x api.Ext) bool { return x.Logical == logical && x.Len == n }) {
		return Set{}, api.ErrNone
	}
	if to < 1 || to > 4096-n || covers(list(logical, to, n), nodes) {
		return Set{}, api.ErrArg
	}
	now, then := changed(tree, d, nodes, func(x *api.Entry) {
		if x.Len > 0 && x.Logical == logical {
			x.Physical = to
		}
	})
	return Set{now, changesOf(d, then, nodes), nil}, api.OK
}

// leadsTo is what the chapter says of a Lead.
func leadsTo(tree Tree, d *disk, from, to int) (Set, api.Errno) {
	l, nodes, _, e := told(tree, d)
	if e != api.OK {
		return Set{}, e
	}
	i := slices.Index(nodes, from)
	if i < 0 {
		return Set{}, api.ErrNone
	}
	if to < 1 || to > 4095 || covers(l, []int{to}) || to != from && slices.Contains(nodes, to) {
		return Set{}, api.ErrArg
	}
	if to == from {
		return Set{tree, nil, nil}, api.OK
	}
	now, then := changed(tree, d, nodes, func(x *api.Entry) {
		if x.Len == 0 && x.Physical == from {
			x.Physical = to
		}
	})
	then.blocks[to] = d.blocks[from]
	nodes[i] = to
	other := d.clone()
	delete(other.blocks, to)
	return Set{now, changesOf(other, then, nodes), []int{from}}, api.OK
}

// answers holds a change of a tree against what the chapter says of it, and that nothing else is touched.
func answers(t *testing.T, what string, tree Tree, d *disk, want Set, wantE api.Errno, change func(Tree, Read) (Set, api.Errno)) {
	t.Helper()
	given, was := spare(tree), d.clone()
	d.reads = nil
	got, e := change(given, d.read)
	once(t, d.reads)
	unspoilt(t, tree, given)
	if e != wantE || !equal(got, want) || !maps.Equal(d.blocks, was.blocks) {
		t.Fatalf("%v of %v = %v, %v, not %v, %v", what, tree, got, e, want, wantE)
	}
	if e != api.OK {
		none(t, got)
		return
	}
	twice(t, got, func() (Set, api.Errno) { return change(given, d.read) })
	unspoilt(t, tree, given)
	now := d.clone()
	if _, _, _, e := told(now.take(got), now); e != api.OK {
		t.Fatalf("%v of %v = %v, which is none: %v", what, tree, got, e)
	}
}

func moves(t *testing.T, tree Tree, d *disk, logical, n, to int) (Set, api.Errno) {
	t.Helper()
	want, e := movesTo(tree, d, logical, n, to)
	answers(t, "Move", tree, d, want, e, func(tree Tree, read Read) (Set, api.Errno) { return Move(tree, read, logical, n, to) })
	return want, e
}

func leadsOn(t *testing.T, tree Tree, d *disk, from, to int) (Set, api.Errno) {
	t.Helper()
	want, e := leadsTo(tree, d, from, to)
	answers(t, "Lead", tree, d, want, e, func(tree Tree, read Read) (Set, api.Errno) { return Lead(tree, read, from, to) })
	return want, e
}

// P15.4: Move of every extent of every tree, to each edge, to where it lies, to where it lies in part, to other extents and to nodes.
func TestMove(t *testing.T) {
	t.Parallel()
	seen := map[api.Errno]int{}
	for _, x := range trees() {
		l, nodes, _, _ := told(x.tree, x.d)
		for i, y := range l {
			if i > 24 && i < len(l)-12 || len(l) > 100 && !telling(l, i) {
				continue
			}
			tos := append(far(), y.Physical, y.Physical-1, y.Physical+1, 4096-y.Len, 4097-y.Len, l[(i+1)%len(l)].Physical, l[0].Physical, 3000)
			for k, b := range nodes {
				if k < 3 || k > len(nodes)-3 {
					tos = append(tos, b, b-1, b+1, b-y.Len, b-y.Len+1)
				}
			}
			for _, to := range tos {
				_, e := moves(t, x.tree, x.d, y.Logical, y.Len, to)
				seen[e]++
			}
			// An extent there is not.
			for _, other := range [][2]int{{y.Logical, y.Len + 1}, {y.Logical, y.Len - 1}, {y.Logical, 0}, {y.Logical, -1}, {y.Logical, 4096}, {y.Logical - 1, y.Len}, {y.Logical + y.Len, y.Len + 1}, {2048, y.Len}, {-1, y.Len}} {
				for _, to := range []int{0, 3000, nodeOr(nodes, 3000)} {
					_, e := moves(t, x.tree, x.d, other[0], other[1], to)
					seen[e]++
				}
			}
		}
		for _, m := range far() {
			if len(l) < 100 {
				moves(t, x.tree, x.d, m, 1, 3000)
				moves(t, x.tree, x.d, 0, m, 3000)
			}
		}
	}
	if seen[api.OK] < 1000 || seen[api.ErrNone] < 1000 || seen[api.ErrArg] < 1000 || len(seen) != 3 {
		t.Error("so many of each:", seen)
	}
}

// telling tells whether an extent is among those of a long list that are enough.
func telling(l []api.Ext, i int) bool {
	return i < 2 || i == 10 || i > len(l)-2
}

// nodeOr is the first node, or another number where there is none.
func nodeOr(nodes []int, n int) int {
	if len(nodes) > 0 {
		return nodes[0]
	}
	return n
}

// P15.4: Move of long extents, in the root and in a leaf: what they may lie on, and what not.
func TestMoveLong(t *testing.T) {
	root := Tree{0, row(0, 100, 5, 5, 200, 10, 20, 300, 3, 2000, 4048, 48)}
	d := newDisk()
	for _, x := range []struct {
		logical, n, to int
		want           api.Errno
	}{
		{0, 5, 100, 0}, {0, 5, 98, 0}, {0, 5, 104, 0}, {0, 5, 200, 0}, {0, 5, 205, 0}, {0, 5, 1, 0}, {0, 5, 0, 2}, {0, 5, -1, 2}, {0, 5, 4091, 0}, {0, 5, 4092, 2}, {0, 5, 4096, 2},
		{2000, 48, 4048, 0}, {2000, 48, 4049, 2}, {2000, 48, 1, 0}, {2000, 47, 1, 4}, {5, 10, 195, 0}, {5, 10, 205, 0}, {5, 10, 4086, 0}, {5, 10, 4087, 2}, {5, 9, 9, 4}, {5, 11, 9, 4}, {6, 10, 9, 4}, {0, 15, 9, 4},
	} {
		if s, e := moves(t, root, d, x.logical, x.n, x.to); e != x.want || len(s.Changes) > 0 {
			t.Errorf("%v: %v, %v", x, s, e)
		}
	}
	tree, d := pointed()
	d.blocks[25] = lay(row(16, 100, 5, 21, 105, 2000), true)
	for _, x := range []struct {
		logical, n, to, changes int
		want                    api.Errno
	}{
		{16, 5, 100, 0, 0}, {16, 5, 101, 1, 0}, {16, 5, 105, 1, 0}, {16, 5, 16, 1, 0}, {16, 5, 17, 0, 2}, {16, 5, 21, 0, 2}, {16, 5, 25, 0, 2}, {16, 5, 26, 1, 0}, {16, 5, 27, 0, 2}, {16, 5, 32, 0, 2}, {16, 5, 33, 1, 0},
		{21, 2000, 105, 0, 0}, {21, 2000, 106, 1, 0}, {21, 2000, 2096, 1, 0}, {21, 2000, 2097, 0, 2}, {21, 2000, 33, 1, 0}, {21, 2000, 32, 0, 2}, {21, 2000, 1, 0, 2}, {21, 1999, 33, 0, 4},
		{0, 2, 1, 1, 0}, {0, 2, 19, 1, 0}, {0, 2, 20, 0, 2}, {0, 2, 30, 0, 2}, {8, 2, 100, 1, 0}, {8, 2, 4094, 1, 0}, {8, 2, 4095, 0, 2},
	} {
		s, e := moves(t, tree, d, x.logical, x.n, x.to)
		if e != x.want || len(s.Changes) != x.changes || len(s.Freed) > 0 || e == api.OK && !slices.Equal(s.Tree.Root, tree.Root) {
			t.Errorf("%v: %v, %v", x, s, e)
		}
	}
}

// P15.4: Lead of every node of every tree, to itself, to extents, to other nodes and to each edge; and of blocks that are no nodes.
func TestLead(t *testing.T) {
	t.Parallel()
	seen := map[api.Errno]int{}
	for _, x := range trees() {
		l, nodes, reads, _ := told(x.tree, x.d)
		for i, b := range reads {
			if i > 5 && i < len(reads)-2 {
				continue
			}
			tos := append(far(), b, b-1, b+1, reads[(i+1)%len(reads)], reads[0], 3000, l[0].Physical, l[len(l)-1].Physical, l[0].Physical-1, l[len(l)-1].Physical+1)
			for _, to := range tos {
				_, e := leadsOn(t, x.tree, x.d, b, to)
				seen[e]++
			}
		}
		for _, b := range append(far(), 3000, 99, 100, 101) {
			if !slices.Contains(nodes, b) {
				for _, to := range []int{0, 3000, nodeOr(nodes, 3000), 4096, 100, b} {
					_, e := leadsOn(t, x.tree, x.d, b, to)
					seen[e]++
				}
			}
		}
	}
	if seen[api.OK] < 1000 || seen[api.ErrNone] < 1000 || seen[api.ErrArg] < 1000 || len(seen) != 3 {
		t.Error("so many of each:", seen)
	}
}

// P15.4: the node that pointed to the one that is led on changes where it is, and the copy stands ahead of it or behind it, by their blocks.
func TestLeadParents(t *testing.T) {
	tree, d := pointed()
	for _, x := range []struct {
		from, to int
		blocks   []int
	}{
		{21, 40, []int{31, 40}}, {21, 9, []int{9, 31}}, {25, 30, []int{30, 32}}, {25, 33, []int{32, 33}}, {31, 9, []int{9}}, {31, 40, []int{40}}, {32, 4095, []int{4095}}, {32, 1, []int{1}}, {32, 32, nil}, {21, 21, nil},
	} {
		s, e := leadsOn(t, tree, d, x.from, x.to)
		var blocks []int
		for _, c := range s.Changes {
			blocks = append(blocks, c.Block)
			if c.Block == x.to && c.Data != d.blocks[x.from] {
				t.Errorf("%v: not a copy", x)
			}
		}
		if e != api.OK || !slices.Equal(blocks, x.blocks) || (len(s.Freed) > 0) != (x.from != x.to) {
			t.Errorf("%v: %v, %v", x, s, e)
		}
	}
	// A block that held something else, or what the node holds, is written in any case.
	d.blocks[40] = "?"
	if s, _ := leadsOn(t, tree, d, 21, 40); len(s.Changes) != 2 {
		t.Error(s)
	}
	d.blocks[40] = d.blocks[21]
	if s, _ := leadsOn(t, tree, d, 21, 40); len(s.Changes) != 2 {
		t.Error(s)
	}
	d.fails[40] = api.ErrDead
	if s, _ := leadsOn(t, tree, d, 21, 40); len(s.Changes) != 2 {
		t.Error(s)
	}
}

// P15.4: an error of Walk comes ahead of ErrNone, and that ahead of ErrArg.
func TestMoveOrder(t *testing.T) {
	for _, x := range trees() {
		_, _, reads, _ := told(x.tree, x.d)
		for i, b := range reads {
			if i > 3 && i < len(reads)-1 {
				continue
			}
			for _, e := range append(failures(), api.OK) {
				other := x.d.clone()
				if e == api.OK {
					other.blocks[b] = "?"
				} else {
					other.fails[b] = e
				}
				for _, a := range [][3]int{{0, 1, 3000}, {0, 1, 0}, {0, 2, 3000}, {0, 2, 0}} {
					if _, got := moves(t, x.tree, other, a[0], a[1], a[2]); got == api.OK || got == api.ErrNone && e != api.ErrNone {
						t.Errorf("%v: %v", x.tree, got)
					}
				}
				for _, a := range [][2]int{{b, 3000}, {b, 0}, {3001, 3000}, {3001, 0}} {
					if _, got := leadsOn(t, x.tree, other, a[0], a[1]); got == api.OK || got == api.ErrNone && e != api.ErrNone {
						t.Errorf("%v: %v", x.tree, got)
					}
				}
			}
		}
		if len(reads) > 0 {
			if e := second(Move(x.tree, x.d.read, 0, 2, 0)); e != api.ErrNone {
				t.Error(e)
			}
			if e := second(Lead(x.tree, x.d.read, 3001, 0)); e != api.ErrNone {
				t.Error(e)
			}
		}
	}
}

func second(_ Set, e api.Errno) api.Errno { return e }

// P15.4: Moves and Leads one behind the other on trees made up at random; the list is what the Moves made of it, and the nodes are where they were led.
func TestRandomMoves(t *testing.T) {
	r := rand.New(rand.NewSource(154))
	done := 0
	for range 300 {
		d := newDisk()
		tree := grown(d, some(r, 1+r.Intn(60)), r.Intn(4), func() int { return 2 + r.Intn(9) })
		if tree.Depth > 4 {
			continue
		}
		for range 20 {
			l, nodes, _, _ := walked(t, tree, d)
			var s Set
			e := api.ErrNone
			if r.Intn(2) == 0 {
				x := l[r.Intn(len(l))]
				s, e = moves(t, tree, d, x.Logical, x.Len+r.Intn(8)/7, r.Intn(4100))
			} else if len(nodes) > 0 {
				s, e = leadsOn(t, tree, d, nodes[r.Intn(len(nodes))], r.Intn(4100))
			}
			if e == api.OK {
				tree = d.take(s)
				done++
			}
		}
	}
	if done < 1000 {
		t.Error("so few were done:", done)
	}
}

// walked is what is told of a tree that must be one.
func walked(t *testing.T, tree Tree, d *disk) ([]api.Ext, []int, []int, api.Errno) {
	t.Helper()
	l, nodes, reads, e := told(tree, d)
	if e != api.OK {
		t.Fatalf("%v: %v", tree, e)
	}
	return l, nodes, reads, e
}
