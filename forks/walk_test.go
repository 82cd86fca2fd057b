package forks

import (
	"math/rand"
	"slices"
	"testing"

	"glissade/api"
)

// evenly is a size of nodes that is always the same.
func evenly(n int) func() int { return func() int { return n } }

// trees are trees of each depth, of full nodes and of ones with few entries, laid out each on a disk of its own.
func trees() []struct {
	tree Tree
	d    *disk
} {
	var all []struct {
		tree Tree
		d    *disk
	}
	add := func(l []api.Ext, depth, size int) {
		d := newDisk()
		tree := grown(d, l, depth, evenly(size))
		all = append(all, struct {
			tree Tree
			d    *disk
		}{tree, d})
	}
	add(nil, 0, 1)
	for _, n := range []int{1, 3, 4} {
		for depth := range 5 {
			add(every(n, 2, 100), depth, 1)
			add(every(n, 2, 100), depth, 10)
		}
	}
	for _, n := range []int{5, 11, 20, 40} {
		add(every(n, 1, 100), 1, 10)
		add(every(n, 1, 100), 2, 5)
		add(every(n, 1, 100), 3, 10)
		add(every(n, 3, 100), 4, 4)
	}
	add(every(400, 2, 100), 2, 10)
	add(every(900, 2, 100), 4, 6)
	add(every(2048, 1, 100), 4, 8)
	return all
}

// P15.2: the list and the nodes of trees of each depth, and that each block is read once, from left to right and each node ahead of those to which it points.
func TestWalk(t *testing.T) {
	for _, x := range trees() {
		if !mayTree(x.tree) {
			t.Fatalf("no tree: %v", x.tree)
		}
		if _, _, e := walks(t, x.tree, x.d); e != api.OK {
			t.Errorf("%v: %v", x.tree, e)
		}
	}
	// By hand: two nodes above four leaves.
	d := newDisk()
	d.blocks[30] = lay(row(0, 90, 0, 5, 20, 0), false)
	d.blocks[10] = lay(row(9, 80, 0, 12, 40, 0), false)
	d.blocks[90] = lay(row(0, 500, 2, 2, 502, 3), true)
	d.blocks[20] = lay(row(5, 600, 4), true)
	d.blocks[80] = lay(row(9, 601, 1, 10, 500, 2), true)
	d.blocks[40] = lay(row(12, 4095, 1), true)
	l, nodes, e := walks(t, Tree{2, row(0, 30, 0, 9, 10, 0)}, d)
	if e != api.OK || !slices.Equal(l, list(0, 500, 2, 2, 502, 3, 5, 600, 4, 9, 601, 1, 10, 500, 2, 12, 4095, 1)) || !slices.Equal(nodes, []int{10, 20, 30, 40, 80, 90}) {
		t.Error(l, nodes, e)
	}
	d.reads = nil
	if _, _, e := Walk(Tree{2, row(0, 30, 0, 9, 10, 0)}, d.read); e != api.OK || !slices.Equal(d.reads, []int{30, 90, 20, 10, 80, 40}) {
		t.Error(d.reads, e)
	}
}

// P15.2, R1: a Depth and a Root that are none of a tree's; nothing is read then.
func TestRoots(t *testing.T) {
	d := newDisk()
	for i := range 9 {
		d.blocks[50+i] = lay(row(2*i, 100+i, 1), true)
	}
	roots := [][]api.Entry{nil, {}, row(0, 50, 0), row(0, 100, 1), leaves(4, 2), leaves(5, 2), above(4, 2), above(5, 2), leaves(11, 1), above(300, 1)}
	for n := range 6 {
		var l []api.Entry
		for i := range n {
			l = append(l, api.Entry{Logical: 2 * i, Physical: 50 + i})
		}
		roots = append(roots, l)
	}
	for _, m := range far() {
		roots = append(roots, row(m, 50, 0), row(0, m, 0), row(0, 50, m), row(m, 100, 1), row(0, m, 1), row(0, 100, m), row(0, 50, 0, m, 51, 0), row(0, 50, 0, 2, m, 0), row(0, 50, 0, 2, 51, m), row(0, 100, 1, m, 102, 1))
	}
	roots = append(roots, row(0, 50, 0, 2, 102, 1), row(0, 100, 1, 2, 51, 0), row(2, 51, 0, 0, 50, 0), row(2, 102, 1, 0, 100, 1), row(0, 100, 2, 1, 102, 1), row(0, 50, 0, 0, 51, 0), row(0, 50, 0, 2, 50, 0))
	good := 0
	for _, root := range roots {
		for _, depth := range append(far(), 3, 4, 5, 6) {
			tree := Tree{depth, root}
			if _, _, e := walks(t, tree, d); e == api.OK {
				good++
			}
			// With nobody to read, a tree with nodes is none, and one without them is what it was.
			want := api.ErrForm
			var wantL []api.Ext
			if depth == 0 && mayTree(tree) {
				want = api.OK
				wantL, _, _, _ = told(tree, d)
			}
			if l, nodes, e := Walk(tree, nil); e != want || !slices.Equal(l, wantL) || len(nodes) > 0 {
				t.Errorf("Walk(%v, nil) = %v, %v, %v", tree, l, nodes, e)
			}
			if want != api.OK {
				if x, e := Replace(tree, nil, 0, 0, nil, nil); e != want {
					t.Errorf("Replace(%v, nil) = %v, %v", tree, x, e)
				}
				if x, e := Move(tree, nil, 0, 1, 9); e != want {
					t.Errorf("Move(%v, nil) = %v, %v", tree, x, e)
				}
				if x, e := Lead(tree, nil, 50, 9); e != want {
					t.Errorf("Lead(%v, nil) = %v, %v", tree, x, e)
				}
			}
		}
	}
	if good < 10 {
		t.Error("so few were trees:", good)
	}
}

// failures are the errors that blocks are read with, among them one that nobody knows.
func failures() []api.Errno {
	return []api.Errno{api.ErrBlock, api.ErrDead, api.ErrForm, api.ErrArg, api.ErrNone, 777, -1}
}

// P15.2: each node in turn fails to be read, or is no node; whatever is wrong with one that is read later is not to be seen then.
func TestFaults(t *testing.T) {
	for _, x := range trees() {
		_, _, reads, _ := told(x.tree, x.d)
		for i, b := range reads {
			// Of great trees the first and the last nodes are enough.
			if i > 30 && i < len(reads)-3 {
				continue
			}
			for _, e := range failures() {
				faulty(t, x.tree, x.d, reads[i:], func(d *disk) { d.fails[b] = e }, e)
			}
			faulty(t, x.tree, x.d, reads[i:], func(d *disk) { delete(d.blocks, b) }, api.ErrBlock)
			for _, s := range noNodes(x.d.blocks[b]) {
				faulty(t, x.tree, x.d, reads[i:], func(d *disk) { d.blocks[b] = s }, api.ErrForm)
			}
		}
	}
}

// noNodes is blocks that are none of a node, or of one of another height, or of one that begins one before or one behind where it should.
func noNodes(was string) []string {
	l, leaf, _ := unlay(was)
	blocks := []string{"", "F", was[:127], was + "\x00", "f" + was[1:], was[:127] + "\x01", was[:2] + "\x00" + was[3:], was[:2] + "\x0b" + was[3:], lay(nil, leaf), lay(l, !leaf)}
	other := slices.Clone(l)
	for i := range other {
		other[i].Len = 1 - min(1, other[i].Len)
	}
	blocks = append(blocks, lay(other, !leaf))
	for _, by := range []int{-1, 1} {
		off := slices.Clone(l)
		off[0].Logical += by
		blocks = append(blocks, lay(off, leaf))
	}
	return blocks
}

// faulty holds a Walk in which a node is not to be had against what is told, also with other faults in the nodes that would be read behind it.
func faulty(t *testing.T, tree Tree, d *disk, rest []int, spoil func(*disk), want api.Errno) {
	t.Helper()
	for _, more := range []func(*disk, int){
		func(*disk, int) {},
		func(d *disk, b int) { d.fails[b] = 778 },
		func(d *disk, b int) { d.blocks[b] = "?" },
		func(d *disk, b int) { d.blocks[b] = d.blocks[rest[0]] },
	} {
		other := d.clone()
		if len(rest) > 1 {
			more(other, rest[1])
			more(other, rest[len(rest)-1])
		}
		spoil(other)
		if _, _, e := walks(t, tree, other); e != want || other.reads[len(other.reads)-1] != rest[0] {
			t.Errorf("%v, block %d: %v, not %v; %v", tree, rest[0], e, want, other.reads)
		}
	}
}

// pointed is a tree of two levels above the leaves, whose entries can be led elsewhere by hand.
func pointed() (Tree, *disk) {
	d := newDisk()
	d.blocks[31] = lay(row(0, 21, 0, 4, 22, 0, 8, 23, 0), false)
	d.blocks[32] = lay(row(12, 24, 0, 16, 25, 0), false)
	for i := range 5 {
		d.blocks[21+i] = lay(row(4*i, 100+4*i, 2, 4*i+2, 102+4*i, 2), true)
	}
	return Tree{2, row(0, 31, 0, 12, 32, 0)}, d
}

// P15.2: a block to which two entries point, in one node, in two, in the root, or in the node itself, is not read again; and it is no tree.
func TestTwice(t *testing.T) {
	tree, d := pointed()
	if _, _, e := walks(t, tree, d); e != api.OK {
		t.Fatal(e)
	}
	all := []int{21, 22, 23, 24, 25, 31, 32}
	for _, to := range all {
		for i := range tree.Root {
			if tree.Root[i].Physical == to {
				continue
			}
			other := Tree{2, slices.Clone(tree.Root)}
			other.Root[i].Physical = to
			if _, _, e := walks(t, other, d); e != api.ErrForm {
				t.Errorf("root %d to %d: %v", i, to, e)
			}
		}
		for _, b := range []int{31, 32} {
			l, _, _ := unlay(d.blocks[b])
			for i := range l {
				if l[i].Physical == to {
					continue
				}
				m := slices.Clone(l)
				m[i].Physical = to
				other := d.clone()
				other.blocks[b] = lay(m, false)
				if _, _, e := walks(t, tree, other); e != api.ErrForm {
					t.Errorf("block %d, %d to %d: %v", b, i, to, e)
				}
			}
		}
	}
	// The same block at the same Logical, so that nothing but the second time is wrong.
	other := d.clone()
	other.blocks[31] = lay(row(0, 31, 0, 4, 22, 0), false)
	if _, _, e := walks(t, tree, other); e != api.ErrForm || !slices.Equal(other.reads, []int{31}) {
		t.Error(e, other.reads)
	}
	// It is told ahead of what is wrong behind it.
	other.blocks[31] = lay(row(0, 21, 0, 4, 21, 0, 5, 22, 0), false)
	other.fails[22] = 777
	if _, _, e := walks(t, tree, other); e != api.ErrForm || !slices.Equal(other.reads, []int{31, 21}) {
		t.Error(e, other.reads)
	}
	// A node of each height below another with the same first Logical, to which it leads again.
	for depth := 2; depth <= 4; depth++ {
		d := newDisk()
		tree := grown(d, every(2, 1, 100), depth, evenly(1))
		_, _, reads, _ := told(tree, d)
		for i, b := range reads {
			for _, c := range reads[:i+1] {
				other := d.clone()
				if l, leaf, _ := unlay(other.blocks[b]); !leaf {
					l[0].Physical = c
					other.blocks[b] = lay(l, false)
					if _, _, e := walks(t, tree, other); e != api.ErrForm {
						t.Errorf("depth %d, %d to %d: %v", depth, b, c, e)
					}
				}
			}
		}
	}
}

// P15.2: an entry points to the Logical of its node's first entry, and not one beside it.
func TestPoints(t *testing.T) {
	for by := -2; by <= 2; by++ {
		tree, d := pointed()
		want := api.ErrForm
		if by == 0 {
			want = api.OK
		}
		tree.Root[1].Logical += by
		if _, _, e := walks(t, tree, d); e != want {
			t.Errorf("root by %d: %v", by, e)
		}
		tree.Root[1].Logical -= by
		for _, b := range []int{31, 32} {
			l, _, _ := unlay(d.blocks[b])
			for i := range l {
				m := slices.Clone(l)
				m[i].Logical += by
				if m[i].Logical < 0 {
					continue
				}
				other := d.clone()
				other.blocks[b] = lay(m, false)
				if _, _, e := walks(t, tree, other); e != want {
					t.Errorf("block %d, %d by %d: %v", b, i, by, e)
				}
			}
		}
	}
}

// P15.2: leaves that overlap are told when all are read; ones that touch are good.
func TestOverlap(t *testing.T) {
	for _, x := range []struct {
		n    int
		want api.Errno
	}{{1, api.OK}, {2, api.OK}, {3, api.ErrForm}, {4, api.ErrForm}, {200, api.ErrForm}} {
		for i := range 4 {
			tree, d := pointed()
			d.blocks[21+i] = lay(row(4*i, 100+4*i, 2, 4*i+2, 102+4*i, x.n), true)
			if _, _, e := walks(t, tree, d); e != x.want || len(d.reads) != 7 {
				t.Errorf("leaf %d, %d: %v, %v", i, x.n, e, d.reads)
			}
			// A block that fails is told ahead of it, wherever it is.
			d.fails[25] = api.ErrDead
			if _, _, e := walks(t, tree, d); e != api.ErrDead {
				t.Errorf("leaf %d, %d: %v", i, x.n, e)
			}
		}
	}
	// The last leaf may go up to the last logical block, and not beyond.
	tree, d := pointed()
	for n, want := range map[int]api.Errno{2030: api.OK, 2031: api.ErrForm} {
		d.blocks[25] = lay(row(16, 100, 2, 18, 102, n), true)
		if _, _, e := walks(t, tree, d); e != want {
			t.Errorf("%d: %v", n, e)
		}
	}
	// A node whose entries are beyond those of the next one.
	tree, d = pointed()
	d.blocks[31] = lay(row(0, 21, 0, 4, 22, 0, 12, 23, 0), false)
	d.blocks[23] = lay(row(12, 100, 1), true)
	if _, _, e := walks(t, tree, d); e != api.ErrForm {
		t.Error(e)
	}
	d.blocks[31] = lay(row(0, 21, 0, 4, 22, 0, 11, 23, 0), false)
	d.blocks[23] = lay(row(11, 100, 1), true)
	if _, _, e := walks(t, tree, d); e != api.OK {
		t.Error(e)
	}
}

// P15.2: a node in a block that an extent has, too, at its first, its last or a middle block, in any leaf; two extents may have the same blocks.
func TestNodeInExtent(t *testing.T) {
	for leaf := range 5 {
		for _, node := range []int{21, 22, 23, 24, 25, 31, 32} {
			for at := node - 4; at <= node+1; at++ {
				tree, d := pointed()
				d.blocks[21+leaf] = lay(row(4*leaf, at, 3), true)
				want := api.OK
				for b := at; b < at+3; b++ {
					if b >= 21 && b <= 25 || b == 31 || b == 32 {
						want = api.ErrForm
					}
				}
				if _, _, e := walks(t, tree, d); e != want {
					t.Errorf("leaf %d at %d: %v", leaf, at, e)
				}
			}
		}
	}
	tree, d := pointed()
	for i := range 5 {
		d.blocks[21+i] = lay(row(4*i, 100, 2, 4*i+2, 101, 2), true)
	}
	if _, _, e := walks(t, tree, d); e != api.OK {
		t.Error(e)
	}
}

// P15.2: trees in which entries and bytes are changed at random.
func TestRandomFaults(t *testing.T) {
	r := rand.New(rand.NewSource(152))
	seen := map[api.Errno]int{}
	for range 6000 {
		d := newDisk()
		tree := grown(d, some(r, 1+r.Intn(40)), r.Intn(4), func() int { return 2 + r.Intn(9) })
		if tree.Depth > 4 {
			continue
		}
		var all []int
		for b := range d.blocks {
			all = append(all, b)
		}
		slices.Sort(all)
		any := func() int {
			if len(all) == 0 {
				return 4000
			}
			return all[r.Intn(len(all))]
		}
		for range r.Intn(3) {
			b := any()
			l, leaf, ok := unlay(d.blocks[b])
			if !ok {
				continue
			}
			i := r.Intn(len(l))
			switch r.Intn(8) {
			case 0:
				l[i].Physical = any()
			case 1:
				l[i].Logical += r.Intn(5) - 2
			case 2:
				l[i].Len += r.Intn(3) - 1
			case 3:
				leaf = !leaf
			case 4:
				d.fails[b] = failures()[r.Intn(7)]
			case 5:
				delete(d.blocks, b)
				continue
			case 6:
				s := []byte(d.blocks[b])
				s[r.Intn(128)] ^= 1 << r.Intn(8)
				d.blocks[b] = string(s)
				continue
			case 7:
				l[i].Physical = 1 + r.Intn(4095)
			}
			d.blocks[b] = lay(l, leaf)
		}
		if r.Intn(10) == 0 && len(tree.Root) > 0 {
			i := r.Intn(len(tree.Root))
			tree.Root[i].Physical = any()
			tree.Root[i].Logical += r.Intn(2)
		}
		_, _, e := walks(t, tree, d)
		seen[e]++
	}
	if seen[api.OK] < 500 || seen[api.ErrForm] < 500 || seen[777] < 20 {
		t.Error("so many of each:", seen)
	}
}
