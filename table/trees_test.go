package table_test

import (
	"math"
	"slices"
	"testing"

	"glissade/alloc"
	"glissade/api"
	"glissade/table"
)

// file is a system with one file, whose tree has that depth, and nodes of so many entries; they are the blocks from one on. A directory stands ahead of it.
func file(t *testing.T, g api.Geometry, depth, most, node int, l []api.Ext) *pair {
	t.Helper()
	p := acting(t, g)
	p.create(api.InDir, 2)
	p.create(api.InFile, 1)
	p.plant(1, depth, most, node, l)
	p.next()
	p.holds()
	return p
}

// forest is files whose trees are of each depth.
func forest(t *testing.T) []*pair {
	t.Helper()
	return []*pair{
		file(t, wide(t), 0, 1, 0, nil),
		file(t, wide(t), 0, 1, 0, every(4, 3, 400)),
		file(t, wide(t), 1, 1, 300, every(1, 3, 400)),
		file(t, wide(t), 1, 10, 300, every(40, 3, 400)),
		file(t, wide(t), 2, 10, 300, every(70, 3, 400)),
		file(t, wide(t), 3, 2, 300, every(30, 3, 400)),
		file(t, wide(t), 4, 1, 300, every(3, 3, 400)),
		file(t, wide(t), 4, 3, 200, every(200, 3, 400)),
		file(t, whole(t), 3, 8, 3500, every(1024, 2, 1000)),
	}
}

// P18.3: Exts is the extent list of trees of each depth, and their nodes, ascending; it changes nothing, and its lists are new.
func TestExts(t *testing.T) {
	for i, p := range forest(t) {
		want, nodes := p.tree(1)
		p.same(func() {
			for range 2 {
				l, got, e := table.Exts(p.x, 1)
				if !slices.Equal(l, want) || !slices.Equal(got, nodes) || e != api.OK {
					t.Fatal(i, l, got, e)
				}
				clear(l)
				clear(got)
				_, _ = append(l, api.Ext{}), append(got, 0)
			}
			if l, got, e := table.Exts(p.x, 0); len(l) != 0 || len(got) != 0 || e != api.OK {
				t.Fatal(i, l, got, e)
			}
		})
	}
}

// P18.3, R5: ErrNone of an inode that there is not, and of one that is free, ahead of what the superblock and a tree are.
func TestExtsNone(t *testing.T) {
	p := furnished(t, small(t))
	p.begin()
	for _, super := range []string{superBytes(p.w.super), letters("x")} {
		p.write(0, super)
		for _, n := range append(far(p.g), 4) {
			if n >= 0 && n < p.g.Inodes && p.w.inodes[n].kind != api.InFree {
				continue
			}
			if l, nodes, e := table.Exts(p.x, n); len(l) != 0 || len(nodes) != 0 || e != api.ErrNone {
				t.Error(n, l, nodes, e)
			}
			p.are(api.ErrNone, table.Set(p.x, n, 0, 1, nil), table.Set(p.x, n, 1, 0, list(0, 0, 0)), table.Drop(p.x, n), table.Slide(p.x, n, 0, api.Move{}), table.Lead(p.x, n, 0, 0))
		}
	}
}

// noSupers is blocks of no valid superblock.
func noSupers(s api.Super) []string {
	still := api.Super{Blocks: s.Blocks, Log: s.Log, Inodes: s.Inodes, Cursor: s.Cursor}
	l := []string{letters("\x00"), letters("x"), superBytes(still)[:127] + "\x01", "G" + superBytes(still)[1:]}
	for _, change := range []func(s *api.Super){
		func(s *api.Super) { s.Blocks++; s.Blocks = 255 },
		func(s *api.Super) { s.Log = 127 },
		func(s *api.Super) { s.Inodes = 9 },
		func(s *api.Super) { s.Cursor = s.Blocks + 1 },
		func(s *api.Super) { s.Inode = 1 },
		func(s *api.Super) { s.Moved = 1 },
		func(s *api.Super) { s.Inode, s.From, s.To, s.Len, s.Moved = 1, 200, 190, 4, 4 },
		func(s *api.Super) { s.Inode, s.From, s.To, s.Len, s.Moved = s.Inodes, 200, 190, 4, 3 },
		func(s *api.Super) { s.Inode, s.From, s.To, s.Len = 1, 200, 190, 4 },
	} {
		x := still
		change(&x)
		l = append(l, superBytes(x))
	}
	return l
}

// P18.3 to P18.7: a block 0 of no valid superblock is ErrForm to all that need it, ahead of what a tree is, and of what else is wrong; others do not need it.
func TestInvalidSuper(t *testing.T) {
	for _, depth := range []int{0, 1} {
		p := file(t, small(t), depth, 4, 180, every(3, 3, 200))
		broken := p.raw(1)
		if depth > 0 {
			broken.Root[0].Physical = 7 // a block of the log
		}
		for _, s := range noSupers(p.w.super) {
			p.write(0, s)
			p.inscribe(1, inodeBytes(broken))
			if x, e := table.Super(p.x); x != (api.Super{}) || e != api.ErrForm {
				t.Fatal(x, e)
			}
			if l, nodes, e := table.Exts(p.x, 1); len(l) != 0 || len(nodes) != 0 || e != api.ErrForm {
				t.Fatal(l, nodes, e)
			}
			p.are(api.ErrForm,
				table.Aim(p.x, 200), table.Aim(p.x, -1), table.Settle(p.x), table.Set(p.x, 1, 0, 1, nil), table.Set(p.x, 1, 1, 0, list(0, 0, 0)), table.Drop(p.x, 1),
				table.Slide(p.x, 1, 0, api.Move{From: 200, To: 190, Len: 1}), table.Slide(p.x, 1, 0, api.Move{}),
			)
			if p.block(0) != s || p.stored(1) != inodeBytes(broken) {
				t.Fatal("something was changed")
			}
			p.inscribe(1, inodeBytes(p.w.begunRaw(p)))
			if depth > 0 {
				p.are(api.OK, table.Lead(p.x, 1, 180, 180))
				p.are(api.ErrNone, table.Lead(p.x, 1, 181, 180))
			}
			if x, e := table.Get(p.x, 1); x.Kind != api.InFile || e != api.OK {
				t.Fatal(x, e)
			}
			if l, e := table.Used(p.x); len(l) != 2 || e != api.OK {
				t.Fatal(l, e)
			}
			p.are(api.OK, table.Put(p.x, 3, api.Inode{}))
		}
		p.undo()
		p.holds()
	}
}

// begunRaw is inode 1 as it was when the act in progress began; its tree has the three extents that begin at 200, in a node at 180 or without one.
func (w *told) begunRaw(p *pair) api.Inode {
	x := p.raw(1)
	if x.Depth > 0 {
		x.Root[0].Physical = 180
	}
	return x
}

// fault is what may be wrong with a tree, and the error that a walk through it comes to.
type fault struct {
	name string
	e    api.Errno
	do   func(p *pair)
}

// root changes an entry of the root of inode 1.
func root(i int, change func(y *api.Entry)) func(p *pair) {
	return func(p *pair) {
		x := p.raw(1)
		change(&x.Root[i])
		p.inscribe(1, inodeBytes(x))
	}
}

// faults is what may be wrong with a tree of depth 2, with nodes of two entries: the leaves are 300 to 302, the nodes above them 303 and 304.
func faults() []fault {
	leaf := func(n ...int) func(p *pair) { return func(p *pair) { p.write(301, nodeBytes(row(n...), true)) } }
	return []fault{
		{"a node behind the device", api.ErrBlock, root(1, func(y *api.Entry) { y.Physical = 1301 })},
		{"a node far behind the device", api.ErrBlock, root(0, func(y *api.Entry) { y.Physical = 4095 })},
		{"a node in the log", api.ErrBlock, root(0, func(y *api.Entry) { y.Physical = 128 })},
		{"a leaf in the log", api.ErrBlock, func(p *pair) { p.write(304, nodeBytes(row(12, 1, 0), false)) }},
		{"a block that is no node", api.ErrForm, func(p *pair) { p.write(301, letters("x")) }},
		{"a node without entries", api.ErrForm, func(p *pair) { p.write(301, letters("\x00")) }},
		{"a leaf that is none", api.ErrForm, func(p *pair) { p.write(301, nodeBytes(row(6, 300, 0, 9, 302, 0), false)) }},
		{"a node that is a leaf", api.ErrForm, func(p *pair) { p.write(304, nodeBytes(row(12, 408, 1), true)) }},
		{"an entry of another place", api.ErrForm, root(1, func(y *api.Entry) { y.Logical++ })},
		{"a leaf of another place", api.ErrForm, leaf(7, 404, 1, 9, 406, 1)},
		{"one node twice", api.ErrForm, func(p *pair) { p.write(304, nodeBytes(row(12, 301, 0), false)) }},
		{"the root's node twice", api.ErrForm, root(1, func(y *api.Entry) { y.Physical = 303 })},
		{"a list not in order", api.ErrForm, leaf(6, 404, 7)},
		{"an extent over a node", api.ErrForm, leaf(6, 404, 1, 9, 302, 1)},
		{"an extent that ends in a node", api.ErrForm, leaf(6, 404, 1, 9, 299, 2)},
	}
}

// P18.3 to P18.7: a tree that is not consistent, or has a node that cannot be read, is the error of forks to all that walk through it, and nothing is changed.
func TestInvalidTree(t *testing.T) {
	for _, f := range faults() {
		for _, move := range []bool{false, true} {
			p := file(t, wide(t), 2, 2, 300, every(5, 3, 400))
			f.do(p)
			want := f.e
			if move { // an extent that is not there, which is told of behind what the tree is
				s := p.w.super
				s.Inode, s.From, s.To, s.Len, s.Moved = 1, 600, 590, 4, 3
				p.write(0, superBytes(s))
			}
			p.next()
			if l, nodes, e := table.Exts(p.x, 1); len(l) != 0 || len(nodes) != 0 || e != want {
				t.Errorf("%s: %v, %v, %v, wanted %v", f.name, l, nodes, e, want)
			}
			p.are(want, table.Set(p.x, 1, 0, 1, nil), table.Drop(p.x, 1), table.Slide(p.x, 1, 0, api.Move{From: 400, To: 390, Len: 1}), table.Slide(p.x, 1, 0, api.Move{}),
				table.Lead(p.x, 1, 300, 700), table.Lead(p.x, 1, 1, 1))
			if move {
				p.are(want, table.Settle(p.x), table.Set(p.x, 1, 1, 0, nil))
			} else {
				p.are(api.ErrArg, table.Set(p.x, 1, 1, 0, nil), table.Set(p.x, 1, 0, 1, list(0, 0, 1)))
			}
			if changed, waiting, _ := p.x.Size(); changed != 0 || waiting != 0 {
				t.Error(f.name, changed, waiting)
			}
			if l, nodes, e := table.Exts(p.x, 0); len(l) != 0 || len(nodes) != 0 || e != api.OK {
				t.Error(l, nodes, e)
			}
		}
	}
}

// P18.3: while an extent of an inode is being moved, it stands as its two parts, also where these are contiguous with each other or with others; other inodes have what they had.
func TestExtsMoved(t *testing.T) {
	for _, depth := range []int{0, 1, 2} {
		for i, x := range list(0, 400, 5, 9, 410, 2, 11, 412, 30) {
			for _, to := range []int{380, x.Physical - 1, x.Physical, x.Physical + 1, 500} {
				for moved := 1; moved < x.Len; moved++ {
					p := file(t, wide(t), depth, 2, 300, list(0, 400, 5, 9, 410, 2, 11, 412, 30))
					p.create(api.InFile, 1)
					p.plant(2, 0, 0, 0, list(0, 600, 5))
					p.are(api.OK, p.slide(1, x.Logical, x.Physical, to, moved))
					p.holds()
					l, _, e := table.Exts(p.x, 1)
					if len(l) != 4 || l[i] != (api.Ext{Logical: x.Logical, Physical: to, Len: moved}) || l[i+1] != (api.Ext{Logical: x.Logical + moved, Physical: x.Physical + moved, Len: x.Len - moved}) || e != api.OK {
						t.Fatal(l, e)
					}
					p.next()
					p.holds()
				}
			}
		}
	}
}

// P18.3, P18.6: a move that names an extent which the list does not have is ErrForm, if it is one of this inode.
func TestExtsNotMoved(t *testing.T) {
	p := file(t, wide(t), 1, 2, 300, list(0, 400, 5, 9, 410, 2, 11, 412, 30))
	p.create(api.InFile, 1)
	p.plant(2, 0, 0, 0, list(0, 600, 5))
	p.next()
	before := p.w.super
	for _, x := range list(0, 400, 4, 0, 400, 6, 0, 401, 5, 1, 400, 5, 0, 399, 5, 9, 410, 32, 1, 401, 3, 6, 406, 2, 11, 412, 2, 41, 412, 30) {
		s := before
		s.Inode, s.Logical, s.From, s.To, s.Len, s.Moved = 1, x.Logical, x.Physical, 200, x.Len, 1
		p.write(0, superBytes(s))
		p.w.super = s
		p.holds()
		p.same(func() {
			p.are(api.ErrForm, p.settle(), p.set(1, 0, 9, nil), p.set(1, 1, 0, nil), p.drop(1), p.slide(1, 0, 400, 300, 1), p.slide(1, x.Logical+1, x.Physical+1, 201, 1))
			p.are(api.ErrArg, p.slide(2, 0, 600, 590, 1))
		})
		p.take(list(0, 700, 1, 0, 800, 1)...)
		p.are(api.OK, p.set(2, 0, 2, list(1, 600, 1)), p.lead(1, 300, 700), p.lead(1, 700, 800))
		p.holds()
		p.undo()
		p.begin()
	}
	// An inode that is free, and one that there is not.
	for n, want := range map[int]api.Errno{3: api.ErrNone, 15: api.ErrNone, 0: api.ErrForm} {
		s := before
		s.Inode, s.Logical, s.From, s.To, s.Len, s.Moved = n, 0, 400, 200, 5, 1
		p.write(0, superBytes(s))
		p.w.super = s
		p.same(func() {
			p.are(want, p.settle())
			p.are(api.ErrArg, p.slide(1, 0, 400, 390, 1))
		})
	}
}

// P18.4: all ranges of a short list, with nothing, one extent, or one a block in their place, in trees of each depth.
func TestSetAll(t *testing.T) {
	for depth, most := range map[int]int{0: 1, 1: 1, 2: 2, 4: 1} {
		p := file(t, wide(t), depth, most, 300, list(1, 400, 3, 4, 403, 1, 6, 410, 2))
		p.take(list(0, 500, 40)...)
		p.next()
		for from := range 10 {
			for to := from; to < 10; to++ {
				var single []api.Ext
				for at := from; at < to; at++ {
					single = append(single, api.Ext{Logical: at, Physical: 530 - at, Len: 1})
				}
				lists := [][]api.Ext{nil, {}, single}
				if to > from {
					lists = append(lists, list(from, 500, to-from), list(from, 500, 1), list(to-1, 500, 1))
				}
				for _, l := range lists {
					given := slices.Clone(l)
					p.are(api.OK, p.set(1, from, to, l))
					p.holds()
					if !slices.Equal(l, given) {
						t.Fatal("the list is another one")
					}
					p.undo()
					p.begin()
				}
			}
		}
	}
}

// P18.4: what Replace does not take is ErrArg and changes nothing: ranges, lists that do not fit or are not in order, blocks of nodes.
func TestSetErrors(t *testing.T) {
	for depth, most := range map[int]int{0: 1, 1: 2, 3: 2} {
		p := file(t, wide(t), depth, most, 300, list(1, 400, 3, 4, 403, 1, 6, 410, 2))
		p.same(func() {
			for _, x := range [][2]int{{-1, 0}, {0, -1}, {2, 1}, {0, 2049}, {2049, 2049}, {2048, 2047}, {math.MinInt, 0}, {0, math.MaxInt}, {math.MaxInt, math.MinInt}, {math.MinInt, math.MaxInt}} {
				for _, l := range [][]api.Ext{nil, list(0, 500, 1)} {
					p.are(api.ErrArg, p.set(1, x[0], x[1], l))
				}
			}
			for _, l := range [][]api.Ext{
				list(1, 500, 1), list(5, 500, 1), list(1, 500, 5), list(2, 500, 4), list(2, 500, 1, 5, 501, 1), list(3, 500, 1, 2, 501, 1), list(2, 500, 2, 3, 505, 1), list(2, 500, 1, 2, 500, 1),
				list(2, 500, 0), list(2, 500, -1), list(2, 0, 1), list(2, -1, 1), list(2, 4095, 2), list(2, 4096, 1), list(-1, 500, 1), list(2, math.MaxInt, 1), list(math.MaxInt, 500, 1), list(2, 500, math.MaxInt), list(2, 500, math.MinInt),
			} {
				p.are(api.ErrArg, p.set(1, 2, 5, l))
			}
			p.are(api.ErrArg, p.set(1, 0, 0, list(0, 500, 1)), p.set(1, 2048, 2048, list(2047, 500, 1)))
			for _, b := range p.nodes(1) {
				p.are(api.ErrArg, p.set(1, 2, 3, list(2, b, 1)), p.set(1, 20, 2048, list(21, b-1, 2)))
			}
		})
		p.are(api.OK, p.set(1, 2047, 2048, list(2047, 500, 1)), p.set(1, 2048, 2048, nil), p.set(1, 0, 1, list(0, 4095, 1)), p.set(1, 0, 2048, nil))
		p.holds()
	}
}

// P18.4: a tree that gains levels and loses them again; new nodes are the first open blocks, and those that are nodes no longer are freed as metadata; the blocks to which extents map are neither allocated nor freed.
func TestSetGrows(t *testing.T) {
	for _, committing := range []bool{false, true} {
		p := acting(t, whole(t))
		p.create(api.InFile, 1)
		p.create(api.InFile, 1)
		p.plant(1, 2, 3, 3900, every(20, 3, 3800))
		p.next()
		depths := map[int]bool{}
		check := func() {
			t.Helper()
			p.holds()
			depths[p.raw(0).Depth] = true
			if committing {
				p.next()
				p.holds()
			}
		}
		for i := 0; i < 500; i += 20 {
			p.are(api.OK, p.set(0, 2*i, 2*i+40, offset(every(20, 2, 1000+2*i), 2*i)))
			check()
		}
		for i := 480; i >= 0; i -= 20 {
			p.are(api.OK, p.set(0, 2*i, 2*i+39, nil))
			check()
		}
		p.are(api.OK, p.set(0, 3, 2048, every(1000, 2, 1000)[2:]))
		check()
		p.are(api.OK, p.set(0, 0, 2048, list(0, 1000, 2048)))
		check()
		for depth := range 4 {
			if !depths[depth] {
				t.Error("no tree of depth", depth)
			}
		}
		if len(p.nodes(0)) != 0 {
			t.Error(p.nodes(0))
		}
	}
}

// offset is a list so many logical blocks later.
func offset(l []api.Ext, n int) []api.Ext {
	for i := range l {
		l[i].Logical += n
	}
	return l
}

// P18.4: new nodes are the first open blocks of the data, past those that are used and those that wait; nodes that are freed wait, too, and count as metadata that is revoked.
func TestSetNodes(t *testing.T) {
	p := acting(t, wide(t))
	p.create(api.InFile, 1)
	p.take(list(0, 139, 1, 0, 141, 1, 0, 400, 100)...)
	p.next()
	p.are(api.OK, alloc.Free(p.x, api.Run{Start: 141, Len: 1}, false))
	p.w.free(141, false)
	p.are(api.OK, p.set(0, 0, 30, every(15, 2, 400)))
	if got := p.nodes(0); !slices.Equal(got, []int{140, 142}) {
		t.Error(got)
	}
	p.holds()
	p.next()
	p.are(api.OK, p.set(0, 0, 30, nil))
	if _, waiting, revoked := p.x.Size(); waiting != 2 || revoked != 2 || !p.x.Waits(140) || !p.x.Waits(142) {
		t.Error(waiting, revoked)
	}
	p.holds()
	p.are(api.OK, p.set(0, 0, 30, every(15, 2, 400)))
	if got := p.nodes(0); !slices.Equal(got, []int{141, 143}) {
		t.Error(got)
	}
	p.holds()
}

// P18.4: where no block is free for a node that a Set needs, it is ErrSpace, whatever waits; one that needs none goes on.
func TestSetNoSpace(t *testing.T) {
	for room := range 4 {
		p := acting(t, small(t))
		p.create(api.InFile, 1)
		p.create(api.InFile, 1)
		p.take(list(0, 134, 122-room)...)
		p.next()
		p.are(api.OK, p.set(0, 0, 8, every(4, 2, 200)))
		p.holds()
		n := p.w.count()
		p.next()
		// 15 extents need two nodes, 25 need three, and 40 four.
		for nodes, l := range [][]api.Ext{every(4, 2, 200), every(10, 2, 200), every(20, 2, 200), every(30, 2, 180), every(40, 2, 160)} {
			want := api.OK
			if nodes > room {
				want = api.ErrSpace
			}
			if e := table.Set(p.x, 1, 0, 80, l); e != want {
				t.Fatalf("%d nodes in %d blocks: %v", nodes, room, e)
			}
			p.undo()
			p.holds()
			if m, e := alloc.Count(p.x); m != n || e != api.OK {
				t.Fatal(m, n, e)
			}
			p.begin()
		}
		// What waits gives no room.
		p.are(api.OK, alloc.Free(p.x, api.Run{Start: 140, Len: 9}, true))
		if e := table.Set(p.x, 1, 0, 80, every(40, 2, 160)); e != api.ErrSpace {
			t.Error(e)
		}
	}
}

func (w *told) count() int {
	n := 0
	for _, on := range w.bits {
		if !on {
			n++
		}
	}
	return n
}

// P18.4: an extent that was mapped to a block that nobody has taken may come to be that of a new node, which is ErrArg of Replace.
func TestSetUntaken(t *testing.T) {
	p := acting(t, small(t))
	p.create(api.InFile, 1)
	p.are(api.ErrArg, table.Set(p.x, 0, 0, 99, every(5, 2, 134)))
	p.undo()
	p.holds()
}

// P18.4: while an extent of the inode is being moved, the move is settled first; one of another inode goes on.
func TestSetMoved(t *testing.T) {
	for depth, most := range map[int]int{0: 1, 1: 2, 2: 2, 3: 1} {
		for from := range 14 {
			for to := from; to < 14; to++ {
				p := file(t, wide(t), depth, most, 300, list(0, 400, 5, 9, 410, 2, 11, 412, 30))
				p.create(api.InFile, 1)
				p.plant(2, 0, 0, 0, list(0, 600, 5))
				p.take(list(0, 700, 9)...)
				p.are(api.OK, p.slide(1, 0, 400, 390, 3))
				p.next()
				p.are(api.OK, p.set(2, from, to, nil))
				if p.w.super.Len == 0 {
					t.Fatal("the move of another inode was settled")
				}
				p.holds()
				var l []api.Ext
				if to > from {
					l = list(from, 700, 1)
				}
				p.are(api.OK, p.set(1, from, to, l))
				if p.w.super.Len != 0 {
					t.Fatal("the move was not settled")
				}
				p.holds()
				p.next()
				p.holds()
			}
		}
	}
}

// P18.4: a Set while an extent of the inode is being moved is a Settle and the same Set; also where the second is an error, which comes behind it.
func TestSetSettles(t *testing.T) {
	for n := range 45 {
		p, q := furnishedWith(t, n), furnishedWith(t, n)
		p.are(api.OK, table.Set(p.x, 1, 1, 3, list(2, 900, 1)))
		q.are(api.OK, table.Settle(q.x), table.Set(q.x, 1, 1, 3, list(2, 900, 1)))
		for b := range p.g.Blocks {
			if b >= 1 && b < p.g.MapAt {
				continue
			}
			if p.block(b) != q.block(b) || p.x.Waits(b) != q.x.Waits(b) {
				t.Fatal(n, b)
			}
		}
	}
	p := furnishedWith(t, 2)
	p.are(api.ErrArg, p.set(1, 2, 1, nil))
	if p.w.super.Len != 0 {
		t.Error("the move was not settled")
	}
	p.holds()
	p.undo()
	p.holds()
}

// furnishedWith is a file with an extent that is being moved, and behind it so many others.
func furnishedWith(t *testing.T, n int) *pair {
	t.Helper()
	p := acting(t, wide(t))
	p.create(api.InDir, 1)
	p.create(api.InFile, 1)
	l := append(list(0, 400, 8), offset(every(n, 2, 500), 20)...)
	p.take(l...)
	p.are(api.OK, p.set(1, 0, 2048, l), p.slide(1, 0, 400, 390, 3))
	p.next()
	return p
}

// P18.5: Drop frees all that an inode has: a file's blocks as data, a directory's as metadata, nodes as metadata; behind a commit as many blocks are free as before the inode was made.
func TestDrop(t *testing.T) {
	for _, kind := range []int{api.InFile, api.InDir} {
		for _, n := range []int{0, 1, 4, 5, 10, 11, 40, 41, 100, 401, 500} {
			for _, early := range []bool{false, true} {
				p := acting(t, whole(t))
				p.create(api.InDir, 2)
				p.take(list(0, 600, 1)...)
				p.are(api.OK, p.set(0, 0, 1, list(0, 600, 1)))
				p.next()
				free := p.w.count()
				p.create(kind, 1)
				l := every(n, 2, 1000)
				p.take(l...)
				p.are(api.OK, p.set(1, 0, 2048, l))
				nodes := len(p.nodes(1))
				if early {
					p.next()
				}
				p.are(api.OK, p.drop(1))
				p.holds()
				_, waiting, revoked := p.x.Size()
				if kind == api.InFile && revoked != nodes || kind == api.InDir && revoked != n+nodes || waiting != n+nodes {
					t.Fatal(kind, n, nodes, waiting, revoked)
				}
				if p.stored(1) != letters("\x00")[:64] {
					t.Fatal("the inode is not free")
				}
				p.same(func() { p.are(api.ErrNone, p.drop(1)) })
				p.next()
				p.holds()
				if m, e := alloc.Count(p.x); m != free || e != api.OK {
					t.Fatal(kind, n, m, free, e)
				}
			}
		}
	}
}

// P18.5: trees of each depth, and such as Replace does not build, are freed whole; so are blocks to which two extents map.
func TestDropForest(t *testing.T) {
	for _, p := range forest(t) {
		nodes, n := len(p.nodes(1)), len(p.w.inodes[1].list)
		p.are(api.OK, p.drop(1))
		p.holds()
		if _, waiting, revoked := p.x.Size(); waiting != n+nodes || revoked != nodes {
			t.Error(waiting, revoked)
		}
		p.next()
		p.holds()
		if p.w.count() != p.g.Blocks-p.g.DataAt {
			t.Error(p.w.count())
		}
	}
	p := acting(t, small(t))
	p.create(api.InFile, 1)
	p.take(list(0, 200, 6)...)
	p.are(api.OK, p.set(0, 0, 40, list(0, 200, 5, 7, 203, 3, 20, 200, 1)), p.drop(0))
	p.holds()
	p.create(api.InFile, 1)
	p.next()
	p.are(api.OK, p.drop(0))
	p.holds()
	if changed, waiting, _ := p.x.Size(); changed != 1 || waiting != 0 { // just the inode
		t.Error(changed, waiting)
	}
}

// P18.5: with a move of the inode in progress, what was moved and what was not is freed, and no move is in progress any more; one of another inode goes on.
func TestDropMoved(t *testing.T) {
	for depth, most := range map[int]int{0: 1, 1: 2, 3: 1} {
		for moved := 1; moved < 5; moved++ {
			for _, to := range []int{380, 398, 403, 450} {
				p := file(t, wide(t), depth, most, 300, list(0, 400, 5, 9, 410, 2, 11, 412, 30))
				p.create(api.InFile, 1)
				p.plant(2, 0, 0, 0, list(0, 600, 5))
				p.are(api.OK, p.slide(1, 0, 400, to, moved))
				// What a defragmenter does: the blocks to which it has moved are used, and those from which it has are not.
				for b := range p.g.Blocks {
					if b >= 380 && b < 410 || b >= 450 && b < 460 {
						on := hits(list(0, to, moved, 0, 400+moved, 5-moved), []int{b})
						p.put(b, on)
					}
				}
				p.next()
				p.holds()
				p.are(api.OK, p.drop(2))
				if p.w.super.Len == 0 {
					t.Fatal("the move of another inode is over")
				}
				p.holds()
				p.are(api.OK, p.drop(1))
				if s, e := table.Super(p.x); s.Len != 0 || s.Inode != 0 || s.Cursor != p.g.DataAt || e != api.OK {
					t.Fatal(s, e)
				}
				p.holds()
				p.next()
				p.holds()
				if p.w.count() != p.g.Blocks-p.g.DataAt {
					t.Error(p.w.count())
				}
			}
		}
	}
}

// put lays a bit of the bitmap past package table.
func (p *pair) put(b int, on bool) {
	p.t.Helper()
	p.w.bits[b] = on
	at := b / 1024
	p.write(p.g.MapAt+at, p.image()[at*128:at*128+128])
}

// P18.5: what cannot be freed is alloc's error: blocks that are not used, or that are not to be given out, a move to block 0 among them.
func TestDropErrors(t *testing.T) {
	p := file(t, wide(t), 1, 2, 300, list(0, 400, 5, 9, 410, 2, 11, 412, 30))
	for _, b := range []int{400, 404, 410, 441, 300, 301} {
		p.put(b, false)
		p.are(api.ErrArg, table.Drop(p.x, 1))
		p.undo()
		p.holds()
		p.begin()
	}
	for _, l := range [][]api.Ext{list(0, 400, 5, 9, 138, 1), list(0, 1, 1), list(0, 4095, 1), list(0, 1300, 2), list(0, 138, 2)} {
		p.create(api.InDir, 1)
		p.are(api.OK, table.Set(p.x, 2, 0, 99, l))
		p.are(api.ErrArg, table.Drop(p.x, 2))
		p.undo()
		p.holds()
		p.begin()
	}
	p.are(api.OK, p.slide(1, 0, 400, 0, 2))
	p.holds()
	p.are(api.ErrArg, p.drop(1), p.settle(), p.set(1, 0, 9, nil), p.slide(1, 2, 402, 2, 3))
	p.are(api.OK, p.slide(1, 2, 402, 2, 1))
	p.undo()
	p.holds()
}

// P18.7: a Lead of each node of trees of each depth: its content is at the new block, what led to it leads there, the old block is freed as metadata, and nothing else is changed.
func TestLead(t *testing.T) {
	for i, p := range forest(t) {
		nodes := p.nodes(1)
		if len(nodes) > 20 {
			nodes = append(nodes[:8:8], nodes[len(nodes)-8:]...)
		}
		for _, from := range nodes {
			content := p.block(from)
			to := p.open()[i]
			p.take(api.Ext{Physical: to, Len: 1})
			p.are(api.OK, p.lead(1, from, to))
			if p.block(to) != content {
				t.Fatalf("%d to %d: %q, not %q", from, to, p.block(to), content)
			}
			if _, waiting, revoked := p.x.Size(); waiting != 1 || revoked != 1 || !p.x.Waits(from) {
				t.Fatal(waiting, revoked)
			}
			p.holds()
			p.same(func() { p.are(api.ErrNone, p.lead(1, from, to), p.lead(1, from, from), p.lead(1, from, p.open()[0])) })
			p.next()
			p.holds()
		}
	}
}

// P18.7: to is from: nothing is changed and nothing freed. All others that forks.Lead names are its errors, and blocks that there are not those of trans.
func TestLeadErrors(t *testing.T) {
	for _, p := range forest(t) {
		l, nodes := p.tree(1)
		few := nodes
		if len(few) > 6 {
			few = slices.Concat(nodes[:3], nodes[len(nodes)-3:])
		}
		for _, from := range few {
			for _, to := range []int{1, p.g.MapAt - 1, p.g.Blocks, 4095} {
				if p.g.Blocks < 4096 || to < p.g.MapAt {
					p.are(api.ErrBlock, p.lead(1, from, to))
					p.undo() // what led to the node may have been written
					p.begin()
				}
			}
		}
		p.same(func() {
			for _, from := range few {
				p.are(api.OK, p.lead(1, from, from))
				for _, to := range append(far(p.g), few...) {
					if to < 1 || to >= 4096 || slices.Contains(few, to) && to != from {
						p.are(api.ErrArg, p.lead(1, from, to))
					}
				}
				for _, x := range l[:min(len(l), 8)] {
					p.are(api.ErrArg, p.lead(1, from, x.Physical))
				}
				p.are(api.ErrNone, p.lead(0, from, p.g.DataAt), p.lead(2, from, p.g.DataAt), p.lead(1, from+500, p.g.DataAt))
			}
			for _, from := range append(far(p.g), p.g.DataAt, p.g.DataAt+1) {
				p.are(api.ErrNone, p.lead(1, from, p.g.DataAt+2), p.lead(1, from, from), p.lead(1, from, -1), p.lead(3, from, from))
			}
			if len(l) > 0 {
				p.are(api.ErrNone, p.lead(1, l[0].Physical, p.g.DataAt))
			}
		})
	}
}

// P18.7: a block to that waits, and a node whose block is not used or is none that is given out, are the errors of trans and of alloc.
func TestLeadRefused(t *testing.T) {
	p := file(t, wide(t), 1, 2, 300, list(0, 400, 5, 9, 410, 2, 11, 412, 30))
	p.take(list(0, 700, 1)...)
	p.next()
	p.are(api.OK, alloc.Free(p.x, api.Run{Start: 700, Len: 1}, true))
	p.are(api.ErrArg, table.Lead(p.x, 1, 300, 700))
	p.undo()
	p.begin()
	p.put(300, false)
	p.are(api.ErrArg, table.Lead(p.x, 1, 300, 710))
	p.undo()
	p.begin()
	p.holds()
	p.are(api.ErrBlock, p.lead(1, 300, 1301))
	p.undo()
	p.begin()
	p.are(api.ErrBlock, p.lead(1, 300, 128))
	p.undo()
	p.holds()

	// A node ahead of the data, which never was given out.
	p.begin()
	p.write(138, nodeBytes(row(0, 400, 5), true))
	x := p.raw(0)
	x.Depth, x.Root = 1, row(0, 138, 0)
	p.inscribe(0, inodeBytes(x))
	p.are(api.ErrArg, table.Lead(p.x, 0, 138, 710))
}
