package table_test

import (
	"math"
	"slices"
	"testing"

	"glissade/api"
	"glissade/table"
)

// P18.6: Super is the superblock, as the act in progress, the transaction, the last commit or the device has it.
func TestSuper(t *testing.T) {
	for _, g := range []api.Geometry{small(t), wide(t), whole(t)} {
		p := begun(t, g)
		p.same(func() {
			if s, e := table.Super(p.x); s != (api.Super{Blocks: g.Blocks, Log: g.Log, Inodes: g.Inodes, Cursor: g.DataAt}) || e != api.OK {
				t.Error(s, e)
			}
		})
		for _, s := range []api.Super{
			{Blocks: g.Blocks, Log: g.Log, Inodes: g.Inodes},
			{Blocks: g.Blocks, Log: g.Log, Inodes: g.Inodes, Cursor: g.Blocks},
			{Blocks: 4096, Log: 512, Inodes: 512, Cursor: 4096}, // a valid one, though of another device
			{Blocks: g.Blocks, Log: g.Log, Inodes: g.Inodes, Cursor: 200, Inode: 7, Logical: 3, From: 200, To: 190, Len: 4, Moved: 3},
		} {
			p.begin()
			p.write(0, superBytes(s))
			if got, e := table.Super(p.x); got != s || e != api.OK {
				t.Error(got, e)
			}
			p.undo()
			p.holds()
		}
	}
}

// P18.6: Aim sets the cursor and nothing else, a move in progress or not; one that is not valid is ErrArg.
func TestAim(t *testing.T) {
	for _, g := range []api.Geometry{small(t), whole(t)} {
		p := furnished(t, g)
		for range 2 {
			p.begin()
			for _, cursor := range []int{0, 1, g.DataAt, g.Blocks - 1, g.Blocks} {
				p.are(api.OK, p.aim(cursor))
				p.holds()
				p.same(func() {
					p.are(api.ErrArg, p.aim(-1), p.aim(g.Blocks+1), p.aim(math.MinInt), p.aim(math.MaxInt), p.aim(1<<32), p.aim(-1<<32), p.aim(1<<32+5))
				})
			}
			if changed, waiting, _ := p.x.Size(); changed != 1 || waiting != 0 {
				t.Error(changed, waiting)
			}
			p.next()
			p.holds()
			p.are(api.OK, p.settle())
			p.end()
			p.commit()
		}
	}
}

// moved is a file with three extents, of which the first one has five blocks, and another file of one extent of five. The tree of the first has that depth.
func moved(t *testing.T, depth, most int) *pair {
	t.Helper()
	p := file(t, wide(t), depth, most, 300, list(0, 400, 5, 9, 410, 2, 11, 412, 30))
	p.create(api.InFile, 1)
	p.plant(2, 0, 0, 0, list(0, 600, 5))
	p.next()
	p.holds()
	return p
}

// shapes is depths of trees, and how many entries their nodes have.
func shapes() [][2]int { return [][2]int{{0, 1}, {1, 1}, {1, 3}, {2, 2}, {4, 1}} }

// P18.6: without a move Settle does nothing; with one of which 1, some, or all but one block are moved, the extent stands in the tree as its two parts, the cursor stays, and no move is in progress.
func TestSettle(t *testing.T) {
	for _, s := range shapes() {
		for n := 1; n < 5; n++ {
			p := moved(t, s[0], s[1])
			p.same(func() { p.are(api.OK, p.settle()) })
			p.are(api.OK, p.aim(777), p.slide(1, 0, 400, 390, n))
			p.holds()
			p.next()
			before, _, _ := table.Exts(p.x, 1)
			p.are(api.OK, p.settle())
			if after, _, e := table.Exts(p.x, 1); !slices.Equal(before, after) || len(after) != 4 || e != api.OK {
				t.Fatal(before, after, e)
			}
			if x, e := table.Super(p.x); x != (api.Super{Blocks: 1301, Log: 128, Inodes: 16, Cursor: 777}) || e != api.OK {
				t.Fatal(x, e)
			}
			p.holds()
			p.same(func() { p.are(api.OK, p.settle()) })
			p.next()
			p.holds()
			// What was parted can be moved on, as extents of their own.
			p.are(api.OK, p.slide(1, n, 400+n, 390+n, 5-n), p.slide(1, 0, 390, 380, n))
			p.holds()
		}
	}
}

// P18.6: parts that are contiguous with each other, or with others, stay parts.
func TestSettleContiguous(t *testing.T) {
	for _, to := range []int{400, 399, 401, 402, 396, 405} {
		for n := 1; n < 5; n++ {
			p := moved(t, 1, 3)
			p.are(api.OK, p.slide(1, 0, 400, to, n), p.settle())
			p.holds()
			if l, _, _ := table.Exts(p.x, 1); !slices.Equal(l[:2], list(0, to, n, n, 400+n, 5-n)) {
				t.Error(l)
			}
		}
	}
}

// crammed is a file of n extents, of which the first, of two blocks, is being moved, in a system that has just so many open blocks.
func crammed(t *testing.T, n, open int) *pair {
	t.Helper()
	p := acting(t, small(t))
	p.create(api.InFile, 1)
	p.take(list(0, 150, 2)...)
	l := append(list(0, 150, 2), offset(every(n-1, 2, 160), 4)...)
	p.take(l[1:]...)
	p.are(api.OK, p.set(0, 0, 2048, l), p.slide(0, 0, 150, 149, 1))
	for _, b := range p.open()[open:] {
		p.take(api.Ext{Physical: b, Len: 1})
	}
	p.next()
	p.holds()
	return p
}

// P18.6, P18.4: a Settle that needs a node more takes the first open block, and is ErrSpace where there is none; then all is as it was once the act is dropped. One that needs none goes on.
func TestSettleSpace(t *testing.T) {
	for _, c := range []struct{ extents, needs int }{{1, 0}, {3, 0}, {4, 1}, {5, 0}, {9, 0}, {10, 1}, {40, 2}} {
		for open := range 4 {
			p := crammed(t, c.extents, open)
			before, free := len(p.nodes(0)), p.w.count()
			if open >= c.needs {
				p.are(api.OK, p.settle())
				if n := len(p.nodes(0)) - before; n != c.needs && c.extents < 40 {
					t.Fatalf("%d extents: %d nodes more", c.extents, n)
				}
				p.holds()
				continue
			}
			for range 2 {
				if e := table.Settle(p.x); e != api.ErrSpace && c.extents < 40 {
					t.Fatalf("%d extents, %d open: %v", c.extents, open, e)
				}
				p.undo()
				p.holds()
				p.begin()
				if e := table.Set(p.x, 0, 100, 101, nil); e != api.ErrSpace && c.extents < 40 {
					t.Fatal(e)
				}
				p.undo()
				p.holds()
				p.begin()
			}
			if p.w.count() != free {
				t.Fatal(p.w.count(), free)
			}
			// Slide adds no node, and goes on to the end.
			p.are(api.OK, p.slide(0, 1, 151, 150, 1))
			p.holds()
		}
	}
}

// P18.7: an extent is moved whole at once, to anywhere that may be; no move is in progress, and the superblock is what it was.
func TestSlideWhole(t *testing.T) {
	for _, s := range shapes() {
		for _, x := range list(0, 400, 5, 9, 410, 2, 11, 412, 30) {
			for _, to := range []int{1, 138, 139, x.Physical - 1, x.Physical, x.Physical + 1, x.Physical - x.Len, x.Physical + x.Len, 410, 1301 - x.Len, 1301, 4096 - x.Len} {
				p := moved(t, s[0], s[1])
				p.are(api.OK, p.slide(1, x.Logical, x.Physical, to, x.Len))
				if p.w.super.Len != 0 {
					t.Fatal("a move is in progress")
				}
				p.holds()
				if changed, waiting, _ := p.x.Size(); waiting != 0 || changed > 2 || changed > 1 && s[0] == 0 { // the inode and a leaf
					t.Fatal(changed, waiting)
				}
				p.next()
				p.holds()
			}
			for _, to := range []int{0, -1, 4097 - x.Len, 4096, math.MinInt, math.MaxInt, math.MaxInt - x.Len} {
				p := moved(t, s[0], s[1])
				p.same(func() { p.are(api.ErrArg, p.slide(1, x.Logical, x.Physical, to, x.Len)) })
			}
		}
	}
}

// P18.7: an extent is moved by all splits of it into slides: the superblock tells how far it has come, and the tree changes with the last one only.
func TestSlideParts(t *testing.T) {
	for _, s := range shapes() {
		for split := range 1 << 4 {
			p := moved(t, s[0], s[1])
			p.are(api.OK, p.aim(654))
			at, from := 0, 0
			before := p.raw(1)
			for at < 5 {
				if !sameInode(p.raw(1), before) {
					t.Fatal("the tree was changed too early")
				}
				for at++; at < 5 && split>>(at-1)&1 == 0; at++ {
				}
				p.are(api.OK, p.slide(1, from, 400+from, 395+from, at-from))
				want := api.Super{Blocks: 1301, Log: 128, Inodes: 16, Cursor: 654}
				if at < 5 {
					want.Inode, want.From, want.To, want.Len, want.Moved = 1, 400, 395, 5, at
				}
				if got, e := table.Super(p.x); got != want || e != api.OK {
					t.Fatal(got, want, e)
				}
				p.holds()
				if split%2 == 0 {
					p.next()
					p.holds()
				}
				from = at
			}
			if l, _, e := table.Exts(p.x, 1); !slices.Equal(l, list(0, 395, 5, 9, 410, 2, 11, 412, 30)) || e != api.OK {
				t.Fatal(l, e)
			}
			if _, waiting, _ := p.x.Size(); waiting != 0 {
				t.Fatal(waiting)
			}
		}
	}
}

// P18.7: the great extents of great trees, moved one block after the other, of each place in the tree.
func TestSlideForest(t *testing.T) {
	for i, p := range forest(t) {
		l := p.w.inodes[1].list
		for k := 0; k < len(l); k += 1 + len(l)/5 {
			x := l[k]
			p.are(api.OK, p.slide(1, x.Logical, x.Physical, 3, 1))
			p.holds()
		}
		if i > 6 {
			continue
		}
		p.are(api.OK, p.set(1, 1000, 1010, list(1001, 900, 8)))
		for n := range 8 {
			p.are(api.OK, p.slide(1, 1001+n, 900+n, 890+n, 1))
			p.holds()
			p.next()
		}
	}
}

// P18.7: an extent with that Logical, that From, and so many blocks must be there, and at least one block be moved.
func TestSlideErrors(t *testing.T) {
	for _, s := range shapes() {
		p := moved(t, s[0], s[1])
		p.same(func() {
			for _, n := range []int{-1, 0, 6, math.MinInt, math.MinInt + 1, math.MaxInt, 1 << 32} {
				p.are(api.ErrArg, p.slide(1, 0, 400, 390, n))
			}
			for _, n := range []int{1, 2, 4, 5} {
				for _, from := range []int{399, 401, 404, 405, 0, -1, 600, math.MinInt, math.MaxInt} {
					p.are(api.ErrArg, p.slide(1, 0, from, 390, n))
				}
				for _, logical := range []int{-1, 1, 4, 5, 9, 11, math.MinInt, math.MaxInt} {
					p.are(api.ErrArg, p.slide(1, logical, 400, 390, n))
				}
				p.are(api.ErrArg, p.slide(2, 0, 400, 390, n), p.slide(0, 0, 400, 390, n), p.slide(1, 1, 401, 391, n), p.slide(1, 9, 412, 390, n), p.slide(1, 11, 410, 390, n))
			}
			for _, to := range []int{-1, 1301 - 4, 1301, 4095, math.MinInt, math.MaxInt} { // for a part, the superblock would not be valid
				p.are(api.ErrArg, p.slide(1, 0, 400, to, 1), p.slide(1, 0, 400, to, 4))
			}
		})
		p.are(api.OK, p.slide(1, 0, 400, 1301-5, 4))
		p.holds()
		p.undo()
		p.holds()
		p.begin()
		p.are(api.OK, p.slide(1, 0, 400, 0, 4))
		p.holds()
	}
}

// P18.7: while a move is in progress only what continues it is taken: the second part, to the block right after the first.
func TestSlideContinues(t *testing.T) {
	for _, s := range shapes() {
		for done := 1; done < 5; done++ {
			p := moved(t, s[0], s[1])
			p.are(api.OK, p.slide(1, 0, 400, 390, done))
			p.next()
			p.same(func() {
				for n := -1; n < 8; n++ {
					for _, to := range []int{390, 390 + done - 1, 390 + done + 1, 400, 400 + done, 500, 0, -1, math.MaxInt, math.MinInt} {
						if to != 390+done {
							p.are(api.ErrArg, p.slide(1, done, 400+done, to, n))
						}
					}
					if n < 1 || n > 5-done {
						p.are(api.ErrArg, p.slide(1, done, 400+done, 390+done, n))
					}
					// The whole, the first part, other extents, and those of other inodes.
					p.are(api.ErrArg, p.slide(1, 0, 400, 390, n), p.slide(1, 0, 390, 380, n), p.slide(1, 0, 390, 390+done, n), p.slide(1, 9, 410, 390+done, n), p.slide(1, 11, 412, 402, n),
						p.slide(2, 0, 600, 590, n), p.slide(2, 0, 600, 390+done, n), p.slide(2, done, 400+done, 390+done, n), p.slide(0, done, 400+done, 390+done, n))
					p.are(api.ErrNone, p.slide(3, done, 400+done, 390+done, n))
				}
			})
			for n := done; n < 5; n++ {
				p.are(api.OK, p.slide(1, n, 400+n, 390+n, 1))
				p.holds()
			}
			p.are(api.OK, p.slide(2, 0, 600, 590, 2))
			p.holds()
		}
	}
}

// P18.7: an extent of another inode that lies just as the second part would is not what is being moved.
func TestSlideOther(t *testing.T) {
	p := moved(t, 0, 1)
	p.are(api.OK, p.set(2, 0, 9, list(2, 402, 3)), p.slide(1, 0, 400, 390, 2))
	p.holds()
	p.same(func() { p.are(api.ErrArg, p.slide(2, 2, 402, 392, 1), p.slide(2, 2, 402, 392, 3)) })
	p.are(api.OK, p.slide(1, 2, 402, 392, 3))
	p.holds()
}

// P18.7: a To that lies on a node of the tree is forks.Move's error when all blocks are moved, and not before; blocks to which extents map, and those of other inodes, are none.
func TestSlideOnNode(t *testing.T) {
	p := moved(t, 1, 2)
	for _, node := range p.nodes(1) {
		for to := node - 4; to <= node; to++ {
			p.same(func() { p.are(api.ErrArg, p.slide(1, 0, 400, to, 5)) })
			p.are(api.OK, p.slide(1, 0, 400, to, 4))
			p.holds()
			p.same(func() { p.are(api.ErrArg, p.slide(1, 4, 404, to+4, 1)) })
			if to > node-4 {
				p.same(func() { p.are(api.ErrArg, p.settle(), p.set(1, 20, 30, nil)) })
			}
			p.undo()
			p.holds()
			p.begin()
		}
		p.are(api.OK, p.slide(2, 0, 600, node, 5))
		p.undo()
		p.begin()
	}
	for _, to := range []int{295, 302, 405, 409, 410, 412, 600} {
		p.are(api.OK, p.slide(1, 0, 400, to, 2), p.slide(1, 2, 402, to+2, 3))
		p.holds()
		p.undo()
		p.begin()
	}
}

// P18.7: with the superblock of another layout, which is valid, From and To are held against that.
func TestSlideSuper(t *testing.T) {
	p := moved(t, 0, 1)
	p.w.super = api.Super{Blocks: 4096, Log: 512, Inodes: 512, Cursor: 5}
	p.write(0, superBytes(p.w.super))
	p.are(api.OK, p.slide(1, 0, 400, 4091, 2))
	p.holds()
	p.are(api.OK, p.slide(1, 2, 402, 4093, 3), p.aim(4096))
	p.holds()
	p.are(api.OK, p.slide(1, 0, 4091, 400, 1))
	p.holds()
	p.undo()
	p.begin()
	p.w.super = api.Super{Blocks: 402, Log: 128, Inodes: 8}
	p.write(0, superBytes(p.w.super))
	p.same(func() { p.are(api.ErrArg, p.slide(1, 0, 400, 200, 2), p.slide(2, 0, 600, 200, 2), p.aim(403)) })
	p.are(api.OK, p.slide(1, 0, 400, 200, 5))
	p.holds()
	p.are(api.OK, p.slide(1, 0, 200, 397, 2))
	p.holds()
}
