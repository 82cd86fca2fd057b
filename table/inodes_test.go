package table_test

import (
	"math"
	"slices"
	"testing"

	"glissade/alloc"
	"glissade/api"
	"glissade/table"
)

// The chapter's examples, line by line.
func TestExamples(t *testing.T) {
	p := acting(t, small(t))
	p.create(api.InDir, 2)
	if l, e := table.Used(p.x); !slices.Equal(l, []int{0}) || e != api.OK {
		t.Error(l, e)
	}
	if n, e := table.New(p.x, api.InFile, 1); n != 1 || e != api.OK {
		t.Error(n, e)
	}
	if x, e := table.Get(p.x, 1); !sameInode(x, api.Inode{Kind: api.InFile, Links: 1}) || e != api.OK {
		t.Error(x, e)
	}
	if l, e := table.Used(p.x); !slices.Equal(l, []int{0, 1}) || e != api.OK {
		t.Error(l, e)
	}

	p.are(api.OK, table.Set(p.x, 1, 0, 4, list(0, 200, 2)))
	if l, nodes, e := table.Exts(p.x, 1); !slices.Equal(l, list(0, 200, 2)) || len(nodes) != 0 || e != api.OK {
		t.Error(l, nodes, e)
	}

	if x, e := table.Get(p.x, 8); !sameInode(x, api.Inode{}) || e != api.ErrNone {
		t.Error(x, e)
	}
	if l, nodes, e := table.Exts(p.x, 5); len(l) != 0 || len(nodes) != 0 || e != api.ErrNone {
		t.Error(l, nodes, e)
	}
	if n, e := table.New(p.x, api.InFree, 0); n != 0 || e != api.ErrArg {
		t.Error(n, e)
	}

	p.are(api.OK, alloc.Take(p.x, api.Run{Start: 200, Len: 2}), table.Drop(p.x, 1))
	if l, e := table.Used(p.x); !slices.Equal(l, []int{0}) || e != api.OK {
		t.Error(l, e)
	}
}

// mayBe is inodes that may be, at their bounds.
func mayBe() []api.Inode {
	return []api.Inode{
		{}, {Kind: api.InFile}, {Kind: api.InDir, Links: 2}, {Kind: api.InFile, Pinned: true, Links: 100, Size: 262144}, {Kind: api.InDir, Pinned: true, Size: 1},
		{Kind: api.InFile, Links: 1, Root: row(0, 200, 1)}, {Kind: api.InFile, Root: row(0, 4095, 1, 1, 1, 1, 5, 7, 2, 2047, 300, 1)}, {Kind: api.InDir, Root: row(0, 1, 2048)},
		{Kind: api.InFile, Depth: 1, Root: row(0, 150, 0)}, {Kind: api.InDir, Depth: 4, Root: row(1, 4095, 0, 2, 1, 0, 2047, 150, 0)},
	}
}

// mayNotBe is inodes that may not be.
func mayNotBe() []api.Inode {
	return []api.Inode{
		{Links: 1}, {Pinned: true}, {Size: 1}, {Depth: 1}, {Root: row(0, 200, 1)}, {Kind: 3}, {Kind: -1}, {Kind: math.MaxInt}, {Kind: 257},
		{Kind: api.InFile, Links: 101}, {Kind: api.InFile, Links: -1}, {Kind: api.InDir, Size: 262145}, {Kind: api.InDir, Size: -1},
		{Kind: api.InFile, Depth: 5, Root: row(0, 150, 0)}, {Kind: api.InFile, Depth: -1}, {Kind: api.InFile, Depth: 1},
		{Kind: api.InFile, Root: row(0, 0, 1)}, {Kind: api.InFile, Root: row(0, 150, 0)}, {Kind: api.InFile, Depth: 1, Root: row(0, 150, 1)},
		{Kind: api.InFile, Root: row(0, 200, 2, 1, 300, 1)}, {Kind: api.InFile, Root: row(0, 4095, 2)}, {Kind: api.InFile, Root: row(0, 1, 1, 1, 2, 1, 2, 3, 1, 3, 4, 1, 4, 5, 1)},
	}
}

// P18.1: an inode stands where geometry.InodeAt says, as layer 11 encodes it, and Get is what was put; the other inode of its block stays, and so do all others.
func TestGetPut(t *testing.T) {
	for _, g := range []api.Geometry{small(t), wide(t), layout(t, 2048, 200, 512)} {
		for _, n := range []int{0, 1, 2, 5, g.Inodes - 2, g.Inodes - 1} {
			p := acting(t, g)
			around := []api.Inode{{Kind: api.InFile, Links: 7, Root: row(3, 200, 2)}, {}, {Kind: api.InDir, Size: 384}}
			for i, x := range around {
				if k := n - 1 + i; k != n && k >= 0 && k < g.Inodes {
					p.inscribe(k, inodeBytes(x))
				}
			}
			for _, x := range mayBe() {
				if e := table.Put(p.x, n, x); e != api.OK {
					t.Fatal(n, x, e)
				}
				if s := p.stored(n); s != inodeBytes(x) {
					t.Fatalf("inode %d, %v: %q", n, x, s)
				}
				if y, e := table.Get(p.x, n); !sameInode(x, y) || e != api.OK {
					t.Fatal(n, x, y, e)
				}
				for k := range g.Inodes {
					want := api.Inode{}
					if k == n-1 || k == n+1 {
						want = around[k-n+1]
					}
					if y, e := table.Get(p.x, k); k != n && (!sameInode(y, want) || p.stored(k) != inodeBytes(want) || e != api.OK) {
						t.Fatal(n, k, y, e)
					}
				}
			}
			for b := range g.Blocks { // nothing else is written
				if b >= 1 && b < g.MapAt || b >= g.TableAt && b < g.DataAt || b < g.TableAt && b >= g.MapAt {
					continue
				}
				if s := p.block(b); b > 0 && s != letters("\x00") || b == 0 && s != superBytes(p.w.super) {
					t.Fatalf("block %d is %q", b, s)
				}
			}
			if changed, _, _ := p.x.Size(); changed > 3 {
				t.Error(changed)
			}
		}
	}
}

// P18.1, R5: ErrNone if there is no such inode, ahead of what else is wrong.
func TestNoInode(t *testing.T) {
	for _, g := range []api.Geometry{small(t), wide(t)} {
		p := acting(t, g)
		p.same(func() {
			for _, n := range far(g) {
				if n >= 0 && n < g.Inodes {
					continue
				}
				if x, e := table.Get(p.x, n); !sameInode(x, api.Inode{}) || e != api.ErrNone {
					t.Error(n, x, e)
				}
				for _, x := range append(mayBe(), mayNotBe()...) {
					p.are(api.ErrNone, table.Put(p.x, n, x))
				}
			}
		})
		for _, n := range []int{0, g.Inodes - 1} {
			if x, e := table.Get(p.x, n); !sameInode(x, api.Inode{}) || e != api.OK {
				t.Error(n, x, e)
			}
			p.are(api.OK, table.Put(p.x, n, api.Inode{}))
		}
	}
}

// P18.1: Put of what may not be is the error of inodes.Encode and changes nothing, whatever is stored.
func TestPutInvalid(t *testing.T) {
	p := acting(t, small(t))
	p.inscribe(2, inodeBytes(api.Inode{Kind: api.InFile, Links: 3}))
	p.inscribe(3, letters("x")[:64])
	p.next()
	for n := range 4 {
		before := p.stored(n)
		for _, x := range mayNotBe() {
			p.are(api.ErrArg, table.Put(p.x, n, x))
		}
		if p.stored(n) != before {
			t.Error(n)
		}
	}
	if changed, _, _ := p.x.Size(); changed != 0 {
		t.Error(changed)
	}
}

// noInodes is bytes that are those of no valid inode.
func noInodes() []string {
	l := []string{letters("x")[:64], letters("\x01")[:64], letters("\x00")[:63] + "\x01", "\x00\x01" + letters("\x00")[:62], "\x01\x02" + letters("\x00")[:62], "\x03" + letters("\x00")[:63]}
	for _, x := range mayNotBe() {
		if x.Kind >= 0 && x.Kind < 256 && len(x.Root) <= 4 && x.Depth >= 0 {
			l = append(l, inodeBytes(x))
		}
	}
	return l
}

// P18.1, P18.2: bytes that are those of no valid inode are ErrForm to Get, and to all that must get it; a Put sets them right, and the other inode of the block stays what it is.
func TestInvalidStored(t *testing.T) {
	for _, s := range noInodes() {
		for _, n := range []int{0, 3, 7} {
			p := acting(t, small(t))
			p.inscribe(n^1, inodeBytes(api.Inode{Kind: api.InFile, Links: 3}))
			p.inscribe(n, s)
			p.end()
			p.commit()
			p.begin()
			if x, e := table.Get(p.x, n); !sameInode(x, api.Inode{}) || x.Root != nil || e != api.ErrForm {
				t.Fatal(n, x, e)
			}
			if l, e := table.Used(p.x); len(l) != 0 || e != api.ErrForm {
				t.Fatal(n, l, e)
			}
			for _, kind := range []int{api.InFree, api.InFile, 3} {
				if k, e := table.New(p.x, kind, 1); k != 0 || e != api.ErrForm {
					t.Fatal(n, k, e)
				}
			}
			if l, nodes, e := table.Exts(p.x, n); len(l) != 0 || len(nodes) != 0 || e != api.ErrForm {
				t.Fatal(n, l, nodes, e)
			}
			p.are(api.ErrForm, table.Set(p.x, n, 0, 1, nil), table.Set(p.x, n, 1, 0, nil), table.Drop(p.x, n), table.Slide(p.x, n, 0, api.Move{}), table.Lead(p.x, n, 1, 1))
			if x, e := table.Get(p.x, n^1); x.Links != 3 || e != api.OK || p.stored(n) != s {
				t.Fatal(n, x, e)
			}
			if changed, _, _ := p.x.Size(); changed != 0 {
				t.Fatal(changed)
			}
			p.are(api.OK, table.Put(p.x, n^1, api.Inode{Kind: api.InDir, Links: 5}))
			if p.stored(n) != s {
				t.Fatal("the other inode of the block is another one")
			}
			p.are(api.OK, table.Put(p.x, n, api.Inode{Kind: api.InDir}))
			if l, e := table.Used(p.x); !slices.Equal(l, []int{n &^ 1, n | 1}) || e != api.OK {
				t.Fatal(n, l, e)
			}
		}
	}
}

// R4: an inode that was put is not kept, and one that was got is new.
func TestInodesOwn(t *testing.T) {
	p := acting(t, small(t))
	x := api.Inode{Kind: api.InFile, Root: row(0, 200, 1, 5, 210, 2)}
	p.are(api.OK, table.Put(p.x, 3, x))
	x.Root[0] = api.Entry{}
	for range 2 {
		y, e := table.Get(p.x, 3)
		if e != api.OK || !slices.Equal(y.Root, row(0, 200, 1, 5, 210, 2)) {
			t.Fatal(y, e)
		}
		y.Root[1] = api.Entry{}
		_ = append(y.Root, api.Entry{})
	}
	for range 2 {
		l, e := table.Used(p.x)
		if e != api.OK || !slices.Equal(l, []int{3}) {
			t.Fatal(l, e)
		}
		l[0] = 9
	}
}

// P18.2: New gives out the lowest free inode, with its kind and links and no other content; Used is the numbers of all that are not free.
func TestNewUsed(t *testing.T) {
	for _, g := range []api.Geometry{small(t), wide(t), layout(t, 300, 128, 100)} {
		p := acting(t, g)
		p.holds()
		for n := range g.Inodes {
			if k := p.create([]int{api.InFile, api.InDir}[n%2], []int{0, 1, 100, 50}[n%4]); k != n {
				t.Fatal(k, n)
			}
			if n%20 == 0 {
				p.holds()
			}
		}
		p.holds()
		p.same(func() {
			p.create(api.InFile, 1)
			p.create(api.InDir, 101)
			p.create(api.InFree, 1)
			p.create(3, -1)
		})
		for _, n := range []int{g.Inodes - 1, 4, 3, 0} {
			p.are(api.OK, p.drop(n))
			p.holds()
		}
		for _, want := range []int{0, 3, 4, g.Inodes - 1} {
			if n := p.create(api.InFile, 2); n != want {
				t.Fatal(n, want)
			}
			p.holds()
		}
		p.are(api.OK, p.drop(5))
		p.next()
		if n := p.create(api.InDir, 2); n != 5 {
			t.Fatal(n)
		}
		p.holds()
	}
}

// P18.2, R5: InFree is ErrArg, ahead of ErrInodes; kinds and links that may not be are ErrArg, behind it.
func TestNewErrors(t *testing.T) {
	p := acting(t, small(t))
	full := acting(t, small(t))
	for range 8 {
		full.create(api.InFile, 1)
	}
	wrong := []int{-1, 3, 4, 255, 256, 257, 258, 1 << 32, 1<<32 + 1, math.MinInt, math.MaxInt}
	for _, links := range []int{0, 1, 2, 99, 100, -1, 101, 65536, 65537, math.MinInt, math.MaxInt} {
		may := links >= 0 && links <= 100
		for _, kind := range append([]int{api.InFree, api.InFile, api.InDir}, wrong...) {
			want, whenFull := api.ErrArg, api.ErrInodes
			if kind == api.InFree {
				whenFull = api.ErrArg
			}
			if may && (kind == api.InFile || kind == api.InDir) {
				want = api.OK
			}
			if n, e := table.New(p.x, kind, links); n != 0 || e != want {
				t.Errorf("New %d %d: %d, %v, wanted %v", kind, links, n, e, want)
			}
			full.same(func() {
				if n, e := table.New(full.x, kind, links); n != 0 || e != whenFull {
					t.Errorf("New %d %d: %d, %v, wanted %v", kind, links, n, e, whenFull)
				}
			})
			if want == api.OK {
				if x, e := table.Get(p.x, 0); !sameInode(x, api.Inode{Kind: kind, Links: links}) || e != api.OK {
					t.Error(x, e)
				}
				p.are(api.OK, table.Drop(p.x, 0))
			}
			p.holds()
		}
	}
}

// P18.2: what an inode had before it was dropped, it does not have when it is given out again.
func TestNewAgain(t *testing.T) {
	p := acting(t, wide(t))
	p.create(api.InFile, 1)
	p.create(api.InDir, 9)
	x := p.raw(1)
	x.Pinned, x.Size = true, 1000
	p.are(api.OK, table.Put(p.x, 1, x))
	p.w.inodes[1].pinned, p.w.inodes[1].size = true, 1000
	l := every(30, 3, 400)
	p.take(l...)
	p.are(api.OK, p.set(1, 0, 90, l))
	p.holds()
	p.next()
	p.are(api.OK, p.drop(1))
	p.holds()
	if p.stored(1) != letters("\x00")[:64] {
		t.Errorf("%q", p.stored(1))
	}
	if n := p.create(api.InFile, 3); n != 1 {
		t.Error(n)
	}
	p.holds()
	if y, e := table.Get(p.x, 1); !sameInode(y, api.Inode{Kind: api.InFile, Links: 3}) || e != api.OK {
		t.Error(y, e)
	}
}

// Used and New where some inodes, each one, or all but each one are not free.
func TestUsedEach(t *testing.T) {
	g := small(t)
	for mask := range 1 << g.Inodes {
		p := acting(t, g)
		var used []int
		lowest := -1
		for n := range g.Inodes {
			if mask>>n&1 == 1 {
				p.are(api.OK, table.Put(p.x, n, api.Inode{Kind: 1 + n%2}))
				used = append(used, n)
			} else if lowest < 0 {
				lowest = n
			}
		}
		if l, e := table.Used(p.x); !slices.Equal(l, used) || e != api.OK {
			t.Fatal(mask, l, e)
		}
		n, e := table.New(p.x, api.InFile, 1)
		if lowest < 0 && (n != 0 || e != api.ErrInodes) || lowest >= 0 && (n != lowest || e != api.OK) {
			t.Fatal(mask, n, e)
		}
	}
}
