package table_test

import (
	"math"
	"testing"

	"glissade/alloc"
	"glissade/api"
	"glissade/table"
	"glissade/trans"
)

// call is one call with its name, which returns the error and whether all else is zero.
type call struct {
	name  string
	reads int       // how many blocks it reads in a furnished system on the whole device, if it returns no error
	e     api.Errno // what it returns in a furnished system
	acts  bool      // whether it needs an act
	do    func(x *trans.Trans) (api.Errno, bool)
}

// simple is what a function that returns an error only comes to.
func simple(do func(x *trans.Trans) api.Errno) func(x *trans.Trans) (api.Errno, bool) {
	return func(x *trans.Trans) (api.Errno, bool) { return do(x), true }
}

func gets(n int) func(x *trans.Trans) (api.Errno, bool) {
	return func(x *trans.Trans) (api.Errno, bool) {
		y, e := table.Get(x, n)
		return e, sameInode(y, api.Inode{}) && y.Root == nil
	}
}

func puts(n int, y api.Inode) func(x *trans.Trans) (api.Errno, bool) {
	return simple(func(x *trans.Trans) api.Errno { return table.Put(x, n, y) })
}

func news(kind, links int) func(x *trans.Trans) (api.Errno, bool) {
	return func(x *trans.Trans) (api.Errno, bool) {
		n, e := table.New(x, kind, links)
		return e, n == 0
	}
}

func extents(n int) func(x *trans.Trans) (api.Errno, bool) {
	return func(x *trans.Trans) (api.Errno, bool) {
		l, nodes, e := table.Exts(x, n)
		return e, len(l) == 0 && len(nodes) == 0
	}
}

func sets(n, from, to int, l []api.Ext) func(x *trans.Trans) (api.Errno, bool) {
	return simple(func(x *trans.Trans) api.Errno { return table.Set(x, n, from, to, l) })
}

func drops(n int) func(x *trans.Trans) (api.Errno, bool) {
	return simple(func(x *trans.Trans) api.Errno { return table.Drop(x, n) })
}

func aims(cursor int) func(x *trans.Trans) (api.Errno, bool) {
	return simple(func(x *trans.Trans) api.Errno { return table.Aim(x, cursor) })
}

func slides(n, logical, from, to, length int) func(x *trans.Trans) (api.Errno, bool) {
	return simple(func(x *trans.Trans) api.Errno {
		return table.Slide(x, n, logical, api.Move{From: from, To: to, Len: length})
	})
}

func leads(n, from, to int) func(x *trans.Trans) (api.Errno, bool) {
	return simple(func(x *trans.Trans) api.Errno { return table.Lead(x, n, from, to) })
}

// Where the blocks of what furnish lays down begin, by layout: those of nodes lie ahead of them.
func laidAt(g api.Geometry) int { return g.DataAt + 30 }

// furnish makes a directory 0 of two extents, a file 1 of 12 in two leaves, a file 2 whose first extent is being moved and which has two nodes, too, a pinned file 3 without extents, and a file 5 of one extent; 4 and all others are free.
func (p *pair) furnish() {
	p.t.Helper()
	at := laidAt(p.g)
	for _, kind := range []int{api.InDir, api.InFile, api.InFile, api.InFile, api.InFile, api.InFile} {
		p.create(kind, 1)
	}
	p.take(list(0, at, 80)...)
	p.are(api.OK,
		p.drop(4),
		p.set(0, 0, 2, list(0, at, 1, 1, at+2, 1)),
		p.set(1, 0, 24, every(12, 2, at+4)),
		p.set(2, 0, 40, append(list(0, at+32, 5), every(17, 2, at+38)[3:]...)),
		p.slide(2, 0, at+32, at+28, 2),
		p.set(5, 3, 9, list(4, at+71, 2)),
	)
	x := p.raw(3)
	x.Pinned = true
	p.are(api.OK, table.Put(p.x, 3, x))
	p.w.inodes[3].pinned = true
	p.holds()
}

// furnished is a system that furnish has laid down, committed.
func furnished(t *testing.T, g api.Geometry) *pair {
	t.Helper()
	p := acting(t, g)
	p.furnish()
	p.end()
	p.commit()
	p.holds()
	if len(p.nodes(1)) != 2 || len(p.nodes(2)) != 2 {
		t.Fatal(p.nodes(1), p.nodes(2))
	}
	return p
}

// calls is all functions with arguments of each kind, for a system that was furnished: such as may be, and such as would be each error of the chapter.
func calls(p *pair) []call {
	at, node, spare := laidAt(p.g), p.nodes(1)[0], p.g.DataAt+20
	file := api.Inode{Kind: api.InFile, Links: 1}
	fine := []call{
		{"Get", 1, api.OK, false, gets(1)},
		{"Get of a free one", 1, api.OK, false, gets(4)},
		{"Put", 1, api.OK, true, puts(1, file)},
		{"Put of a free one", 1, api.OK, true, puts(6, api.Inode{})},
		{"New", 4, api.OK, true, news(api.InDir, 2)},
		{"Used", 4, api.OK, false, func(x *trans.Trans) (api.Errno, bool) { l, e := table.Used(x); return e, len(l) == 0 }},
		{"Exts", 4, api.OK, false, extents(1)},
		{"Exts of none", 2, api.OK, false, extents(3)},
		{"Exts with a move", 4, api.OK, false, extents(2)},
		{"Set", 2, api.OK, true, sets(5, 7, 8, list(7, at, 1))},
		{"Set with nodes", 4, api.OK, true, sets(1, 4, 5, list(4, at+1, 1))},
		{"Set that needs nodes", 6, api.OK, true, sets(3, 0, 9, every(5, 2, at+1))},
		{"Set that frees nodes", 8, api.OK, true, sets(1, 0, 99, nil)},
		{"Set of nothing", 2, api.OK, true, sets(5, 3, 3, nil)},
		{"Set with a move", 4, api.OK, true, sets(2, 7, 8, list(7, at, 1))},
		{"Drop", 8, api.OK, true, drops(1)},
		{"Drop of a directory", 6, api.OK, true, drops(0)},
		{"Drop of what has nothing", 2, api.OK, true, drops(3)},
		{"Drop with a move", 8, api.OK, true, drops(2)},
		{"Super", 1, api.OK, false, func(x *trans.Trans) (api.Errno, bool) { s, e := table.Super(x); return e, s == api.Super{} }},
		{"Aim", 1, api.OK, true, aims(700)},
		{"Slide", 4, api.OK, true, slides(2, 2, at+34, at+30, 1)},
		{"Slide to the end", 4, api.OK, true, slides(2, 2, at+34, at+30, 3)},
		{"Lead", 7, api.OK, true, leads(1, node, spare)},
		{"Lead to itself", 3, api.OK, false, leads(1, node, node)},
		{"Settle", 4, api.OK, true, simple(table.Settle)},
	}
	return append(fine, wrongCalls(p)...)
}

// wrongCalls is calls that would be errors of the chapter.
func wrongCalls(p *pair) []call {
	at, node := laidAt(p.g), p.nodes(1)[0]
	file := api.Inode{Kind: api.InFile, Links: 1}
	return []call{
		{"Put of one that may not be", 0, api.ErrArg, false, puts(1, api.Inode{Links: 1})},
		{"New of a free one", 4, api.ErrArg, false, news(api.InFree, 0)},
		{"New of no kind", 4, api.ErrArg, false, news(3, 0)},
		{"New with too many links", 4, api.ErrArg, false, news(api.InFile, 101)},
		{"Exts of a free one", 1, api.ErrNone, false, extents(4)},
		{"Set of a free one", 1, api.ErrNone, false, sets(4, 0, 1, nil)},
		{"Set of no list", 2, api.ErrArg, false, sets(3, 0, 1, list(0, 0, 1))},
		{"Set of no range", 2, api.ErrArg, false, sets(3, -1, 1, nil)},
		{"Set of a node's block", 4, api.ErrArg, false, sets(1, 0, 1, list(0, node, 1))},
		{"Drop of a free one", 1, api.ErrNone, false, drops(4)},
		{"Aim ahead of all", 1, api.ErrArg, false, aims(-1)},
		{"Aim behind all", 1, api.ErrArg, false, aims(p.g.Blocks + 1)},
		{"Slide of a free one", 1, api.ErrNone, false, slides(4, 0, 0, 0, 1)},
		{"Slide of another one than is moved", 2, api.ErrArg, false, slides(5, 4, at+71, at, 1)},
		{"Slide of no extent", 4, api.ErrArg, false, slides(2, 1, at+33, at+29, 1)},
		{"Slide of no blocks", 4, api.ErrArg, false, slides(2, 2, at+34, at+30, 0)},
		{"Lead of a free one", 1, api.ErrNone, false, leads(4, node, at)},
		{"Lead of no node", 3, api.ErrNone, false, leads(1, at, at+1)},
		{"Lead to an extent", 3, api.ErrArg, false, leads(1, node, at+4)},
		{"Get ahead of all", 0, api.ErrNone, false, gets(-1)},
		{"Get behind all", 0, api.ErrNone, false, gets(p.g.Inodes)},
		{"Put ahead of all", 0, api.ErrNone, false, puts(-1, file)},
		{"Put of one that may not be, behind all", 0, api.ErrNone, false, puts(math.MaxInt, api.Inode{Links: 1})},
		{"Exts behind all", 0, api.ErrNone, false, extents(p.g.Inodes)},
		{"Set ahead of all", 0, api.ErrNone, false, sets(-1, 0, 1, nil)},
		{"Set of no list behind all", 0, api.ErrNone, false, sets(p.g.Inodes, 1, 0, list(0, 0, 0))},
		{"Drop behind all", 0, api.ErrNone, false, drops(math.MaxInt)},
		{"Slide ahead of all", 0, api.ErrNone, false, slides(math.MinInt, 0, 0, 0, 0)},
		{"Lead behind all", 0, api.ErrNone, false, leads(p.g.Inodes, 0, 0)},
	}
}

// What the calls return in a furnished system, where an act is in progress.
func TestCalls(t *testing.T) {
	for _, g := range []api.Geometry{small(t), wide(t), whole(t)} {
		for _, c := range calls(furnished(t, g)) {
			if c.name == "Aim" && g.Blocks < 700 {
				continue
			}
			p := furnished(t, g)
			p.begin()
			if e, zero := c.do(p.x); e != c.e || e != api.OK && !zero {
				t.Errorf("%s: %v, zero: %v", c.name, e, zero)
			}
			p.undo()
			p.holds()
		}
	}
}

// R1, R3, R5: a Trans that is missing returns ErrNil ahead of all other errors, and zero values.
func TestMissing(t *testing.T) {
	g := small(t)
	p := furnished(t, g)
	p.begin()
	dead := furnished(t, g)
	dead.d.Arm(0)
	dead.begin()
	dead.are(api.OK, dead.aim(200))
	dead.end()
	dead.are(api.ErrDead, dead.x.Commit())
	copied, copiedDead := *p.x, *dead.x
	for i, x := range []*trans.Trans{nil, {}, new(trans.Trans), &copied, &copiedDead} {
		for _, c := range calls(p) {
			if e, zero := c.do(x); e != api.ErrNil || !zero {
				t.Errorf("object %d, %s: %v, zero: %v", i, c.name, e, zero)
			}
		}
		for _, n := range far(g) {
			for _, c := range anyCalls(n) {
				if e, zero := c(x); e != api.ErrNil || !zero {
					t.Errorf("object %d, %d: %v, zero: %v", i, n, e, zero)
				}
			}
		}
	}
	p.holds()
	p.next()
	p.holds()
}

// anyCalls is calls in which a number stands everywhere.
func anyCalls(n int) []func(x *trans.Trans) (api.Errno, bool) {
	return []func(x *trans.Trans) (api.Errno, bool){
		gets(n), puts(n, api.Inode{Kind: n, Links: n, Size: n, Depth: n, Root: row(n, n, n)}), puts(0, api.Inode{Kind: n}), news(n, n), news(api.InFile, n), extents(n), drops(n), aims(n),
		sets(n, n, n, list(n, n, n)), sets(0, n, n, nil), sets(1, 0, n, list(n, n, n)), sets(2, n, 2048, nil),
		slides(n, n, n, n, n), slides(2, n, n, n, n), slides(2, 2, n, n, n), leads(n, n, n), leads(1, n, n), leads(1, 0, n),
	}
}

// R1: no numbers make a call panic or stay away, and behind them what is there can be asked for.
func TestAnyNumbers(t *testing.T) {
	for _, g := range []api.Geometry{small(t), whole(t)} {
		p := furnished(t, g)
		for _, n := range far(g) {
			for _, c := range anyCalls(n) {
				p.begin()
				if e, zero := c(p.x); e != api.OK && !zero {
					t.Error(n, e)
				}
				p.undo()
			}
			p.holds()
		}
	}
}

// Outside of an act, functions that write return ErrArg and change nothing, behind the other errors that they name; functions that read return what they do.
func TestNoAct(t *testing.T) {
	for _, g := range []api.Geometry{small(t), whole(t)} {
		p := furnished(t, g)
		refused := func() {
			t.Helper()
			for _, c := range calls(p) {
				want := c.e
				if c.acts {
					want = api.ErrArg
				}
				p.same(func() {
					if e, zero := c.do(p.x); e != want || e != api.OK && !zero {
						t.Errorf("%s: %v, zero: %v", c.name, e, zero)
					}
				})
			}
		}
		refused()
		p.begin()
		p.are(api.OK, p.aim(g.Blocks-1))
		p.end()
		refused()
		p.begin()
		p.undo()
		refused()
	}
	p := begun(t, small(t))
	p.same(func() { p.are(api.OK, p.settle()) })
	p.same(func() {
		if l, e := table.Used(p.x); len(l) > 0 || e != api.OK {
			t.Error(l, e)
		}
	})
	p.same(func() {
		p.create(api.InFile, 1)
		p.create(api.InFree, 1)
	})
}

// crowded is a furnished system whose cache has nothing of it, and only such buffers as must be written before they give way. An act is in progress if one is asked for.
func crowded(t *testing.T, acting bool) *pair {
	t.Helper()
	p := furnished(t, whole(t))
	for i := range 2 {
		p.begin()
		for k := range 128 {
			p.write(1000+128*i+k, letters("m"))
		}
		p.end()
		p.commit()
	}
	if acting {
		p.begin()
	}
	return p
}

// The device's error at the read of each block that a function reads is returned, with zero results; it stays.
func TestReadFails(t *testing.T) {
	for _, c := range calls(furnished(t, whole(t))) {
		for acts := range c.reads {
			p := crowded(t, true)
			p.d.Arm(acts)
			if e, zero := c.do(p.x); e != api.ErrDead || !zero {
				t.Errorf("%s, armed to %d: %v, zero: %v", c.name, acts, e, zero)
			}
			p.d.Arm(-1)
			if e, zero := c.do(p.x); e != api.ErrDead || !zero {
				t.Errorf("%s behind a failure: %v, zero: %v", c.name, e, zero)
			}
		}
	}
}

// What a function reads are the blocks that it must, and each of them once.
func TestReadSucceeds(t *testing.T) {
	for _, c := range calls(furnished(t, whole(t))) {
		p := crowded(t, true)
		before := p.d.Acts()
		if e, _ := c.do(p.x); e != c.e {
			t.Errorf("%s: %v", c.name, e)
		}
		if n := p.d.Acts() - before; n != c.reads && (c.e == api.OK || n > c.reads) {
			t.Errorf("%s: %d blocks were read, not %d", c.name, n, c.reads)
		}
		p.undo()
		p.d.Arm(-1)
		p.holds()
	}
}

// A device that failed before: its error is returned by all functions, but behind errors that come ahead of any block.
func TestDead(t *testing.T) {
	for _, g := range []api.Geometry{small(t), whole(t)} {
		p := furnished(t, g)
		l := calls(p)
		p.begin()
		p.are(api.OK, p.aim(200))
		p.end()
		p.d.Arm(2)
		p.are(api.ErrDead, p.x.Commit())
		p.d.Arm(-1)
		before := p.d.Acts()
		for _, c := range l {
			want := api.ErrDead
			if c.reads == 0 {
				want = c.e
			}
			if e, zero := c.do(p.x); e != want || !zero {
				t.Errorf("%s: %v, zero: %v", c.name, e, zero)
			}
		}
		if p.d.Acts() != before {
			t.Error("acts of a dead device")
		}
	}
}

// R2: two Transes over two devices are independent.
func TestIndependent(t *testing.T) {
	p, q := furnished(t, small(t)), furnished(t, small(t))
	p.begin()
	p.are(api.OK, p.settle(), p.drop(1), p.drop(0), p.set(2, 0, 99, nil))
	q.holds()
	q.begin()
	q.are(api.OK, q.drop(2))
	p.holds()
	p.next()
	q.holds()
	q.next()
	p.holds()
	if n, e := alloc.Count(q.x); n == 0 || e != api.OK {
		t.Error(n, e)
	}
}
