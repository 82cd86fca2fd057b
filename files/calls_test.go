package files_test

import (
	"strings"
	"testing"

	"glissade/api"
	"glissade/files"
	"glissade/table"
	"glissade/trans"
)

// call is one call with its name, which returns the error and whether all else is zero.
type call struct {
	name  string
	reads int       // how many blocks of metadata it reads in a furnished system on the whole device
	e     api.Errno // what it returns in a furnished system
	acts  bool      // whether it needs an act
	do    func(x *trans.Trans) (api.Errno, bool)
}

func reads(n, from, many int) func(x *trans.Trans) (api.Errno, bool) {
	return func(x *trans.Trans) (api.Errno, bool) {
		s, e := files.Read(x, n, from, many)
		return e, s == ""
	}
}

func writes(n, from int, data string) func(x *trans.Trans) (api.Errno, bool) {
	return func(x *trans.Trans) (api.Errno, bool) { return files.Write(x, n, from, data), true }
}

func resizes(n, end int) func(x *trans.Trans) (api.Errno, bool) {
	return func(x *trans.Trans) (api.Errno, bool) { return files.Resize(x, n, end), true }
}

func counts(n, from, many int) func(x *trans.Trans) (api.Errno, bool) {
	return func(x *trans.Trans) (api.Errno, bool) {
		k, e := files.Blocks(x, n, from, many)
		return e, k == 0
	}
}

// furnished is a system with a directory 0; a file 1 of 12 extents in two leaves and holes between them, of 2950 bytes; a file 2 whose first extent of 5 blocks is being moved, of 1000 bytes; a pinned file 3 without bytes; and a file 5 of 300 bytes in one extent, committed; 4 and all others are free.
func furnished(t *testing.T, g api.Geometry) *pair {
	t.Helper()
	p := acting(t, g)
	p.create(api.InDir)
	at := g.DataAt + 10
	p.take(g.DataAt, 1)
	p.are(api.OK, table.Set(p.x, 0, 0, 1, list(0, g.DataAt, 1)))
	p.w.inodes[0].maps(list(0, g.DataAt, 1))
	var l []api.Ext
	for i := range 12 {
		l = append(l, api.Ext{Logical: 2*i + 1, Physical: at + 2*i, Len: 1})
	}
	p.plant(text(1, 2950), l)
	p.plant(text(2, 1000), list(0, at+32, 5, 6, at+40, 2))
	p.plant("", nil)
	x, e := table.Get(p.x, 3)
	x.Pinned, p.w.inodes[3].pinned = true, true
	p.are(api.OK, e, table.Put(p.x, 3, x))
	p.create(api.InFile)
	p.plant(text(5, 300), list(0, at+50, 3))
	p.are(api.OK, table.Drop(p.x, 4))
	p.w.inodes[4] = inode{}
	p.slide(2, 0, at+30, 2)
	p.end()
	p.commit()
	p.holds()
	if len(p.nodes(1)) != 2 {
		t.Fatal(p.nodes(1))
	}
	return p
}

// calls is all functions with arguments of each kind, for a system that was furnished: such as may be, and such as would be each error of the chapter. The bitmap has four blocks on the whole device.
func calls(g api.Geometry) []call {
	long := strings.Repeat("x", api.MaxSize)
	l := []call{
		{"Read", 4, api.OK, false, reads(1, 0, 9999)},
		{"Read of nothing", 2, api.OK, false, reads(5, 0, 0)},
		{"Read behind the end", 2, api.OK, false, reads(5, 300, 1)},
		{"Read of an empty file", 2, api.OK, false, reads(3, 0, 9)},
		{"Read of what is being moved", 2, api.OK, false, reads(2, 0, 1000)},
		{"Write within", 4, api.OK, true, writes(1, 129, "x")},
		{"Write behind the end", 2, api.OK, true, writes(5, 300, "x")},
		{"Write of holes", 8, api.OK, true, writes(1, 0, "x")},
		{"Write into an empty file", 6, api.OK, true, writes(3, 400, "x")},
		{"Write into what is being moved", 2, api.OK, true, writes(2, 200, "x")},
		{"Write ahead of what follows what is being moved", 6, api.OK, true, writes(2, 700, "x")},
		{"Write of nothing", 2, api.OK, false, writes(5, 9, "")},
		{"Write of nothing at the greatest end", 2, api.OK, false, writes(5, api.MaxSize, "")},
		{"Resize to nothing", 8, api.OK, true, resizes(1, 0)},
		{"Resize within the last block", 2, api.OK, true, resizes(5, 299)},
		{"Resize to the same", 2, api.OK, true, resizes(5, 300)},
		{"Resize of an empty file to the same", 2, api.OK, true, resizes(3, 0)},
		{"Resize to more", 2, api.OK, true, resizes(5, api.MaxSize)},
		{"Resize of an empty file", 2, api.OK, true, resizes(3, 1)},
		{"Resize of what is being moved", 6, api.OK, true, resizes(2, 300)},
		{"Blocks", 4, api.OK, false, counts(1, 0, api.MaxSize)},
		{"Blocks of nothing", 2, api.OK, false, counts(5, 1, 0)},
		{"Read ahead of all", 2, api.ErrArg, false, reads(5, -1, 1)},
		{"Read of less than nothing", 2, api.ErrArg, false, reads(5, 0, -1)},
		{"Write ahead of all", 4, api.ErrArg, false, writes(1, -1, "x")},
		{"Write of nothing ahead of all", 2, api.ErrArg, false, writes(5, -1, "")},
		{"Write of too much ahead of all", 2, api.ErrArg, false, writes(5, -1, long+"xx")},
		{"Write behind all", 2, api.ErrBig, false, writes(5, api.MaxSize, "x")},
		{"Write of nothing behind all", 2, api.ErrBig, false, writes(5, api.MaxSize+1, "")},
		{"Write of too much", 2, api.ErrBig, false, writes(5, 1, long)},
		{"Resize ahead of all", 2, api.ErrArg, false, resizes(5, -1)},
		{"Resize behind all", 4, api.ErrBig, false, resizes(1, api.MaxSize+1)},
		{"Blocks ahead of all", 2, api.ErrArg, false, counts(5, -1, 1)},
		{"Blocks of less than nothing", 2, api.ErrArg, false, counts(5, 0, -1)},
		{"Blocks behind all", 2, api.ErrArg, false, counts(5, 1, api.MaxSize)},
	}
	return append(l, noFiles(g)...)
}

// noFiles is calls for inodes that are no files, or none at all.
func noFiles(g api.Geometry) []call {
	var l []call
	for _, n := range []int{0, 4, g.Inodes - 1} {
		l = append(l,
			call{"Read of no file", 1, api.ErrNone, false, reads(n, 0, 9)},
			call{"Read of no file ahead of all", 1, api.ErrNone, false, reads(n, -1, 9)},
			call{"Write of no file", 1, api.ErrNone, false, writes(n, 0, "x")},
			call{"Write of no file ahead of all", 1, api.ErrNone, false, writes(n, -1, "x")},
			call{"Write of no file behind all", 1, api.ErrNone, false, writes(n, api.MaxSize, "x")},
			call{"Write of nothing into no file", 1, api.ErrNone, false, writes(n, 0, "")},
			call{"Resize of no file", 1, api.ErrNone, false, resizes(n, 0)},
			call{"Resize of no file ahead of all", 1, api.ErrNone, false, resizes(n, -1)},
			call{"Resize of no file behind all", 1, api.ErrNone, false, resizes(n, api.MaxSize+1)},
			call{"Blocks of no file", 1, api.ErrNone, false, counts(n, 0, 9)},
			call{"Blocks of no file ahead of all", 1, api.ErrNone, false, counts(n, -1, 9)},
		)
	}
	for _, n := range far(g) {
		if n < 0 || n >= g.Inodes {
			l = append(l,
				call{"Read of none", 0, api.ErrNone, false, reads(n, 0, 9)},
				call{"Read of none ahead of all", 0, api.ErrNone, false, reads(n, n, n)},
				call{"Write of none", 0, api.ErrNone, false, writes(n, 0, "x")},
				call{"Write of none ahead of all", 0, api.ErrNone, false, writes(n, n, "")},
				call{"Resize of none", 0, api.ErrNone, false, resizes(n, 0)},
				call{"Resize of none ahead of all", 0, api.ErrNone, false, resizes(n, n)},
				call{"Blocks of none", 0, api.ErrNone, false, counts(n, 0, 9)},
				call{"Blocks of none ahead of all", 0, api.ErrNone, false, counts(n, n, n)},
			)
		}
	}
	return l
}

// anyCalls is calls in which a number stands everywhere.
func anyCalls(n int) []func(x *trans.Trans) (api.Errno, bool) {
	l := []func(x *trans.Trans) (api.Errno, bool){reads(n, n, n), writes(n, n, "x"), resizes(n, n), counts(n, n, n)}
	for _, k := range []int{1, 2, 3, 5} {
		l = append(l, reads(k, n, n), reads(k, 0, n), reads(k, n, 200), reads(k, 130, n), writes(k, n, "x"), writes(k, n, ""), writes(k, n, text(0, 300)), resizes(k, n), counts(k, n, n), counts(k, 0, n), counts(k, n, 200))
	}
	return l
}

// What the calls return in a furnished system, where an act is in progress. What an error leaves is dropped.
func TestCalls(t *testing.T) {
	for _, g := range []api.Geometry{small(t), wide(t), whole(t)} {
		p := furnished(t, g)
		for _, c := range calls(g) {
			p.begin()
			if e, zero := c.do(p.x); e != c.e || e != api.OK && !zero {
				t.Errorf("%s: %v, zero: %v", c.name, e, zero)
			}
			p.undo()
		}
		p.holds()
	}
}

// A call that returns one of the errors that the chapter names has changed nothing, and needs no act for that.
func TestErrorsChangeNothing(t *testing.T) {
	p := furnished(t, wide(t))
	p.begin()
	p.are(api.OK, p.write(5, 250, text(9, 300)))
	for _, c := range calls(p.g) {
		if c.e == api.OK {
			continue
		}
		changed, waiting, revoked := p.x.Size()
		if e, zero := c.do(p.x); e != c.e || !zero {
			t.Errorf("%s: %v, zero: %v", c.name, e, zero)
		}
		if a, b, r := p.x.Size(); a != changed || b != waiting || r != revoked {
			t.Errorf("%s: Size is %d %d %d", c.name, a, b, r)
		}
	}
	p.holds()
	p.next()
	p.holds()
}

// R1, R3, R5: a Trans that is missing returns ErrNil ahead of all other errors, and zero values.
func TestMissing(t *testing.T) {
	g := small(t)
	p := furnished(t, g)
	p.begin()
	dead := furnished(t, g)
	dead.d.Arm(0)
	dead.begin()
	dead.are(api.OK, dead.write(5, 0, "x"))
	dead.end()
	dead.are(api.ErrDead, dead.x.Commit())
	copied, copiedDead := *p.x, *dead.x
	for i, x := range []*trans.Trans{nil, {}, new(trans.Trans), &copied, &copiedDead} {
		for _, c := range calls(g) {
			if e, zero := c.do(x); e != api.ErrNil || !zero {
				t.Errorf("object %d, %s: %v, zero: %v", i, c.name, e, zero)
			}
		}
		for _, n := range far(g) {
			for _, c := range anyCalls(n) {
				if e, zero := c(x); e != api.ErrNil || !zero {
					t.Errorf("object %d, %d: %v, zero: %v", i, n, e, zero)
				}
			}
		}
	}
	p.holds()
	p.next()
	p.holds()
}

// R1: no numbers make a call panic or stay away, and behind them what is there can be asked for.
func TestAnyNumbers(t *testing.T) {
	for _, g := range []api.Geometry{small(t), whole(t)} {
		p := furnished(t, g)
		for _, n := range far(g) {
			for _, c := range anyCalls(n) {
				p.begin()
				if e, zero := c(p.x); e != api.OK && !zero {
					t.Error(n, e)
				}
				p.undo()
			}
		}
		p.holds()
	}
}

// Outside of an act, functions that write return ErrArg and change nothing, behind the other errors that they name; functions that read return what they do.
func TestNoAct(t *testing.T) {
	p := furnished(t, small(t))
	refused := func() {
		t.Helper()
		p.same(func() {
			for _, c := range calls(p.g) {
				want := c.e
				if c.acts {
					want = api.ErrArg
				}
				if e, zero := c.do(p.x); e != want || e != api.OK && !zero {
					t.Errorf("%s: %v, zero: %v", c.name, e, zero)
				}
			}
		})
	}
	refused()
	p.begin()
	p.are(api.OK, p.write(5, 200, text(1, 500)), p.resize(1, 2900))
	p.end()
	refused()
	p.begin()
	p.undo()
	refused()
	p.commit()
	refused()
}

// crowded is a furnished system whose cache has nothing of it, and only such buffers as must be written before they give way. An act is in progress.
func crowded(t *testing.T) *pair {
	t.Helper()
	p := furnished(t, whole(t))
	for i := range 2 {
		p.begin()
		for k := range 128 {
			p.are(api.OK, p.x.Write(1000+128*i+k, strings.Repeat("m", 128)))
		}
		p.end()
		p.commit()
	}
	p.begin()
	return p
}

// The device's error at the read of each block that a function reads is returned, with zero results; it stays.
func TestReadFails(t *testing.T) {
	for _, c := range calls(whole(t)) {
		for acts := range c.reads {
			p := crowded(t)
			p.d.Arm(acts)
			if e, zero := c.do(p.x); e != api.ErrDead || !zero {
				t.Errorf("%s, armed to %d: %v, zero: %v", c.name, acts, e, zero)
			}
			p.d.Arm(-1)
			if e, zero := c.do(p.x); e != api.ErrDead || !zero {
				t.Errorf("%s behind a failure: %v, zero: %v", c.name, e, zero)
			}
		}
	}
}

// What a function reads are the blocks that it must, and each of them once.
func TestReadSucceeds(t *testing.T) {
	for _, c := range calls(whole(t)) {
		p := crowded(t)
		before := p.d.Acts()
		if e, _ := c.do(p.x); e != c.e {
			t.Errorf("%s: %v", c.name, e)
		}
		if n := p.d.Acts() - before; n != c.reads {
			t.Errorf("%s: %d blocks were read, not %d", c.name, n, c.reads)
		}
		p.undo()
		if strings.HasPrefix(c.name, "Write") {
			p.holds()
		}
	}
}

// A device that failed before: its error is returned by all functions, but behind that of an inode that is none.
func TestDead(t *testing.T) {
	for _, g := range []api.Geometry{small(t), whole(t)} {
		p := furnished(t, g)
		p.begin()
		p.are(api.OK, p.write(5, 0, "x"))
		p.end()
		p.d.Arm(2)
		p.are(api.ErrDead, p.x.Commit())
		p.d.Arm(-1)
		before := p.d.Acts()
		for _, c := range calls(g) {
			want := api.ErrDead
			if c.reads == 0 {
				want = c.e
			}
			if e, zero := c.do(p.x); e != want || !zero {
				t.Errorf("%s: %v, zero: %v", c.name, e, zero)
			}
		}
		if p.d.Acts() != before {
			t.Error("acts of a dead device")
		}
	}
}

// An inode whose stored bytes are not those of a valid one is ErrForm ahead of all other errors; a directory is ErrNone ahead of those of its extents and of the superblock; a file's extents that cannot be told are ErrForm ahead of wrong numbers.
func TestForm(t *testing.T) {
	spoil := []struct {
		name string
		n    int
		want api.Errno
		do   func(p *pair)
	}{
		{"a file that is no inode", 1, api.ErrForm, func(p *pair) { p.inscribe(1, "\x03"+nul(63)) }},
		{"a directory that is no inode", 0, api.ErrForm, func(p *pair) { p.inscribe(0, text(4, 64)) }},
		{"a free inode that has something", 4, api.ErrForm, func(p *pair) { p.inscribe(4, nul(63)+"x") }},
		{"a file with a node that is none", 1, api.ErrForm, func(p *pair) { p.are(api.OK, p.x.Write(p.nodes(1)[1], text(4, 128))) }},
		{"a directory with a node that is none", 0, api.ErrNone, leadAstray},
		{"a file without a superblock", 1, api.ErrForm, func(p *pair) { p.are(api.OK, p.x.Write(0, text(4, 128))) }},
		{"a directory without a superblock", 0, api.ErrNone, func(p *pair) { p.are(api.OK, p.x.Write(0, nul(128))) }},
		{"a free inode without a superblock", 4, api.ErrNone, func(p *pair) { p.are(api.OK, p.x.Write(0, nul(128))) }},
	}
	for _, s := range spoil {
		p := furnished(t, small(t))
		p.begin()
		s.do(p)
		for _, n := range []int{-1, 0, 1, 200, 1000, 2950, api.MaxSize, api.MaxSize + 1} {
			for i, c := range []func(x *trans.Trans) (api.Errno, bool){
				reads(s.n, n, 1), reads(s.n, 0, n), writes(s.n, n, "x"), writes(s.n, n, ""), resizes(s.n, n), counts(s.n, n, 1), counts(s.n, 0, n),
			} {
				if e, zero := c(p.x); e != s.want || !zero {
					t.Errorf("%s, call %d with %d: %v, zero: %v", s.name, i, n, e, zero)
				}
			}
		}
		p.undo()
		p.holds()
	}
}

// leadAstray lets the directory's tree lead to what is no node.
func leadAstray(p *pair) {
	x, e := table.Get(p.x, 0)
	x.Depth, x.Root = 1, []api.Entry{{Logical: 0, Physical: p.g.DataAt, Len: 0}}
	p.are(api.OK, e, table.Put(p.x, 0, x))
}

// A move that the superblock tells, of what the file does not have, is ErrForm, too; files that it does not concern are as they were.
func TestFormMove(t *testing.T) {
	p := furnished(t, small(t))
	p.begin()
	s := p.w.super
	s.Logical++
	p.are(api.OK, p.x.Write(0, superBytes(s)))
	for _, c := range []func(x *trans.Trans) (api.Errno, bool){reads(2, -1, 1), reads(2, 0, 9), writes(2, -1, "x"), writes(2, 0, "x"), resizes(2, -1), resizes(2, 9), counts(2, -1, 1), counts(2, 0, 1)} {
		if e, zero := c(p.x); e != api.ErrForm || !zero {
			t.Error(e, zero)
		}
	}
	p.are(api.OK, p.read(5, 0, 300), p.read(1, 0, 3000), p.write(5, 9, "x"), p.resize(1, 0))
}

// What cannot be read or written is the error of trans, what cannot be freed that of alloc: blocks of the log, behind the device, ahead of the data, or that are not used.
func TestErrorsBelow(t *testing.T) {
	for _, c := range []struct {
		at              int
		asked, cut, all api.Errno
	}{
		{5, api.ErrBlock, api.ErrArg, api.ErrArg}, {127, api.ErrBlock, api.ErrArg, api.ErrArg}, {256, api.ErrBlock, api.ErrArg, api.ErrArg}, {4095, api.ErrBlock, api.ErrArg, api.ErrArg},
		{133, api.OK, api.ErrArg, api.ErrArg}, {200, api.OK, api.ErrArg, api.ErrArg},
	} {
		p := acting(t, small(t))
		n := p.plant(text(1, 300), list(0, 180, 1))
		p.are(api.OK, table.Set(p.x, n, 2, 3, list(2, c.at, 1)))
		p.end()
		for _, d := range []struct {
			name string
			want api.Errno
			do   func(x *trans.Trans) (api.Errno, bool)
		}{
			{"Read", c.asked, reads(n, 256, 1)}, {"Read of all", c.asked, reads(n, 0, 999)}, {"Read ahead", api.OK, reads(n, 0, 256)}, {"Read of nothing", api.OK, reads(n, 256, 0)},
			{"Write", c.asked, writes(n, 299, "x")}, {"Write of a block", c.asked, writes(n, 256, text(2, 128))}, {"Write behind", c.asked, writes(n, 300, "x")}, {"Write far behind", c.asked, writes(n, 500, "x")},
			{"Resize to more", c.asked, resizes(n, 301)}, {"Resize within the block", api.OK, resizes(n, 257)}, {"Resize", c.cut, resizes(n, 256)}, {"Resize to nothing", c.all, resizes(n, 0)},
			{"Blocks", api.OK, counts(n, 0, 999)},
		} {
			p.are(api.OK, p.x.Begin())
			if e, zero := d.do(p.x); e != d.want || e != api.OK && !zero {
				t.Errorf("%s with block %d: %v, zero: %v, wanted %v", d.name, c.at, e, zero, d.want)
			}
			p.x.Drop()
		}
	}
}

// A move to block 0, which no file can have, ends what would give blocks to the file or take some from it.
func TestErrorsOfMove(t *testing.T) {
	p := acting(t, small(t))
	n := p.plant(text(1, 900), list(0, 180, 5, 6, 190, 2))
	p.are(api.OK, table.Slide(p.x, n, 0, api.Move{From: 180, To: 0, Len: 2}))
	p.end()
	for _, c := range []func(x *trans.Trans) (api.Errno, bool){writes(n, 0, text(1, 900)), writes(n, 700, "x"), writes(n, 2000, "x"), resizes(n, 0), resizes(n, 500)} {
		p.are(api.OK, p.x.Begin())
		if e, zero := c(p.x); e != api.ErrArg || !zero {
			t.Error(e, zero)
		}
		p.x.Drop()
	}
}

// R2: two Transes over two devices are independent.
func TestIndependent(t *testing.T) {
	p, q := furnished(t, small(t)), furnished(t, small(t))
	p.begin()
	p.are(api.OK, p.write(5, 1, text(4, 900)), p.resize(1, 0), p.write(2, 3, "x"))
	q.holds()
	q.begin()
	q.are(api.OK, q.write(1, 0, text(3, 100)))
	p.holds()
	p.next()
	q.holds()
	q.next()
	p.holds()
}
