package table_test

import (
	"math/rand"
	"slices"
	"testing"

	"glissade/alloc"
	"glissade/api"
	"glissade/device"
	"glissade/journal"
	"glissade/trans"
)

// leavings lists what crashes of a device leave: of none and all of the pending blocks, and of some by chance.
func leavings(from *rand.Rand, d *device.Device) []string {
	n := len(d.Pending())
	l := []string{d.Crash(nil), d.Crash(slices.Repeat([]bool{true}, n))}
	for range 4 {
		var keep []bool
		for range n {
			keep = append(keep, from.Intn(2) == 0)
		}
		l = append(l, d.Crash(keep))
	}
	return l
}

// left is the pair with which one goes on behind a crash: all is as in one of the states that may be.
func (p *pair) left(image string, may ...state) *pair {
	p.t.Helper()
	d, e := device.Open(image)
	p.are(api.OK, e)
	_, e = journal.Replay(d, p.g)
	p.are(api.OK, e)
	x, e := trans.New(d, p.g)
	p.are(api.OK, e)
	q := &pair{t: p.t, g: p.g, d: d, x: x, w: &told{g: p.g}}
	found := slices.IndexFunc(may, func(s state) bool { return q.block(0) == superBytes(s.super) })
	if found < 0 {
		p.t.Fatalf("the superblock is %q, which none of the commits gave", q.block(0))
	}
	q.w.state = may[found].copied()
	none := make([]bool, p.g.Blocks)
	q.w.waits, q.w.revoked = none, slices.Clone(none)
	q.holds()
	return q
}

// Behind a crash at any act of a commit, and a Replay, all inodes, trees and the superblock are those of the last commit or of the one in progress.
func TestCrash(t *testing.T) {
	from := rand.New(rand.NewSource(1))
	for _, first := range []bool{false, true} {
		saw := map[int]int{}
		for acts := 0; ; acts++ {
			p := furnished(t, wide(t))
			at := laidAt(p.g)
			before := p.w.copied()
			p.begin()
			if first {
				p.take(list(0, 800, 90)...)
				p.are(api.OK, p.set(0, 5, 70, every(65, 1, 800)[5:40]), p.drop(1), p.aim(at))
				p.create(api.InDir, 4)
			} else {
				p.are(api.OK, p.slide(2, 2, at+34, at+30, 2), p.set(1, 0, 99, nil), p.drop(5))
			}
			p.end()
			p.begin()
			p.are(api.OK, p.set(2, 0, 1, nil), p.drop(2))
			p.create(api.InFile, 4)
			p.undo()
			p.begin()
			p.take(list(0, 1000, 1)...)
			p.are(api.OK, p.lead(2, p.nodes(2)[1], 1000))
			p.end()
			p.holds()
			after := p.w.copied()
			for _, image := range leavings(from, p.d) {
				p.left(image, before)
			}
			p.d.Arm(acts)
			e := p.x.Commit()
			if e == api.OK {
				for _, image := range leavings(from, p.d) {
					p.left(image, after)
				}
				break
			}
			p.are(api.ErrDead, e)
			for _, image := range leavings(from, p.d) {
				q := p.left(image, before, after)
				saw[q.w.super.Moved*2000+q.w.super.Cursor]++
				q.begin()
				q.are(api.OK, q.settle(), q.drop(0), q.drop(2))
				q.end()
				q.commit()
				q.left(q.d.Kept(), q.w.state)
			}
		}
		if len(saw) != 2 {
			t.Error("not both of the commits were seen", saw)
		}
	}
}

// release frees the blocks of a list's extents, as the one does who has taken them out.
func (p *pair) release(l ...api.Ext) {
	p.t.Helper()
	for _, x := range l {
		p.are(api.OK, alloc.Free(p.x, api.Run{Start: x.Physical, Len: x.Len}, true))
		for k := range x.Len {
			p.w.free(x.Physical+k, true)
		}
	}
}

// P18.8: an inode that is allocated, set, slid, led and dropped leaves as many free blocks as there were, in one transaction, in several, and behind a crash; other inodes are what they were.
func TestFreeAsBefore(t *testing.T) {
	for mask := range 1 << 5 {
		p := furnished(t, wide(t))
		n, e := alloc.Count(p.x)
		p.are(api.OK, e)
		p.begin()
		step := 0
		then := func() {
			if mask>>step&1 == 1 {
				p.next()
			}
			step++
			p.holds()
		}
		p.create(api.InDir, 1)
		then()
		l := every(60, 3, 700)
		p.take(l...)
		p.are(api.OK, p.set(4, 0, 2048, l))
		then()
		p.take(list(0, 900, 1)...)
		p.are(api.OK, p.lead(4, p.nodes(4)[2], 900))
		then()
		p.are(api.OK, p.set(4, 30, 60, nil))
		p.release(l[10:20]...)
		then()
		p.are(api.OK, p.settle())
		p.take(list(0, 600, 1)...)
		p.are(api.OK, p.slide(4, 90, 760, 600, 1))
		p.release(l[30])
		then()
		p.are(api.OK, p.drop(4))
		p.holds()
		p.end()
		p.commit()
		p.holds()
		// Settle has parted an extent of the other file, which needed no node more.
		if m, e := alloc.Count(p.x); m != n || e != api.OK {
			t.Fatal(m, n, e)
		}
	}
}

// P18.8: a change of one inode changes neither another one nor its extents, nor what stands in blocks of data.
func TestOthers(t *testing.T) {
	p := furnished(t, wide(t))
	at := laidAt(p.g)
	p.begin()
	for b := at; b < at+80; b++ {
		p.are(api.OK, p.x.Put(b, letters(string(rune('a'+b%26)))))
	}
	p.end()
	p.commit()
	l := calls(p)
	nodes := slices.Concat(p.nodes(1), p.nodes(2))
	for _, c := range l {
		if !c.acts || c.name == "Lead" {
			continue
		}
		p.begin()
		var stored []string
		for n := range p.g.Inodes {
			stored = append(stored, p.stored(n))
		}
		if e, _ := c.do(p.x); e != api.OK {
			t.Fatal(c.name, e)
		}
		other := 0
		for n := range p.g.Inodes {
			if p.stored(n) != stored[n] {
				other++
			}
		}
		if other > 1 {
			t.Errorf("%s: %d inodes changed", c.name, other)
		}
		for b := at; b < at+80; b++ {
			if s, e := p.x.Get(b); !p.x.Waits(b) && (s != letters(string(rune('a'+b%26))) || e != api.OK) {
				t.Errorf("%s: block %d is %q", c.name, b, s)
			}
		}
		for _, b := range nodes {
			if p.x.Waits(b) && c.name != "Set that frees nodes" && c.name != "Drop" && c.name != "Drop with a move" {
				t.Errorf("%s: node %d was freed", c.name, b)
			}
		}
		p.undo()
		p.holds()
	}
}
