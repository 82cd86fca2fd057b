package files_test

import (
	"math/rand"
	"slices"
	"testing"

	"glissade/api"
	"glissade/device"
	"glissade/files"
	"glissade/journal"
	"glissade/table"
	"glissade/trans"
)

// leavings lists what crashes of a device leave: of none and all of the pending blocks, and of some by chance.
func leavings(from *rand.Rand, d *device.Device) []string {
	n := len(d.Pending())
	l := []string{d.Crash(nil), d.Crash(slices.Repeat([]bool{true}, n))}
	for range 4 {
		var keep []bool
		for range n {
			keep = append(keep, from.Intn(2) == 0)
		}
		l = append(l, d.Crash(keep))
	}
	return l
}

// is tells whether the inodes of a Trans have the Sizes and the extents of a state.
func (p *pair) is(s state) bool {
	for n := range s.inodes {
		x, e := table.Get(p.x, n)
		p.are(api.OK, e)
		if x.Kind != s.inodes[n].kind || x.Kind == api.InFile && x.Size != len(s.inodes[n].text) {
			return false
		}
		if x.Kind == api.InFree {
			continue
		}
		if l, _, e := table.Exts(p.x, n); !slices.Equal(l, s.inodes[n].exts()) || e != api.OK {
			return false
		}
	}
	return true
}

// replayed is a Trans of what a crash has left.
func (p *pair) replayed(image string) *pair {
	p.t.Helper()
	d, e := device.Open(image)
	p.are(api.OK, e)
	_, e = journal.Replay(d, p.g)
	p.are(api.OK, e)
	x, e := trans.New(d, p.g)
	p.are(api.OK, e)
	return &pair{t: p.t, g: p.g, d: d, x: x, w: &told{g: p.g}}
}

// left is the pair with which one goes on behind a crash: Sizes and extents are those of one of the states that may be, and so are the bytes, but those that the last of the states has otherwise, which may be the one's, the other's, or zero.
func (p *pair) left(image string, may ...state) *pair {
	p.t.Helper()
	q := p.replayed(image)
	found := slices.IndexFunc(may, q.is)
	if found < 0 {
		p.t.Fatal("the Sizes and extents are those of no commit")
	}
	q.w.state = may[found].copied()
	none := make([]bool, p.g.Blocks)
	q.w.waits, q.w.revoked = none, slices.Clone(none)
	for n := range q.w.inodes {
		if x := &q.w.inodes[n]; x.kind == api.InFile {
			x.text = q.mixed(n, x.text, may[len(may)-1].inodes[n].text)
		}
	}
	q.holds()
	return q
}

// mixed is the bytes of a file, each of which is as it was, as it should have become, or zero.
func (p *pair) mixed(n int, was, should string) string {
	p.t.Helper()
	s, e := files.Read(p.x, n, 0, api.MaxSize)
	if e != api.OK || len(s) != len(was) {
		p.t.Fatal(len(s), len(was), e)
	}
	if was == should && s != was {
		p.t.Fatalf("file %d was not changed, and has other bytes", n)
	}
	for i := range s {
		if s[i] != 0 && s[i] != was[i] && (i >= len(should) || s[i] != should[i]) {
			p.t.Fatalf("byte %d of file %d is %d", i, n, s[i])
		}
	}
	return s
}

// Behind a crash at any act of a commit, and a Replay, each file's Size and extents are those of the last commit or of the one in progress.
func TestCrash(t *testing.T) {
	from := rand.New(rand.NewSource(1))
	for way := range 3 {
		saw := map[int]int{}
		for acts := 0; ; acts++ {
			p := furnished(t, wide(t))
			before := p.w.copied()
			p.begin()
			switch way {
			case 0:
				p.are(api.OK, p.write(1, 100, text(11, 900)), p.write(3, 500, text(12, 200)), p.resize(5, 700))
			case 1:
				p.are(api.OK, p.resize(1, 1000), p.resize(2, 0), p.write(5, 290, text(13, 300)))
			case 2:
				p.are(api.OK, p.resize(5, 140), p.resize(5, 900), p.write(2, 100, text(14, 800)), p.write(1, 5000, text(15, 2000)))
			}
			p.end()
			p.begin()
			p.are(api.OK, p.write(5, 0, "dropped"), p.resize(1, 0))
			p.undo()
			p.holds()
			after := p.w.copied()
			for _, image := range leavings(from, p.d) {
				p.left(image, before)
			}
			p.d.Arm(acts)
			e := p.x.Commit()
			if e == api.OK {
				for _, image := range leavings(from, p.d) {
					p.left(image, after)
				}
				break
			}
			p.are(api.ErrDead, e)
			for _, image := range leavings(from, p.d) {
				q := p.left(image, before, after)
				saw[len(q.w.inodes[5].text)]++
				q.begin()
				q.are(api.OK, q.write(5, 650, "x"), q.resize(1, 4000), q.write(3, 0, text(16, 1000)), q.resize(2, 10))
				q.holds()
				q.end()
				q.commit()
				q.left(q.d.Kept(), q.w.state)
			}
		}
		if len(saw) != 2 {
			t.Error("not both of the commits were seen", saw)
		}
	}
}

// What a crash has left behind a file's end is not told when the file becomes longer.
func TestCrashBehindTheEnd(t *testing.T) {
	seen := 0
	for acts := range 12 {
		p := acting(t, small(t))
		n := p.plant(text(1, 200), list(0, 180, 2))
		p.end()
		p.commit()
		before := p.w.copied()
		p.begin()
		p.are(api.OK, p.write(n, 200, text(2, 56)))
		p.end()
		p.d.Arm(acts)
		e := p.x.Commit()
		q := p.left(p.d.Crash([]bool{true, true}), before, p.w.state)
		if e == api.OK {
			break
		}
		if s, f := q.x.Get(181); f == api.OK && s[72:] == text(2, 56) && len(q.w.inodes[n].text) == 200 {
			seen++
		}
		q.begin()
		q.are(api.OK, q.resize(n, 230))
		q.holds()
		q.again()
		q.are(api.OK, q.write(n, 240, "x"))
		q.holds()
	}
	if seen == 0 {
		t.Error("no crash left anything behind the end")
	}
}

// P19.5: a change of one file changes neither the bytes nor the inode of another one.
func TestOthers(t *testing.T) {
	for _, c := range calls(wide(t)) {
		if !c.acts {
			continue
		}
		p := furnished(t, wide(t))
		before := p.w.copied()
		p.begin()
		stored := p.table()
		if e, _ := c.do(p.x); e != api.OK {
			t.Fatal(c.name, e)
		}
		other := 0
		for n, s := range p.table() {
			x := before.inodes[n]
			if got, e := files.Read(p.x, n, 0, api.MaxSize); x.kind == api.InFile && (got != x.text || e != api.OK || s != stored[n]) {
				other++
			} else if x.kind != api.InFile && s != stored[n] {
				t.Errorf("%s: inode %d was changed", c.name, n)
			}
		}
		if other > 1 {
			t.Errorf("%s: %d files were changed", c.name, other)
		}
		p.undo()
		p.holds()
	}
}

// table is the bytes of all inodes.
func (p *pair) table() []string {
	p.t.Helper()
	var l []string
	for n := range p.g.Inodes {
		block, e := p.x.Read(p.g.TableAt + n/2)
		p.are(api.OK, e)
		l = append(l, block[n%2*64:n%2*64+64])
	}
	return l
}
