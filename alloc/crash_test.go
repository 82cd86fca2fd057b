package alloc_test

import (
	"math"
	"math/rand"
	"slices"
	"testing"

	"glissade/alloc"
	"glissade/api"
	"glissade/device"
	"glissade/journal"
	"glissade/trans"
)

// call is one call with its name, which returns the error and whether all else is zero.
type call struct {
	name string
	do   func(x *trans.Trans) (api.Errno, bool)
}

// calls is all functions with arguments of each kind: such as may be, and such as would be each error of the chapter. The blocks from DataAt on are used, those behind the next nine are not.
func calls(g api.Geometry) []call {
	runs := func(goal, most int) func(x *trans.Trans) (api.Errno, bool) {
		return func(x *trans.Trans) (api.Errno, bool) {
			r, e := alloc.Run(x, goal, most)
			return e, r == api.Run{}
		}
	}
	takes := func(r api.Run) func(x *trans.Trans) (api.Errno, bool) {
		return func(x *trans.Trans) (api.Errno, bool) { return alloc.Take(x, r), true }
	}
	frees := func(r api.Run, meta bool) func(x *trans.Trans) (api.Errno, bool) {
		return func(x *trans.Trans) (api.Errno, bool) { return alloc.Free(x, r, meta), true }
	}
	return []call{
		{"Map", func(x *trans.Trans) (api.Errno, bool) { s, e := alloc.Map(x); return e, s == "" }},
		{"Count", func(x *trans.Trans) (api.Errno, bool) { n, e := alloc.Count(x); return e, n == 0 }},
		{"Run", runs(0, 1)},
		{"Run of many", runs(g.Blocks-1, math.MaxInt)},
		{"Run of none", runs(0, 0)},
		{"Take", takes(run(g.DataAt+20, 2))},
		{"Take of none", takes(run(g.DataAt+20, 0))},
		{"Take ahead of the data", takes(run(g.DataAt-1, 2))},
		{"Take of used blocks", takes(run(g.DataAt, 2))},
		{"Free", frees(run(g.DataAt, 2), true)},
		{"Free of data", frees(run(g.DataAt, 2), false)},
		{"Free of none", frees(run(g.DataAt, -1), true)},
		{"Free behind the device", frees(run(g.Blocks, 1), false)},
		{"Free of open blocks", frees(run(g.DataAt+20, 2), false)},
	}
}

// crowded is a Trans whose cache has no block of the bitmap, and only such buffers as must be written before they give way. An act is in progress if one is asked for.
func crowded(t *testing.T, acting bool) *pair {
	t.Helper()
	p := begun(t, whole(t), fixed(whole(t)))
	p.begin()
	p.are(api.OK, p.take(run(p.g.DataAt, 9)))
	p.end()
	p.commit()
	for i := range 2 {
		p.begin()
		for k := range 128 {
			p.write(1000 + 128*i + k)
		}
		p.end()
		p.commit()
	}
	if acting {
		p.begin()
	}
	return p
}

// The device's error at a read of the bitmap's first block, or of a later one, comes ahead of all errors but ErrNil, with zero results; it stays, and nothing is changed.
func TestReadFails(t *testing.T) {
	for _, acting := range []bool{false, true} {
		for _, c := range calls(whole(t)) {
			for acts := range whole(t).MapLen {
				p := crowded(t, acting)
				changed, waiting, revoked := p.x.Size()
				p.d.Arm(acts)
				if e, zero := c.do(p.x); e != api.ErrDead || !zero {
					t.Errorf("%s, armed to %d: %v, zero: %v", c.name, acts, e, zero)
				}
				p.isSize(changed, waiting, revoked)
				p.d.Arm(-1)
				if e, zero := c.do(p.x); e != api.ErrDead || !zero {
					t.Errorf("%s behind a failure: %v, zero: %v", c.name, e, zero)
				}
				p.isSize(changed, waiting, revoked)
			}
		}
	}
}

// All functions read the bitmap, and no more, so that they need just the acts that its blocks' reads need.
func TestReadSucceeds(t *testing.T) {
	for _, c := range calls(whole(t)) {
		p, q := crowded(t, true), acting(t, whole(t), fixed(whole(t)))
		q.are(api.OK, q.take(run(q.g.DataAt, 9)))
		p.d.Arm(p.g.MapLen)
		got, _ := c.do(p.x)
		if want, _ := c.do(q.x); got != want {
			t.Errorf("%s: %v, wanted %v", c.name, got, want)
		}
		if !p.d.Dead() {
			t.Errorf("%s did not read all of the bitmap", c.name)
		}
		s, _ := alloc.Map(p.x)
		if want, _ := alloc.Map(q.x); s != want {
			t.Errorf("%s: other bits", c.name)
		}
	}
}

// A device that failed at a commit: its error comes ahead of all others, with zero results.
func TestDead(t *testing.T) {
	for _, g := range []api.Geometry{small(t), whole(t)} {
		for acts := range 5 {
			p := acting(t, g, fixed(g))
			p.are(api.OK, p.take(run(g.DataAt, 9)))
			p.end()
			p.d.Arm(acts)
			if e := p.x.Commit(); e == api.OK {
				continue
			}
			p.d.Arm(-1)
			before := p.d.Acts()
			for _, c := range calls(g) {
				if e, zero := c.do(p.x); e != api.ErrDead || !zero {
					t.Errorf("%s: %v, zero: %v", c.name, e, zero)
				}
			}
			if p.d.Acts() != before {
				t.Error("acts of a dead device")
			}
		}
	}
}

// leavings lists what crashes of a device leave: of none and all of the pending blocks, of each choice if they are few, and of some by chance.
func leavings(from *rand.Rand, d *device.Device) []string {
	n := len(d.Pending())
	l := []string{d.Crash(nil), d.Crash(slices.Repeat([]bool{true}, n))}
	for range 6 {
		var keep []bool
		for range n {
			keep = append(keep, from.Intn(2) == 0)
		}
		l = append(l, d.Crash(keep))
	}
	if n <= 3 {
		for k := range 1 << n {
			l = append(l, d.Crash([]bool{k&1 > 0, k&2 > 0, k&4 > 0}))
		}
	}
	return l
}

// anew is a new Trans of an image, behind a Replay.
func anew(t *testing.T, g api.Geometry, image string) (*device.Device, *trans.Trans) {
	t.Helper()
	d, e := device.Open(image)
	if e != api.OK {
		t.Fatal(e)
	}
	if _, e := journal.Replay(d, g); e != api.OK {
		t.Fatal(e)
	}
	x, e := trans.New(d, g)
	if e != api.OK {
		t.Fatal(e)
	}
	return d, x
}

// left is the pair with which one goes on behind a crash: its bitmap is one of those that may be, as bytes.
func (p *pair) left(image string, may ...string) *pair {
	p.t.Helper()
	d, x := anew(p.t, p.g, image)
	s, e := alloc.Map(x)
	if e != api.OK || !slices.Contains(may, s) {
		p.t.Fatalf("%v, the bitmap is %q, which none of the commits gave", e, s)
	}
	q := &pair{t: p.t, g: p.g, d: d, x: x, w: toldOf(p.g, bitsOf(s))}
	q.holds()
	return q
}

// Behind a crash at any act of a commit, and a Replay, the bitmap is that of the last commit or of the one in progress, and what the one in progress freed is open just in the second case.
func TestCrash(t *testing.T) {
	from := rand.New(rand.NewSource(1))
	for _, g := range []api.Geometry{small(t), wide(t), whole(t)} {
		last := run(g.Blocks-4, 4)
		saw := map[string]int{}
		for acts := 0; ; acts++ {
			p := acting(t, g, fixed(g))
			p.are(api.OK, p.take(last))
			p.isRun(0, 8, run(g.DataAt, 8))
			p.next()
			before := p.w.image()
			p.are(api.OK, p.free(run(g.DataAt+2, 3), true))
			p.isRun(0, 5, run(g.DataAt+8, 5))
			p.end()
			p.begin()
			p.are(api.OK, p.free(last, true), p.take(run(g.DataAt+20, 2)))
			p.drop()
			p.begin()
			p.are(api.OK, p.free(run(g.Blocks-3, 2), false), p.free(run(g.DataAt+9, 1), false))
			p.end()
			for _, image := range leavings(from, p.d) {
				p.left(image, before)
			}
			p.d.Arm(acts)
			e := p.x.Commit()
			after := p.w.image()
			if e == api.OK {
				for _, image := range leavings(from, p.d) {
					p.left(image, after)
				}
				break
			}
			p.are(api.ErrDead, e)
			for _, image := range leavings(from, p.d) {
				q := p.left(image, before, after)
				q.begin()
				q.run(g.DataAt, 20)
				q.run(g.Blocks-3, 20)
				q.next()
				q.holds()
				saw[q.left(q.d.Kept(), q.w.image()).w.image()]++
			}
		}
		if len(saw) != 2 {
			t.Error("not both of the commits were seen", len(saw))
		}
	}
}
