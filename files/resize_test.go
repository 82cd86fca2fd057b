package files_test

import (
	"math"
	"testing"

	"glissade/api"
	"glissade/files"
	"glissade/table"
)

// P19.3: the numbers that may be, and such that may not.
func TestResizeNumbers(t *testing.T) {
	p := furnished(t, small(t))
	p.begin()
	for _, n := range []int{1, 2, 3, 5} {
		p.same(func() {
			p.are(api.ErrArg, p.resize(n, -1), p.resize(n, math.MinInt))
			p.are(api.ErrBig, p.resize(n, api.MaxSize+1), p.resize(n, math.MaxInt))
		})
	}
	p.undo()
	for n := range 9 {
		size := len(shapes(t).w.inodes[n].text)
		for _, end := range edges(size) {
			if end < 0 || end > api.MaxSize {
				continue
			}
			p := shapes(t)
			p.next()
			free := p.free()
			p.are(api.OK, p.resize(n, end))
			p.holds()
			if p.free() < free {
				t.Errorf("Resize %d %d gave out blocks", n, end)
			}
			if x, e := table.Get(p.x, n); x.Size != end || e != api.OK {
				t.Error(x, e)
			}
		}
	}
}

// P19.3: a file that is cut and made longer again reads as zero where it was cut off; in one act, in several, and in several transactions.
func TestCutAndGrow(t *testing.T) {
	for _, cut := range []int{0, 1, 127, 128, 129, 200, 255, 256, 300, 511, 512, 513, 599} {
		for _, end := range []int{128, 256, 300, 512, 600, 640, 700, api.MaxSize} {
			for way := range 3 {
				p := acting(t, small(t))
				n := p.plant(text(1, 600), list(0, 180, 2, 3, 190, 2))
				p.next()
				then := func() {
					if way == 1 {
						p.end()
						p.begin()
					}
					if way == 2 {
						p.next()
					}
					p.holds()
				}
				p.are(api.OK, p.resize(n, cut))
				then()
				p.are(api.OK, p.resize(n, end))
				then()
				want := text(1, 256) + nul(128) + text(1, 600)[384:]
				want = (want[:min(cut, end)] + nul(api.MaxSize))[:end]
				if s, e := files.Read(p.x, n, 0, api.MaxSize); s != want || e != api.OK {
					t.Fatalf("%d %d: %q %v", cut, end, s[:min(len(s), 700)], e)
				}
				p.are(api.OK, p.write(n, 650, "z"))
				then()
			}
		}
	}
}

// P19.3: the blocks that lie wholly behind the new end are freed, and no others; they wait until the commit.
func TestResizeFrees(t *testing.T) {
	for end := 0; end <= 1300; end += 10 {
		p := acting(t, small(t))
		n := p.plant(text(1, 1290), list(0, 180, 3, 4, 160, 2, 6, 190, 5))
		p.next()
		p.are(api.OK, p.resize(n, end))
		waiting := 0
		for k, b := range map[int]int{0: 180, 1: 181, 2: 182, 4: 160, 5: 161, 6: 190, 7: 191, 8: 192, 9: 193, 10: 194} {
			if p.x.Waits(b) != (end <= k*128) {
				t.Errorf("Resize %d: block %d waits: %v", end, k, p.x.Waits(b))
			}
			if end <= k*128 {
				waiting++
			}
		}
		if _, all, revoked := p.x.Size(); all != waiting || revoked != 0 {
			t.Errorf("Resize %d: %d wait, not %d; %d are revoked", end, all, waiting, revoked)
		}
		p.holds()
		m := p.create(api.InFile)
		p.are(api.OK, p.write(m, 0, text(2, 40*128)))
		for _, b := range p.w.inodes[m].at[:40] {
			if b >= 180 && b < 183 || b >= 160 && b < 162 || b >= 190 && b < 195 {
				t.Fatalf("block %d was given out again", b)
			}
		}
		p.holds()
		p.next()
		p.holds()
	}
}

// P19.3: cutting within the last block, or within a hole, frees nothing and changes the inode alone; making longer changes the inode alone, too.
func TestResizeLittle(t *testing.T) {
	for _, c := range []struct{ from, to int }{
		{600, 599}, {600, 513}, {600, 512}, {600, 400}, {600, 384}, {600, 600}, {600, 601}, {600, 640}, {600, 641}, {600, 5000}, {600, api.MaxSize}, {512, 513}, {512, 511}, {384, 385}, {384, 384},
	} {
		p := acting(t, small(t))
		n := p.plant(text(1, 384)+nul(c.from-384), list(0, 180, 3))
		p.next()
		p.are(api.OK, p.resize(n, c.to))
		if changed, waiting, _ := p.x.Size(); changed != 1 || waiting != 0 {
			t.Errorf("%d to %d: %d changed, %d wait", c.from, c.to, changed, waiting)
		}
		p.laid(n, list(0, 180, 3))
		p.holds()
	}
}

// P19.3, P19.5: behind a Resize to 0, an empty file has no blocks; behind a commit as many are free as before, its nodes among them.
func TestResizeToNothing(t *testing.T) {
	for _, extents := range []int{1, 4, 5, 11, 41, 100, 500} {
		p := acting(t, whole(t))
		n := p.create(api.InFile)
		m := p.plant(text(3, 500), list(0, 4000, 4))
		p.next()
		free := p.free()
		for i := range extents {
			p.are(api.OK, p.write(n, 256*i, "x"))
			if i%2 == 0 {
				p.are(api.OK, p.write(m, 512+128*i, "y"))
			}
		}
		p.are(api.OK, p.resize(m, 500))
		nodes := len(p.nodes(n))
		if extents > 4 && nodes == 0 {
			t.Error("no nodes")
		}
		p.next()
		p.are(api.OK, p.resize(n, 0))
		p.laid(n, nil)
		if _, waiting, revoked := p.x.Size(); waiting != extents+nodes || revoked != nodes {
			t.Error(waiting, revoked)
		}
		p.holds()
		p.next()
		p.holds()
		if p.free() != free {
			t.Error(p.free(), free)
		}
	}
}

// P19.3: while an extent of the file is being moved, what was moved and what was not is cut off; where no block is, the move goes on.
func TestResizeMoved(t *testing.T) {
	for moved := 1; moved < 5; moved++ {
		for end := 0; end <= 1100; end += 50 {
			p := acting(t, small(t))
			n := p.plant(text(1, 1000), list(0, 180, 5, 6, 200, 2))
			p.slideBy2(n, 0, moved)
			p.are(api.OK, p.resize(n, end))
			if going := p.w.super.Len > 0; going != (end > 896) {
				t.Error(end, going)
			}
			p.holds()
			p.next()
			p.holds()
			p.are(api.OK, p.resize(n, 1000), p.write(n, 0, text(2, 1200)))
			p.holds()
		}
	}
}

// P19.3: where no block is free, files are cut and made longer all the same.
func TestResizeNoSpace(t *testing.T) {
	p := acting(t, small(t))
	n := p.plant(text(1, 3000), list(0, 180, 1, 2, 182, 1, 4, 184, 1, 6, 186, 1, 8, 188, 1, 10, 190, 14))
	m := p.plant(text(2, 300), list(0, 220, 3))
	for _, b := range p.w.open() {
		p.take(b, 1)
	}
	p.next()
	p.are(api.OK, p.resize(m, 4000), p.resize(m, 130), p.resize(m, 200), p.resize(n, 2900), p.resize(n, 1500), p.resize(n, 1100))
	p.holds()
	p.are(api.OK, p.resize(n, 700), p.resize(n, api.MaxSize), p.resize(n, 1), p.resize(n, 200), p.resize(n, 0), p.resize(m, 0))
	p.holds()
	p.next()
	p.holds()
}
