package alloc_test

import (
	"math"
	"slices"
	"strings"
	"testing"

	"glissade/alloc"
	"glissade/api"
	"glissade/trans"
)

// The chapter's examples, line by line.
func TestExamples(t *testing.T) {
	p := acting(t, small(t), fixed(small(t)))
	if p.g.DataAt != 134 {
		t.Fatal(p.g)
	}
	p.isCount(122)
	p.isRun(0, 3, run(134, 3))
	p.isRun(200, 2, run(200, 2))
	p.isCount(117)
	p.are(api.OK, p.take(run(137, 2)))
	p.are(api.ErrSpace, p.take(run(136, 1)))
	p.are(api.ErrArg, p.take(run(255, 2)))
	p.are(api.OK, p.free(run(134, 1), false))
	p.isRun(134, 9, run(139, 9))
	p.are(api.ErrArg, p.free(run(134, 1), false))
	p.noRun(134, 0, api.ErrArg)
	p.holds()
}

// numbers is such that are none of a layout's blocks, and such that stand at its bounds.
func numbers(g api.Geometry) []int {
	return []int{
		-1, 0, 1, g.MapAt, g.DataAt - 1, g.DataAt, g.DataAt + 1, g.Blocks - 1, g.Blocks, g.Blocks + 1, g.MapLen * 1024,
		math.MaxInt, math.MaxInt - 1, math.MinInt, math.MinInt + 1, math.MaxInt / 2, math.MaxInt - g.Blocks,
	}
}

// wrong is what Run, Take and Free return of arguments that may not be, or of any, each asked once.
func wrong(x *trans.Trans, n, length int) (l []api.Errno, r api.Run) {
	r, e := alloc.Run(x, n, length)
	return append(l, e, alloc.Take(x, run(n, length)), alloc.Free(x, run(n, length), true), alloc.Free(x, run(n, length), false)), r
}

// R1, R3, R5: a Trans that is missing returns ErrNil ahead of all other errors, and zero values.
func TestMissing(t *testing.T) {
	g := small(t)
	p, dead := acting(t, g, fixed(g)), begun(t, g, fixed(g))
	p.isRun(0, 3, run(134, 3))
	p.are(api.OK, p.free(run(135, 1), true))
	dead.d.Arm(0)
	dead.begin()
	dead.isRun(0, 3, run(134, 3))
	dead.end()
	dead.are(api.ErrDead, dead.x.Commit())
	copied, copiedDead := *p.x, *dead.x
	for i, x := range []*trans.Trans{nil, {}, new(trans.Trans), &copied, &copiedDead} {
		if s, e := alloc.Map(x); s != "" || e != api.ErrNil {
			t.Error(i, "Map", s, e)
		}
		if n, e := alloc.Count(x); n != 0 || e != api.ErrNil {
			t.Error(i, "Count", n, e)
		}
		for _, n := range numbers(g) {
			for _, length := range append(numbers(g), 2) {
				l, r := wrong(x, n, length)
				for k, e := range l {
					if e != api.ErrNil || r != (api.Run{}) {
						t.Errorf("object %d, call %d, %d %d: %v, %v", i, k, n, length, e, r)
					}
				}
			}
		}
	}
	p.holds()
	p.isRun(0, 3, run(137, 3))
	p.next()
	p.holds()
}

// bitmaps is bitmaps of a layout, by their bits: none, all, each other one, the first and the last ones of each block, and those of a new device.
func bitmaps(g api.Geometry) [][]bool {
	l := [][]bool{fixed(g)}
	for _, on := range []func(b int) bool{
		func(int) bool { return false },
		func(int) bool { return true },
		func(b int) bool { return b%2 == 0 },
		func(b int) bool { return b%2 == 1 },
		func(b int) bool { return b%1024 == 0 },
		func(b int) bool { return b%1024 == 1023 },
		func(b int) bool { return b*b%7 == 1 },
		func(b int) bool { return b < g.Blocks },
		func(b int) bool { return b >= g.Blocks },
		func(b int) bool { return b == g.Blocks },
		func(b int) bool { return b == g.Blocks-1 },
	} {
		var bits []bool
		for b := range g.MapLen * 1024 {
			bits = append(bits, on(b))
		}
		l = append(l, bits)
	}
	return l
}

// layouts is layouts whose bitmaps have one block and more, and end with the device and behind it, within a byte and at its end.
func layouts(t *testing.T) []api.Geometry {
	t.Helper()
	return []api.Geometry{
		small(t), narrow(t), wide(t), whole(t), layout(t, 300, 128, 8), layout(t, 257, 128, 8), layout(t, 1023, 128, 8),
		layout(t, 1024, 128, 8), layout(t, 1025, 128, 8), layout(t, 2048, 300, 64), layout(t, 3000, 512, 512),
	}
}

// P17.1: Map is the bitmap's bytes as the act in progress, the transaction, the last commit or the device has them; Count is its 0 bits among those of the device's blocks.
func TestMapCount(t *testing.T) {
	for _, g := range layouts(t) {
		p := begun(t, g, fixed(g))
		for _, bits := range bitmaps(g) {
			p.begin()
			before := p.w.bits
			p.w.bits = bits
			for i := range g.MapLen {
				p.are(api.OK, p.x.Write(g.MapAt+i, p.w.image()[i*128:i*128+128]))
				p.w.metaNow[g.MapAt+i] = true
			}
			p.holds()
			p.drop()
			p.w.bits = before
			p.holds()

			q := begun(t, g, bits)
			zeros := 0
			for _, used := range bits[:g.Blocks] {
				if !used {
					zeros++
				}
			}
			q.isCount(zeros)
			q.same(func() {})
			q.begin()
			q.same(func() {})
		}
	}
}

// P17.1: a block's bit is that of layer 3, the lowest of a byte first.
func TestMapBytes(t *testing.T) {
	p := acting(t, small(t), fixed(small(t)))
	p.are(api.OK, p.take(run(137, 2)), p.take(run(160, 1)), p.take(run(255, 1)))
	want := strings.Repeat("\xff", 16) + "\x3f\x06\x00\x00\x01" + strings.Repeat("\x00", 10) + "\x80" + strings.Repeat("\x00", 96)
	if s, e := alloc.Map(p.x); s != want || e != api.OK {
		t.Errorf("%q, %v", s, e)
	}
}

// P17.1: a bitmap that is on the device only is read from there.
func TestMapOfDevice(t *testing.T) {
	g := wide(t)
	p := begun(t, g, fixed(g))
	var device strings.Builder
	for i := range g.MapLen {
		s := strings.Repeat(string(rune('0'+i)), 128)
		p.are(api.OK, p.d.Write(g.MapAt+i, s))
		device.WriteString(s)
	}
	x, e := trans.New(p.d, g)
	if e != api.OK {
		t.Fatal(e)
	}
	p.x, p.w = x, toldOf(g, bitsOf(device.String()))
	p.holds()
}

// P17.1, P17.4: blocks that wait are counted, and their bits are 0.
func TestCountWaiting(t *testing.T) {
	p := acting(t, wide(t), fixed(wide(t)))
	n := p.w.count()
	p.isRun(1000, 50, run(1000, 50))
	p.isCount(n - 50)
	p.next()
	p.isCount(n - 50)
	p.are(api.OK, p.free(run(1010, 30), false))
	p.isCount(n - 20)
	p.holds()
	p.end()
	p.isCount(n - 20)
	p.holds()
	p.commit()
	p.isCount(n - 20)
	p.holds()
}

// P17.2: most is at least 1; ErrArg comes ahead of ErrSpace.
func TestRunMost(t *testing.T) {
	for _, g := range []api.Geometry{small(t), wide(t)} {
		full := slices.Repeat([]bool{true}, g.MapLen*1024)
		for _, most := range []int{0, -1, -2, math.MinInt, math.MinInt + 1} {
			for _, goal := range numbers(g) {
				for _, bits := range [][]bool{fixed(g), full} {
					p := acting(t, g, bits)
					p.same(func() { p.noRun(goal, most, api.ErrArg) })
				}
			}
		}
		n := g.Blocks - g.DataAt
		for most, want := range map[int]int{1: 1, 2: 2, n - 1: n - 1, n: n, n + 1: n, 4096: n, math.MaxInt - 1: n, math.MaxInt: n} {
			p := acting(t, g, fixed(g))
			p.isRun(0, most, run(g.DataAt, want))
			p.holds()
		}
	}
}

// P17.2: a goal before DataAt counts as DataAt, and one beyond the device as Blocks.
func TestRunGoal(t *testing.T) {
	for _, g := range []api.Geometry{small(t), narrow(t), wide(t)} {
		zeros := make([]bool, g.MapLen*1024)
		for _, bits := range [][]bool{fixed(g), zeros} { // the blocks ahead of DataAt are never given out, whatever their bits are
			last, first := run(g.Blocks-1, 1), run(g.DataAt, 5)
			for goal, want := range map[int]api.Run{
				-1: first, 0: first, 1: first, g.MapAt: first, g.DataAt - 1: first, g.DataAt: first, g.DataAt + 1: run(g.DataAt+1, 5),
				g.Blocks - 6: run(g.Blocks-6, 5), g.Blocks - 5: run(g.Blocks-5, 5), g.Blocks - 4: run(g.Blocks-4, 4), g.Blocks - 1: last,
				g.Blocks: first, g.Blocks + 1: first, g.MapLen * 1024: first, 8 * g.Blocks: first,
				math.MaxInt: first, math.MaxInt - 1: first, math.MinInt: first, math.MinInt + 1: first,
			} {
				p := acting(t, g, bits)
				p.isRun(goal, 5, want)
				p.holds()
			}
		}
	}
}

// P17.2: the first open block not before the goal, be it the goal or far behind it, or else the first of all.
func TestRunStart(t *testing.T) {
	g := wide(t)
	for _, c := range []struct {
		opens      []api.Run
		goal, most int
		want       api.Run
	}{
		{[]api.Run{run(200, 5)}, 0, 9, run(200, 5)},
		{[]api.Run{run(200, 5)}, 200, 9, run(200, 5)},
		{[]api.Run{run(200, 5)}, 202, 9, run(202, 3)},
		{[]api.Run{run(200, 5)}, 204, 9, run(204, 1)},
		{[]api.Run{run(200, 5)}, 205, 9, run(200, 5)},
		{[]api.Run{run(200, 5)}, 1300, 9, run(200, 5)},
		{[]api.Run{run(200, 5), run(206, 3)}, 205, 9, run(206, 3)},
		{[]api.Run{run(200, 5), run(1299, 2)}, 205, 1, run(1299, 1)},
		{[]api.Run{run(200, 5), run(1299, 2)}, 205, 9, run(1299, 2)},
		{[]api.Run{run(200, 5), run(1300, 1)}, 205, 9, run(1300, 1)},
		{[]api.Run{run(200, 5), run(300, 9)}, 310, 2, run(200, 2)},
		{[]api.Run{run(135, 1)}, 136, 2, run(135, 1)},
		{[]api.Run{run(135, 1), run(137, 1)}, 136, 2, run(137, 1)},
		{[]api.Run{run(1020, 10)}, 900, 4, run(1020, 4)},
		{[]api.Run{run(1020, 10)}, 900, 5, run(1020, 5)},
		{[]api.Run{run(1020, 10)}, 900, 99, run(1020, 10)},
		{[]api.Run{run(1020, 10)}, 1023, 2, run(1023, 2)},
		{[]api.Run{run(1020, 10)}, 1024, 2, run(1024, 2)},
		{[]api.Run{run(1020, 10)}, 1030, 3, run(1020, 3)},
		{[]api.Run{run(1024, 1)}, 1023, 3, run(1024, 1)},
		{[]api.Run{run(1023, 1)}, 1024, 3, run(1023, 1)},
	} {
		// The blocks that are not open are used, or wait.
		for _, kind := range []string{"used", "waiting"} {
			bits := slices.Repeat([]bool{true}, g.MapLen*1024)
			p := acting(t, g, bits)
			for _, r := range c.opens {
				p.are(api.OK, p.free(r, false))
			}
			p.next()
			if kind == "waiting" {
				for b := g.DataAt; b < g.Blocks; b++ {
					if p.w.bits[b] {
						p.are(api.OK, p.free(run(b, 1), b%2 == 0))
					}
				}
			}
			p.isRun(c.goal, c.most, c.want)
			p.holds()
		}
	}
}

// P17.2: a run ends at a block that is used, at one that waits, at the last block, and at most; those that cross the bitmap's blocks go on.
func TestRunEnd(t *testing.T) {
	g := whole(t)
	p := acting(t, g, fixed(g))
	p.are(api.OK, p.take(run(600, 1)), p.take(run(610, 1)), p.take(run(2048, 1)))
	p.next()
	p.are(api.OK, p.free(run(610, 1), true))
	p.isRun(595, 50, run(595, 5))
	p.isRun(601, 50, run(601, 9))
	p.isRun(610, 50, run(611, 50))
	p.isRun(1000, 1048, run(1000, 1048))
	p.isRun(661, 50000, run(661, 339))
	p.isRun(1000, 1025, run(2049, 1025))
	p.isRun(4090, 50, run(4090, 6))
	p.holds()
	p.isSize(4, 1, 1)
	p.next()
	p.isRun(4090, 50, run(521, 50))
	p.isRun(521, 50, run(571, 24))
	p.isRun(521, 50, run(610, 1))
	p.isRun(4000, 50, run(4000, 50))
	p.isRun(1, 5000, run(3074, 926))
	p.holds()
	p.isRun(1, 5000, run(4050, 40))
	p.noRun(1, 5000, api.ErrSpace)
	p.holds()
}

// P17.2: ErrSpace if no block is open: all are used; only those ahead of the data, or behind the device, have the bit 0; or the only ones whose bits are 0 wait.
func TestRunNoSpace(t *testing.T) {
	for _, g := range layouts(t) {
		used := slices.Repeat([]bool{true}, g.MapLen*1024)
		around := slices.Clone(used)
		for b := range around {
			around[b] = g.DataAt <= b && b < g.Blocks
		}
		for _, bits := range [][]bool{used, around} {
			p := acting(t, g, bits)
			refused := func() {
				t.Helper()
				p.same(func() {
					for _, goal := range numbers(g) {
						for _, most := range []int{1, 2, 5000, math.MaxInt} {
							p.noRun(goal, most, api.ErrSpace)
						}
						p.noRun(goal, 0, api.ErrArg)
					}
				})
			}
			refused()
			p.are(api.OK, p.free(run(g.DataAt, 2), false), p.free(run(g.Blocks-1, 1), true))
			refused()
			p.end()
			p.begin()
			refused()
			p.next()
			p.isRun(g.Blocks-1, 9, run(g.Blocks-1, 1))
			p.isRun(g.Blocks-1, 9, run(g.DataAt, 2))
			refused()
		}
	}
}

// P17.2, P17.5: all open blocks can be given out, one by one and many at a time, none of them twice, and no more.
func TestRunAll(t *testing.T) {
	for _, g := range []api.Geometry{small(t), narrow(t), wide(t), whole(t)} {
		for _, most := range []int{1, 2, 7, 8, 100, 1024, 1500, math.MaxInt} {
			for _, step := range []int{0, 1, 37} {
				if g.Blocks > 2000 && most < 7 && step > 0 {
					continue
				}
				p := acting(t, g, fixed(g))
				n := g.Blocks - g.DataAt
				given := make([]bool, g.Blocks)
				for goal := g.DataAt; n > 0; goal += step {
					r, e := alloc.Run(p.x, g.DataAt+goal%(g.Blocks-g.DataAt), most)
					if e != api.OK || r.Len < 1 || r.Len > most || r.Start < g.DataAt || r.Start+r.Len > g.Blocks {
						t.Fatal(r, e)
					}
					for b := r.Start; b < r.Start+r.Len; b++ {
						if given[b] {
							t.Fatal("twice", b)
						}
						given[b], p.w.bits[b], p.w.metaNow[g.MapAt+b/1024] = true, true, true
					}
					n -= r.Len
					p.isCount(n)
				}
				p.holds()
				p.noRun(0, most, api.ErrSpace)
				p.are(api.ErrSpace, p.take(run(g.DataAt, 1)), p.take(run(g.Blocks-1, 1)))
				p.next()
				p.noRun(0, most, api.ErrSpace)
				p.holds()
			}
		}
	}
}

// P17.3: all blocks can be taken, by runs of any length, and no more; also in the order in which they are asked for.
func TestTakeAll(t *testing.T) {
	for _, g := range []api.Geometry{small(t), wide(t), whole(t)} {
		for _, length := range []int{1, 5, 1024, g.Blocks - g.DataAt} {
			p := acting(t, g, fixed(g))
			for end := g.Blocks; end > g.DataAt; end -= length {
				start := max(end-length, g.DataAt)
				p.are(api.OK, alloc.Take(p.x, run(start, end-start)))
				p.are(api.OK, p.w.sets(run(start, end-start), true))
			}
			p.holds()
			p.isCount(0)
			p.noRun(0, 1, api.ErrSpace)
			p.are(api.ErrSpace, p.take(run(g.DataAt, 1)))
			p.next()
			p.holds()
		}
	}
}

// noRuns is runs that are none of at least one allocatable block.
func noRuns(g api.Geometry) []api.Run {
	var l []api.Run
	for _, start := range numbers(g) {
		for _, length := range []int{0, -1, -2, math.MinInt, math.MinInt + 1, math.MaxInt, math.MaxInt - 1, g.Blocks, 4096} {
			l = append(l, run(start, length))
		}
		if start < g.DataAt || start >= g.Blocks {
			for _, length := range []int{1, 2, g.DataAt, math.MaxInt / 2, 1 - start, g.DataAt - start, g.Blocks - start} {
				l = append(l, run(start, length))
			}
		}
	}
	for _, start := range []int{g.DataAt, g.DataAt + 1, g.Blocks - 2, g.Blocks - 1} {
		l = append(l, run(start, g.Blocks-start+1), run(start, g.MapLen*1024-start+1), run(start, math.MaxInt-start), run(start, math.MaxInt-start+1))
	}
	return l
}

// P17.3, P17.4, R1: what is no run of allocatable blocks is ErrArg, whatever the bits are; the runs that reach the bounds are none of these.
func TestRuns(t *testing.T) {
	for _, g := range []api.Geometry{small(t), narrow(t), wide(t), whole(t)} {
		none, all := make([]bool, g.MapLen*1024), slices.Repeat([]bool{true}, g.MapLen*1024)
		for _, bits := range [][]bool{none, all, fixed(g)} {
			p := acting(t, g, bits)
			p.same(func() {
				for _, r := range noRuns(g) {
					p.are(api.ErrArg, p.take(r), p.free(r, true), p.free(r, false))
				}
			})
		}
		for _, r := range []api.Run{run(g.DataAt, 1), run(g.Blocks-1, 1), run(g.Blocks-2, 2), run(g.DataAt, g.Blocks-g.DataAt), run(g.DataAt+1, g.Blocks-g.DataAt-1)} {
			p := acting(t, g, none)
			p.are(api.OK, p.take(r))
			p.holds()
			p.are(api.OK, p.free(r, false))
			p.holds()
			q := acting(t, g, all)
			q.are(api.OK, q.free(r, true))
			q.holds()
		}
	}
}

// P17.3: ErrSpace if one of the blocks, the first, a middle or the last one, is used or waits; the bits stay.
func TestTakeNoSpace(t *testing.T) {
	for _, g := range []api.Geometry{small(t), wide(t)} {
		for _, r := range []api.Run{run(g.Blocks-9, 9), run(g.DataAt, 5), run(g.DataAt+7, 1), run(min(g.Blocks-20, 1019), 11)} {
			for b := r.Start; b < r.Start+r.Len; b++ {
				p := begun(t, g, fixed(g))
				refused := func() {
					t.Helper()
					p.begin()
					p.same(func() { p.are(api.ErrSpace, p.take(r)) })
					p.drop()
				}
				p.begin()
				p.are(api.OK, p.take(run(b, 1)))
				p.same(func() { p.are(api.ErrSpace, p.take(r)) })
				p.end()
				refused()
				p.commit()
				refused()
				p.begin()
				p.are(api.OK, p.free(run(b, 1), b%2 == 0))
				p.same(func() { p.are(api.ErrSpace, p.take(r)) })
				p.end()
				refused()
				p.commit()
				p.begin()
				p.are(api.OK, p.take(r))
				p.holds()
			}
		}
	}
}

// P17.4: ErrArg if the bit of one of the blocks, the first, a middle or the last one, is 0, or was set to 0 since; nothing waits then.
func TestFreeUnused(t *testing.T) {
	for _, g := range []api.Geometry{small(t), wide(t)} {
		for _, r := range []api.Run{run(g.Blocks-9, 9), run(g.DataAt, 5), run(g.DataAt+7, 1), run(min(g.Blocks-20, 1019), 11)} {
			for b := r.Start; b < r.Start+r.Len; b++ {
				for _, meta := range []bool{false, true} {
					bits := slices.Repeat([]bool{true}, g.MapLen*1024)
					bits[b] = false
					p := acting(t, g, bits)
					refused := func() {
						t.Helper()
						p.same(func() { p.are(api.ErrArg, p.free(r, meta)) })
					}
					refused()
					p.are(api.OK, p.take(run(b, 1)), p.free(run(b, 1), meta))
					refused()
					p.end()
					p.begin()
					refused()
					p.next()
					refused()
					p.are(api.OK, p.take(run(b, 1)), p.free(r, meta))
					p.holds()
				}
			}
		}
	}
}

// P17.4, P17.5: what was allocated in the same act, in an earlier one and in an earlier transaction is freed, waits, and is open behind the next commit only; meta is what trans.Free takes it for.
func TestFree(t *testing.T) {
	between := map[string]func(p *pair){
		"same act":            func(p *pair) {},
		"earlier act":         func(p *pair) { p.end(); p.begin() },
		"earlier transaction": func(p *pair) { p.next() },
	}
	for name, then := range between {
		for _, meta := range []bool{false, true} {
			for _, written := range []bool{false, true} {
				p := acting(t, wide(t), fixed(wide(t)))
				n := p.w.count()
				p.isRun(1020, 8, run(1020, 8))
				if written {
					p.write(1021)
					p.write(1025)
				}
				then(p)
				p.are(api.OK, p.free(run(1021, 5), meta))
				p.holds()
				revoked := 0
				if meta {
					revoked = 5
				} else if written && name == "earlier act" {
					revoked = 2
				}
				p.isSize(2, 5, revoked)
				p.isCount(n - 3)
				for range 2 {
					p.isRun(1021, 9, run(1028, 9))
					p.are(api.ErrSpace, p.take(run(1021, 1)), p.take(run(1025, 1)), p.take(run(1025, 9)))
					p.are(api.ErrArg, p.free(run(1021, 1), meta), p.free(run(1025, 2), meta))
					p.are(api.OK, p.free(run(1028, 9), meta), p.take(run(1037, 9)))
					p.end()
					p.holds()
					p.begin()
					p.drop()
					p.commit()
					p.holds()
					p.isSize(0, 0, 0)
					p.begin()
					p.isRun(1021, 9, run(1021, 5))
					p.are(api.OK, p.take(run(1028, 9)), p.free(run(1028, 18), meta))
					p.next()
					p.are(api.OK, p.free(run(1021, 5), meta))
				}
			}
		}
	}
}

// P17.4: a block that was let go past this package, though its bit is 1, is freed all the same: its bit is 0 then, and it waits.
func TestFreeWaiting(t *testing.T) {
	p := acting(t, wide(t), fixed(wide(t)))
	p.isRun(1020, 8, run(1020, 8))
	p.are(api.OK, p.x.Free(1023, true))
	p.w.waits[1023], p.w.revoked[1023] = true, true
	p.holds()
	p.are(api.OK, alloc.Free(p.x, run(1021, 5), false))
	p.are(api.OK, p.w.free(run(1021, 5), false))
	p.w.revoked[1023] = true
	p.holds()
	p.next()
	p.isRun(1020, 8, run(1021, 5))
}

// P17.5: what was done in an act that is dropped was not done: what it allocated is open, and what it freed is used.
func TestDropped(t *testing.T) {
	p := acting(t, wide(t), fixed(wide(t)))
	p.isRun(0, 4, run(135, 4))
	p.end()
	p.begin()
	p.isRun(1020, 8, run(1020, 8))
	p.are(api.OK, p.free(run(136, 2), true), p.free(run(1023, 2), false), p.take(run(1300, 1)))
	p.isSize(2, 4, 2)
	p.holds()
	p.drop()
	p.holds()
	p.isSize(1, 0, 0)
	p.begin()
	p.are(api.ErrSpace, p.take(run(136, 2)))
	p.isRun(136, 2, run(139, 2))
	p.isRun(1020, 8, run(1020, 8))
	p.are(api.OK, p.free(run(136, 2), false), p.take(run(1300, 1)))
	p.next()
	p.holds()
	p.isRun(136, 9, run(136, 2))
	p.are(api.OK, p.free(run(1020, 8), true))
	p.drop()
	p.holds()
	p.begin()
	p.are(api.OK, p.free(run(1020, 8), true))
	p.next()
	p.isRun(1020, 8, run(1020, 8))
	p.holds()
}

// Run, Take and Free where no act is in progress: the errors that the chapter names, then ErrArg, and nothing is changed.
func TestNoAct(t *testing.T) {
	for _, g := range []api.Geometry{small(t), wide(t)} {
		p := begun(t, g, fixed(g))
		refused := func() {
			t.Helper()
			p.same(func() {
				for _, n := range numbers(g) {
					p.noRun(n, 1, api.ErrArg)
					p.noRun(n, math.MaxInt, api.ErrArg)
					p.noRun(n, 0, api.ErrArg)
				}
				for _, r := range noRuns(g) {
					p.are(api.ErrArg, p.take(r), p.free(r, true), p.free(r, false))
				}
				p.are(api.ErrArg, p.take(run(g.DataAt+9, 5)), p.free(run(g.DataAt+9, 5), true))
				p.are(api.ErrSpace, p.take(run(g.DataAt, 1)), p.take(run(g.DataAt+2, 2)))
				p.are(api.ErrArg, p.free(run(g.DataAt, 3), true), p.free(run(g.DataAt, 3), false), p.free(run(g.DataAt, 4), false))
			})
		}
		p.begin()
		p.are(api.OK, p.take(run(g.DataAt, 3)))
		p.end()
		refused()
		p.commit()
		refused()
		p.begin()
		p.are(api.OK, p.free(run(g.DataAt, 1), true))
		p.drop()
		refused()

		full := begun(t, g, slices.Repeat([]bool{true}, g.MapLen*1024))
		full.same(func() {
			full.noRun(0, 1, api.ErrSpace)
			full.noRun(0, 0, api.ErrArg)
			full.are(api.ErrSpace, full.take(run(g.DataAt, 1)))
			full.are(api.ErrArg, full.free(run(g.DataAt, 1), true))
		})
		full.begin()
		full.are(api.OK, full.free(run(g.DataAt, g.Blocks-g.DataAt), false))
		full.end()
		full.same(func() { // blocks wait, and are not open
			full.noRun(0, 1, api.ErrSpace)
			full.are(api.ErrSpace, full.take(run(g.DataAt, 1)))
			full.are(api.ErrArg, full.free(run(g.DataAt, 1), true))
		})
	}
}

// Only the blocks of the bitmap that change are written, and by an error none.
func TestWritten(t *testing.T) {
	g := whole(t)
	for _, c := range []struct {
		r     api.Run
		wrote int
	}{
		{run(521, 1), 1}, {run(1023, 1), 1}, {run(1024, 1), 1}, {run(1023, 2), 2}, {run(1000, 24), 1}, {run(1000, 25), 2},
		{run(1024, 1024), 1}, {run(1023, 1024), 2}, {run(1023, 1026), 3}, {run(2048, 1025), 2}, {run(521, 3575), 4}, {run(4095, 1), 1},
	} {
		for _, do := range []func(p *pair) api.Errno{
			func(p *pair) api.Errno { return p.take(c.r) },
			func(p *pair) api.Errno {
				_, e := p.run(c.r.Start, c.r.Len)
				return e
			},
		} {
			p := acting(t, g, fixed(g))
			p.are(api.OK, do(p))
			p.isSize(c.wrote, 0, 0)
			p.holds()
			p.next()
			p.are(api.OK, p.free(c.r, false))
			p.isSize(c.wrote, c.r.Len, 0)
			p.holds()
			p.end()
			p.are(api.OK, p.x.Commit())
		}
	}
	p := acting(t, g, fixed(g))
	p.are(api.ErrArg, p.take(run(4095, 2)), p.free(run(1023, 2), true))
	p.noRun(0, 0, api.ErrArg)
	p.isSize(0, 0, 0)
	p.are(api.OK, p.take(run(2048, 1)))
	p.are(api.ErrSpace, p.take(run(1023, 1026)))
	p.are(api.ErrArg, p.free(run(2048, 1024), true))
	p.isSize(1, 0, 0)
	p.holds()
}

// A block of the bitmap that cannot be written is trans.Write's error, with a zero run.
func TestUnwritable(t *testing.T) {
	g := wide(t)
	for i := range g.MapLen {
		at := []int{g.DataAt, 1024}[i]
		p := acting(t, g, fixed(g))
		p.are(api.OK, p.take(run(at+5, 1)), p.x.Free(g.MapAt+i, true))
		if r, e := alloc.Run(p.x, at, 1); r != (api.Run{}) || e != api.ErrArg {
			t.Error(r, e)
		}
		p.are(api.ErrArg, alloc.Take(p.x, run(at, 1)))
		_, waiting, _ := p.x.Size()
		p.are(api.ErrArg, alloc.Free(p.x, run(at+5, 1), true))
		if _, now, _ := p.x.Size(); now != waiting || p.x.Waits(at+5) {
			t.Error(now, waiting)
		}
	}
}

// R2: two Transes over two devices are independent.
func TestIndependent(t *testing.T) {
	g := small(t)
	p, q := acting(t, g, fixed(g)), acting(t, g, fixed(g))
	p.isRun(0, 5, run(134, 5))
	q.holds()
	q.isRun(0, 2, run(134, 2))
	p.are(api.OK, p.free(run(134, 5), true))
	q.holds()
	q.isRun(0, 2, run(136, 2))
	p.next()
	q.next()
	p.holds()
	q.holds()
}
