package trans_test

import (
	"math"
	"math/rand"
	"slices"
	"testing"

	"glissade/api"
	"glissade/device"
	"glissade/journal"
)

// isDead holds that a Trans whose device failed returns that error in each call, whatever else would be one, does no acts, and has what it had.
func (p *pair) isDead() {
	p.t.Helper()
	p.d.Arm(-1) // the error stays, though the device would take acts again
	acts := p.d.Acts()
	same := func() {
		p.t.Helper()
		p.sameSize("dead")
		for _, b := range []int{-1, 0, 1, 140, 141, 142, 143, 256, math.MaxInt} {
			p.sameWaits(b, "dead")
		}
		if p.x.Geometry() != p.g {
			p.t.Fatal(p.x.Geometry())
		}
	}
	failed := func() {
		p.t.Helper()
		for _, b := range []int{-1, 0, 1, 128, 140, 141, p.g.Blocks - 1, p.g.Blocks, math.MinInt} {
			for _, data := range []string{"", full("z")} {
				for i, e := range calls(p.x, b, data) {
					if e != api.ErrDead {
						p.t.Fatalf("block %d, call %d: %v", b, i, e)
					}
				}
			}
			if s, _ := p.x.Read(b); s != "" {
				p.t.Fatal(b, s)
			}
			if s, _ := p.x.Get(b); s != "" {
				p.t.Fatal(b, s)
			}
		}
	}
	same()
	failed()
	same()
	p.drop()
	failed()
	same()
	if p.d.Acts() != acts {
		p.t.Fatal(p.d.Acts(), acts)
	}
}

// interrupted makes a Trans ready, lets the device fail at each act of a commit in turn (or, where steps are greater than 1, at some of them), holds what each crash leaves, and calls with it, if there is something to be called.
func interrupted(t *testing.T, from *rand.Rand, steps int, ready func() *pair, call func(p *pair, state []cell, image string)) {
	t.Helper()
	for n := 0; ; n += 1 + from.Intn(steps) {
		p := ready()
		p.d.Arm(n)
		e := p.x.Commit()
		if e == api.OK {
			p.d.Arm(-1)
			p.same(p.w.commit(), api.OK)
			p.holds()
			p.isSure(from)
			return
		}
		p.same(e, api.ErrDead, "Commit, armed to", n)
		leavings(from, p.d, func(image string) {
			state, after := p.survives(image, true)
			if from.Intn(4) == 0 {
				acts := replayActs(t, p.g, image)
				p.sameThough(replayedThough(t, from, p.g, image, from.Intn(acts+1)), state, after)
			}
			if call != nil {
				call(p, state, after)
			}
		})
		p.isDead()
	}
}

// sameThough holds that a Replay that was interrupted and repeated came to the same as another.
func (p *pair) sameThough(image string, state []cell, want string) {
	p.t.Helper()
	for b, c := range state {
		if p.w.isBlock(b) && !c.vague && p.w.cells[b].use != mixed && image[b*128:b*128+128] != want[b*128:b*128+128] {
			p.t.Fatal("a Replay that was interrupted comes to something else in block", b)
		}
	}
}

// scene is what is done ahead of a commit that is interrupted.
func scene(t *testing.T, g api.Geometry, use func(b int) int, do func(p *pair)) func() *pair {
	image := formatted(t, g).Kept()
	return func() *pair {
		p := pairOf(t, opened(t, image), g, use)
		do(p)
		return p
	}
}

// P16.6: the device fails at each act of a commit of this and that; what is left is the last commit's, or this one's, and never something of both.
func TestCrashInCommit(t *testing.T) {
	from := rand.New(rand.NewSource(166))
	g := small(t)
	first := func(p *pair) {
		p.are(api.OK, p.begin(), p.write(140, full("a")), p.write(142, full("b")), p.write(144, full("c")))
		p.are(api.OK, p.put(141, full("d")), p.put(143, full("e")), p.put(145, full("f")), p.end(), p.commit())
	}
	for _, then := range []func(p *pair){
		func(p *pair) { p.are(api.OK, p.write(140, full("m")), p.write(142, full("n"))) },
		func(p *pair) { p.are(api.OK, p.put(141, full("m")), p.put(143, full("n"))) },
		func(p *pair) { p.are(api.OK, p.free(140, true), p.free(141, false)) },
		func(p *pair) {},
		func(p *pair) {
			p.are(api.OK, p.write(140, full("m")), p.write(146, full("n")), p.put(141, full("o")), p.put(147, full("p")))
			p.are(api.OK, p.free(142, true), p.free(143, false), p.free(138, true), p.end(), p.begin(), p.free(146, false))
		},
		func(p *pair) {
			p.are(api.OK, p.write(0, "GLJw"+full("m")[4:]), p.write(140, "GLJw"+full("n")[4:]), p.put(141, "GLJw"+full("o")[4:]), p.write(142, full("b")))
		},
		func(p *pair) { p.writes(func(b int, s string) api.Errno { return p.write(b&^1, s) }, 3, 150, 100) },
	} {
		ready := scene(t, g, inTurns, func(p *pair) {
			first(p)
			p.are(api.OK, p.begin())
			then(p)
			p.are(api.OK, p.end())
		})
		interrupted(t, from, 1, ready, func(p *pair, state []cell, image string) {
			if from.Intn(5) == 0 {
				p.anew(state, image).holds()
			}
		})
	}
}

// P16.6: a Replay that is interrupted at each act in turn, and repeated, comes to the same: behind commits that were over, and behind one that was not.
func TestCrashInReplay(t *testing.T) {
	from := rand.New(rand.NewSource(1667))
	g := small(t)
	ready := scene(t, g, inTurns, func(p *pair) {
		for n := range 3 {
			p.are(api.OK, p.begin())
			for i := range 4 {
				p.are(api.OK, p.write(140+2*(n+i), some(n*10+i)), p.put(141+2*(n+i), some(n*10+i+5)))
			}
			p.are(api.OK, p.free(180+2*n, true), p.free(130+2*n, false), p.end())
			if n < 2 {
				p.are(api.OK, p.commit())
			}
		}
	})
	for _, armed := range []int{0, 7, 12, 13, -1} {
		p := ready()
		p.d.Arm(armed)
		over := p.x.Commit() == api.OK
		image := p.d.Crash(slices.Repeat([]bool{true}, g.Blocks))
		state, after := p.survives(image, true)
		if over {
			p.are(api.OK, p.w.commit())
			state, after = p.survives(image, false)
		}
		for n := range replayActs(t, g, image) + 1 {
			d := opened(t, image)
			d.Arm(n)
			journal.Replay(d, g)
			leavings(from, d, func(image string) {
				p.sameThough(replayed(t, g, image), state, after)
				p.sameThough(replayedThough(t, from, g, image, n), state, after)
			})
		}
	}
}

// P16.6: a commit that has to make room in the log first.
func TestCrashInCheckpoint(t *testing.T) {
	from := rand.New(rand.NewSource(1661))
	for _, more := range []int{30, 55, 60} {
		ready := scene(t, small(t), inTurns, func(p *pair) {
			for n := range 5 {
				p.are(api.OK, p.begin())
				for i := range 20 {
					p.are(api.OK, p.write(130+2*(i+5*n), some(n*1000+i)), p.put(131+2*(i+5*n), some(n*1000+i+500)))
				}
				p.are(api.OK, p.end(), p.commit())
			}
			p.are(api.OK, p.begin(), p.free(240, true), p.free(134, true), p.free(241, false), p.end(), p.commit())
			p.are(api.OK, p.begin(), p.put(240, full("x")), p.write(241, full("y")), p.end(), p.commit())
			p.are(api.OK, p.begin(), p.free(136, true), p.free(242, true), p.free(137, false))
			for i := range more {
				p.are(api.OK, p.write(138+2*(i%50), some(9000+i)))
			}
			p.are(api.OK, p.put(240, full("z")), p.end())
		})
		interrupted(t, from, 1, ready, nil)
	}
}

// P16.6: a commit of so much metadata that other buffers must give way for it.
func TestCrashInGreatCommit(t *testing.T) {
	from := rand.New(rand.NewSource(1662))
	ready := scene(t, great(t), metaOnly, func(p *pair) {
		for n := range 3 {
			p.are(api.OK, p.begin())
			p.writes(p.write, n, 520+n*200, 230)
			p.are(api.OK, p.end())
			if n < 2 {
				p.are(api.OK, p.commit())
			}
		}
	})
	interrupted(t, from, 30, ready, nil)
}

// P16.6: the device fails while blocks are read, of which more were written than the cache has buffers.
func TestCrashInReads(t *testing.T) {
	from := rand.New(rand.NewSource(1663))
	ready := scene(t, great(t), metaOnly, func(p *pair) {
		for n := range 2 {
			p.are(api.OK, p.begin())
			p.writes(p.write, n, 520+n*200, 230)
			p.are(api.OK, p.end(), p.commit())
		}
		p.are(api.OK, p.begin(), p.write(700, full("a")), p.free(701, true), p.end(), p.begin(), p.write(702, full("b")), p.free(703, true))
	})
	for n := 0; ; n += 1 + from.Intn(1+n/2) {
		p := ready()
		p.d.Arm(n)
		e := api.OK
		for b := p.g.Blocks - 1; b > p.g.Log && e == api.OK; b-- {
			var s string
			if s, e = p.x.Read(b); e != api.OK && s != "" {
				t.Fatal(b, s)
			}
		}
		if e == api.OK {
			p.d.Arm(-1)
			p.holds()
			p.isSure(from)
			return
		}
		p.same(e, api.ErrDead, "Read")
		leavings(from, p.d, func(image string) { p.survives(image, false) })
		p.isDead()
	}
}

// P16.6: the device is dead, and acts begin, write, free and are dropped; what returns an error returns it from then on.
func TestDeadDevice(t *testing.T) {
	p := begun(t, small(t), inTurns)
	p.are(api.OK, p.begin(), p.write(140, full("a")), p.put(141, full("b")), p.free(142, true), p.end(), p.begin(), p.write(140, full("c")), p.end())
	p.d.Arm(0)
	p.are(api.ErrDead, p.x.Commit())
	p.isSize(1, 1, 1)
	p.isDead()
	p.isSize(1, 1, 1)
	d := opened(t, p.d.Kept())
	if l, e := journal.Replay(d, p.g); len(l) != 0 || e != api.OK {
		t.Error(l, e)
	}
}

// P16.6: a crash between the calls, in an act and outside of one, leaves the last commit's state, whatever the acts have written since.
func TestCrashBetween(t *testing.T) {
	from := rand.New(rand.NewSource(1664))
	p := begun(t, small(t), inTurns)
	for n := range 30 {
		p.are(api.OK, p.begin())
		p.isSure(from)
		for i := range 10 {
			b := 130 + 2*from.Intn(60)
			p.are(api.OK, p.write(b, some(n*100+i)), p.put(b+1, some(n*100+i+50)))
		}
		p.isSure(from)
		p.are(api.OK, p.free(252, true), p.free(253, false))
		p.isSure(from)
		if n%3 == 0 {
			p.drop()
		} else {
			p.are(api.OK, p.end())
		}
		p.isSure(from)
		p.are(api.OK, p.commit())
		p.isSure(from)
	}
}

// life is a Trans of which much is asked by chance, and whose device crashes now and then.
type life struct {
	*pair
	from *rand.Rand
	n    int
}

// block is one of a few, so that the same ones come often.
func (l *life) block() int {
	switch l.from.Intn(12) {
	case 0:
		return 0
	case 1:
		return l.from.Intn(l.g.Blocks+2) - 1
	}
	return l.g.Log + 1 + l.from.Intn(40)
}

func (l *life) data() string {
	l.n++
	switch l.from.Intn(20) {
	case 0:
		return "GLJw" + some(l.n)[4:]
	case 1:
		return some(l.n)[:127]
	case 2:
		s, _ := l.d.Read(l.g.LogAt + l.from.Intn(l.g.Log))
		return s
	}
	return some(l.n)
}

// change writes or frees a block, as that to which it is used.
func (l *life) change() {
	l.t.Helper()
	b := l.block()
	use := asMeta + l.from.Intn(2)
	if l.w.isBlock(b) && l.w.cells[b].use != 0 {
		use = l.w.cells[b].use
	}
	switch l.from.Intn(5) {
	case 0:
		l.free(b, use == asMeta)
	default:
		if use == asMeta {
			l.write(b, l.data())
		} else {
			l.put(b, l.data())
		}
	}
}

// many writes so much that the log goes round soon.
func (l *life) many() {
	l.t.Helper()
	for b := l.g.Log + 41 + l.from.Intn(2); b < l.g.Blocks; b += 2 + 2*l.from.Intn(4) {
		if inTurns(b) == asMeta {
			l.write(b, l.data())
		} else {
			l.put(b, l.data())
		}
	}
}

// crash is the power failing, a Replay that may fail as well, and a new Trans.
func (l *life) crash(committing bool) {
	l.t.Helper()
	image := leaving(l.from, l.d)
	state, after := l.survives(image, committing)
	if acts := replayActs(l.t, l.g, image); acts > 0 {
		again := replayedThough(l.t, l.from, l.g, image, l.from.Intn(acts+1))
		l.sameThough(again, state, after)
		after = again
	}
	l.pair = l.anew(state, after)
	l.holds()
}

// tryCommit commits, and the power may fail in it.
func (l *life) tryCommit() {
	l.t.Helper()
	if l.from.Intn(3) > 0 {
		l.commit()
		return
	}
	l.d.Arm(l.from.Intn(60))
	e := l.x.Commit()
	l.d.Arm(-1)
	if e != api.ErrDead {
		l.same(e, l.w.commit(), "Commit")
		return
	}
	if l.w.begun != nil || !l.w.acts {
		l.t.Fatal("Commit acted though there was nothing to be done")
	}
	l.crash(true)
}

func (l *life) step() {
	l.t.Helper()
	switch k := l.from.Intn(40); {
	case k < 5:
		l.begin()
	case k < 9:
		l.end()
	case k < 10:
		l.drop()
	case k < 14:
		l.tryCommit()
	case k < 15 && l.from.Intn(4) == 0:
		l.crash(false)
	case k < 16:
		l.many()
	default:
		l.change()
	}
}

// P16.2 to P16.7: long lives with all calls in all orders, and with crashes.
func TestLives(t *testing.T) {
	for seed := range int64(10) {
		from := rand.New(rand.NewSource(seed))
		g := []api.Geometry{small(t), layout(t, 300, 131, 10), layout(t, 512, 256, 8)}[seed%3]
		l := &life{pair: begun(t, g, inTurns), from: from}
		for k := range 1500 {
			l.step()
			if k%50 == 0 {
				l.holds()
			}
		}
	}
}

// P16.6: of a device that fails again and again, in the commits of one Trans behind the other, the same blocks are had each time.
func TestCrashAgainAndAgain(t *testing.T) {
	from := rand.New(rand.NewSource(1665))
	p := begun(t, small(t), inTurns)
	for n := range 150 {
		p.are(api.OK, p.begin())
		for i := range 1 + n%17 {
			p.are(api.OK, p.write(140+2*i, some(n*100+i)), p.put(141+2*i, some(n*100+i+50)))
		}
		p.are(api.OK, p.end())
		p.d.Arm(n % 41)
		e := p.x.Commit()
		p.d.Arm(-1)
		if e == api.OK {
			p.same(p.w.commit(), api.OK)
			p.holds()
			continue
		}
		p.same(e, api.ErrDead)
		p = p.anew(p.survives(leaving(from, p.d), true))
		p.holds()
	}
}

// R2: the same calls come to the same, act by act of the device, however often they are made.
func TestSameActs(t *testing.T) {
	run := func() (string, string, []int, int) {
		from := rand.New(rand.NewSource(1666))
		l := &life{pair: begun(t, small(t), inTurns), from: from}
		for range 600 {
			if l.from.Intn(30) == 0 {
				l.many()
			}
			l.begin()
			l.change()
			l.end()
			if l.from.Intn(6) == 0 {
				l.commit()
			}
		}
		all := slices.Repeat([]bool{true}, l.g.Blocks)
		return l.d.Kept(), l.d.Crash(all), l.d.Pending(), l.d.Acts()
	}
	kept, now, pending, acts := run()
	for range 5 {
		if a, b, c, n := run(); a != kept || b != now || !slices.Equal(c, pending) || n != acts {
			t.Fatal("the same calls came to something else")
		}
	}
}

// R1: a device that is taken away below a Trans is an error, and no panic.
func TestDeviceGone(t *testing.T) {
	p := begun(t, small(t), inTurns)
	p.are(api.OK, p.begin(), p.write(140, full("a")), p.put(141, full("b")), p.end())
	*p.d = device.Device{}
	if e := p.x.Commit(); e == api.OK {
		t.Error("Commit")
	}
	for _, b := range oddBlocks {
		calls(p.x, b, full("a"))
		p.x.Waits(b)
	}
	p.isSize(1, 0, 0)
}
