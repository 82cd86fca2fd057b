package trans_test

import (
	"math"
	"reflect"
	"slices"
	"strings"
	"testing"

	"glissade/api"
	"glissade/device"
	"glissade/journal"
	"glissade/trans"
)

// The chapter's examples, on the device that they tell of, which has only zeros.
func TestExamples(t *testing.T) {
	g := small(t)
	d, _ := device.New(256)
	if e := journal.Format(d, g); e != api.OK || g.DataAt != 134 {
		t.Fatal(e, g)
	}
	p := pairOf(t, d, g, inTurns)
	p.are(api.ErrArg, p.x.Write(140, full("a")))
	p.are(api.OK, p.x.Begin(), p.x.Write(140, full("a")), p.x.Put(141, full("b")))
	if s, e := p.x.Read(140); s != full("a") || e != api.OK {
		t.Errorf("%q, %v", s, e)
	}
	if s, e := p.x.Get(141); s != full("b") || e != api.OK {
		t.Errorf("%q, %v", s, e)
	}
	p.isSize(1, 0, 0)
	p.x.Drop()
	if s, e := p.x.Read(140); s != full("\x00") || e != api.OK {
		t.Errorf("%q, %v", s, e)
	}
	p.are(api.OK, p.x.Begin(), p.x.Write(140, full("a")), p.x.End(), p.x.Commit(), p.x.Begin(), p.x.Free(140, true))
	if !p.x.Waits(140) {
		t.Error("140 does not wait")
	}
	p.are(api.ErrArg, p.x.Write(140, full("b")))
	for _, b := range []int{5, 256} {
		if s, e := p.x.Read(b); s != "" || e != api.ErrBlock {
			t.Errorf("%d: %q, %v", b, s, e)
		}
	}
}

// calls is all methods that return an error, with one block and one text.
func calls(x *trans.Trans, b int, data string) []api.Errno {
	_, read := x.Read(b)
	_, get := x.Get(b)
	return []api.Errno{
		x.Begin(), read, get, x.Write(b, data), x.Put(b, data), x.Free(b, true), x.Free(b, false), x.Commit(), x.End(),
	}
}

// oddBlocks is blocks, and numbers that are none, of the small layout.
var oddBlocks = []int{0, 1, 2, 127, 128, 129, 134, 255, 256, -1, math.MaxInt, math.MinInt, math.MaxInt / 128, math.MinInt / 128}

// R1, R3: an object that is missing returns ErrNil ahead of all other errors, and zero values.
func TestMissing(t *testing.T) {
	g := small(t)
	busy, dead := begun(t, g, inTurns), begun(t, g, inTurns)
	busy.are(api.OK, busy.begin(), busy.write(140, full("a")), busy.free(142, true))
	dead.are(api.OK, dead.begin(), dead.write(140, full("a")), dead.end())
	dead.d.Arm(0)
	dead.are(api.ErrDead, dead.x.Commit())
	copied, copiedBusy, copiedDead := *begun(t, g, inTurns).x, *busy.x, *dead.x
	for i, x := range []*trans.Trans{nil, {}, new(trans.Trans), &copied, &copiedBusy, &copiedDead} {
		for _, b := range oddBlocks {
			for _, data := range []string{"", full("a"), full("a") + "a"} {
				for k, e := range calls(x, b, data) {
					if e != api.ErrNil {
						t.Errorf("object %d, block %d, call %d: %v", i, b, k, e)
					}
				}
			}
			if s, _ := x.Read(b); s != "" {
				t.Error(i, b, "Read", s)
			}
			if s, _ := x.Get(b); s != "" {
				t.Error(i, b, "Get", s)
			}
			if x.Waits(b) {
				t.Error(i, b, "Waits")
			}
		}
		x.Drop()
		if a, b, c := x.Size(); a != 0 || b != 0 || c != 0 || x.Geometry() != (api.Geometry{}) {
			t.Error(i, a, b, c, x.Geometry())
		}
	}
	busy.holds()
	busy.are(api.OK, busy.end(), busy.commit())
	busy.holds()
}

// P16.1: New returns what journal.Open does, and nothing beside an error.
func TestNewRefused(t *testing.T) {
	g := small(t)
	made := formatted(t, g)
	copied := *made
	refused := func(want api.Errno, d *device.Device, g api.Geometry) {
		t.Helper()
		acts := d.Acts()
		if x, e := trans.New(d, g); x != nil || e != want || d.Acts() != acts {
			t.Errorf("%v, %v, wanted %v", x, e, want)
		}
		if _, e := journal.Open(d, g); e != want {
			t.Errorf("journal.Open: %v, wanted %v", e, want)
		}
	}
	for _, d := range []*device.Device{nil, {}, new(device.Device), &copied} {
		refused(api.ErrNil, d, g)
		refused(api.ErrNil, d, api.Geometry{})
	}
	for _, other := range []api.Geometry{{}, layout(t, 257, 128, 8), layout(t, 4096, 512, 512), {Blocks: 256}, {Blocks: math.MinInt, Log: math.MaxInt}} {
		refused(api.ErrArg, made, other)
	}
	for i := range reflect.TypeOf(g).NumField() {
		for _, n := range []int64{-1, 1, math.MaxInt, math.MinInt} {
			other := g
			field := reflect.ValueOf(&other).Elem().Field(i)
			field.SetInt(field.Int() + n)
			refused(api.ErrArg, made, other)
		}
	}
	for _, blocks := range []int{1, 255, 257} {
		d, _ := device.New(blocks)
		refused(api.ErrArg, d, g)
	}
	blank, _ := device.New(256)
	refused(api.ErrForm, blank, g)
	refused(api.ErrForm, blank, layout(t, 256, 200, 76))
}

// P16.1: New makes a Trans without acts, reads only, and takes a device that is dead; Geometry is what it was given.
func TestNew(t *testing.T) {
	for _, g := range []api.Geometry{small(t), great(t), layout(t, 300, 131, 10), layout(t, 4096, 512, 512)} {
		d := formatted(t, g)
		d.Arm(0)
		acts := d.Acts()
		p := pairOf(t, d, g, inTurns)
		p.isSize(0, 0, 0)
		p.holds()
		p.are(api.OK, p.commit())
		p.are(api.ErrArg, p.end())
		p.drop()
		p.holds()
		if d.Acts() != acts {
			t.Error(d.Acts(), acts)
		}
	}
}

// P16.1: New takes a device whose log has transactions, and its own come behind them.
func TestNewBehindTransactions(t *testing.T) {
	g := small(t)
	p := begun(t, g, inTurns)
	p.are(api.OK, p.begin(), p.write(140, full("a")), p.put(141, full("b")), p.end(), p.commit())
	x, e := trans.New(p.d, g)
	if e != api.OK || x.Geometry() != g {
		t.Fatal(e)
	}
	if a, b, c := x.Size(); a != 0 || b != 0 || c != 0 || x.Waits(140) {
		t.Error(a, b, c)
	}
	p.are(api.ErrArg, x.End(), x.Write(142, full("c")))
	p.are(api.OK, x.Commit(), x.Begin(), x.Write(142, full("c")), x.Put(143, full("d")), x.End(), x.Commit())
	l, e := journal.Replay(p.d, g)
	if e != api.OK || len(l) != 2 || len(l[0].Changes) != 1 || len(l[1].Changes) != 1 {
		t.Fatal(l, e)
	}
	for b, want := range map[int]string{140: full("a"), 141: full("b"), 142: full("c"), 143: full("d")} {
		if s, _ := p.d.Read(b); s != want {
			t.Errorf("%d: %q", b, s)
		}
	}
}

// P16.2: one act at a time; End, Write, Put and Free need one, Drop does not.
func TestBeginEndDrop(t *testing.T) {
	p := begun(t, small(t), inTurns)
	outside := func() {
		t.Helper()
		p.are(api.ErrArg, p.end(), p.write(140, full("a")), p.put(141, full("a")), p.free(140, true), p.free(141, false))
	}
	outside()
	p.drop()
	p.drop()
	outside()
	p.are(api.OK, p.begin())
	p.are(api.ErrArg, p.begin(), p.begin(), p.commit())
	p.are(api.OK, p.write(140, full("a")))
	p.are(api.ErrArg, p.begin(), p.commit())
	p.are(api.OK, p.end())
	outside()
	p.are(api.OK, p.begin(), p.write(140, full("b")), p.put(141, full("b")), p.free(142, true))
	p.drop()
	outside()
	p.holds()
	p.drop()
	p.holds()
	p.are(api.OK, p.begin())
	p.drop()
	p.are(api.OK, p.begin(), p.end(), p.begin(), p.free(140, true))
	p.drop()
	p.are(api.OK, p.commit())
	outside()
	p.holds()
	if s, e := p.x.Read(140); s != full("a") || e != api.OK {
		t.Errorf("%q, %v", s, e)
	}
}

// P16.3, P16.4, R5: which numbers are blocks, whatever else would be an error.
func TestBlocks(t *testing.T) {
	for _, g := range []api.Geometry{small(t), layout(t, 300, 131, 10)} {
		numbers := append(slices.Clone(oddBlocks), g.Log-1, g.Log, g.Log+1, g.DataAt-1, g.DataAt, g.Blocks-1, g.Blocks, g.Blocks+1)
		for _, b := range numbers {
			p := begun(t, g, inTurns)
			if inLog := b >= 1 && b <= g.Log; inLog || b < 0 || b >= g.Blocks {
				for _, data := range []string{"", full("a")} {
					p.are(api.ErrBlock, p.write(b, data), p.put(b, data), p.free(b, true), p.free(b, false))
					p.are(api.OK, p.begin())
					p.are(api.ErrBlock, p.write(b, data), p.put(b, data), p.free(b, true), p.free(b, false))
					p.isSize(0, 0, 0)
					p.drop()
				}
				p.holds()
				continue
			}
			write := p.write
			if inTurns(b) == asData {
				write = p.put
			}
			p.are(api.OK, p.begin(), write(b, full("a")), p.end(), p.commit())
			p.holds()
			p.are(api.OK, p.begin(), p.free(b, inTurns(b) == asMeta))
			p.holds()
			p.are(api.ErrArg, p.write(b, full("b")), p.put(b, full("b")), p.free(b, true))
			p.are(api.OK, p.end(), p.commit())
			p.holds()
		}
	}
}

// P16.3: data has the bytes of a block, no more and no less.
func TestData(t *testing.T) {
	p := begun(t, small(t), inTurns)
	p.are(api.OK, p.begin(), p.write(140, full("a")), p.put(141, full("b")))
	for _, n := range []int{0, 1, 127, 129, 256, 1 << 16} {
		data := strings.Repeat("x", n)
		p.are(api.ErrArg, p.write(140, data), p.put(141, data), p.write(150, data), p.put(151, data))
	}
	p.holds()
	p.are(api.OK, p.write(140, full("\x00")), p.put(141, full("\xff")), p.write(150, full("c")), p.put(151, full("d")))
	p.isSize(2, 0, 0)
	p.are(api.OK, p.end(), p.commit())
	p.holds()
}

// P16.3: what the act in progress wrote comes first, then what the transaction has, then what a commit gave, then what the device has; and all of it again behind a Drop.
func TestNewestBytes(t *testing.T) {
	p := begun(t, small(t), inTurns)
	both := func(from, to int, n int) {
		t.Helper()
		for b := from; b <= to; b += 2 {
			p.are(api.OK, p.write(b, some(n+b)), p.put(b+1, some(n+b+1)))
		}
	}
	// Each later one leaves the first blocks of the one ahead of it.
	p.are(api.OK, p.begin())
	both(140, 170, 1000)
	p.are(api.OK, p.end(), p.commit())
	p.holds()
	p.are(api.OK, p.begin())
	both(150, 180, 2000)
	p.holds()
	p.are(api.OK, p.end())
	p.holds()
	p.are(api.OK, p.begin())
	both(160, 190, 3000)
	p.holds()
	both(164, 168, 4000)
	p.holds()
	p.drop()
	p.holds()
	p.are(api.OK, p.begin())
	p.holds()
	both(162, 166, 2000) // the same bytes as there are
	p.holds()
	both(166, 166, 5000)
	p.are(api.OK, p.end())
	p.holds()
	p.are(api.OK, p.begin(), p.write(166, some(2166)), p.put(167, some(2167)), p.end())
	p.holds()
	p.are(api.OK, p.commit())
	p.holds()
}

// R2, R4: two Transes over two devices are independent, and the texts that a call is given and returns stay as they are.
func TestIndependent(t *testing.T) {
	g := small(t)
	p, q := begun(t, g, inTurns), begun(t, g, inTurns)
	p.are(api.OK, p.begin(), p.write(140, full("a")), p.put(141, full("b")), p.free(142, true))
	q.holds()
	q.are(api.OK, q.begin(), q.write(140, full("c")))
	q.drop()
	p.holds()
	p.are(api.OK, p.end(), p.commit())
	q.holds()
	long := strings.Repeat("xyz", 1000)
	q.are(api.OK, q.begin(), q.write(140, long[100:228]), q.put(141, long[101:229]), q.end(), q.commit())
	q.holds()
	p.holds()
}
