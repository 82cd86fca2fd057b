package journal

import (
	"math/rand"
	"slices"
	"testing"

	"glissade/api"
	"glissade/device"
)

// leavings calls with what crashes of a device leave: for any choice of the pending writes if they are few; otherwise for none, all, each one alone, all but each one, and some by chance.
func leavings(from *rand.Rand, d *device.Device, call func(image string)) {
	n := len(d.Pending())
	keep := make([]bool, n)
	if n <= 4 {
		for k := range 1 << n {
			for i := range keep {
				keep[i] = k>>i&1 == 1
			}
			call(d.Crash(keep))
		}
		return
	}
	for _, others := range []bool{false, true} {
		for one := -1; one < n; one++ {
			for i := range keep {
				keep[i] = (i == one) != others
			}
			call(d.Crash(keep))
		}
	}
	for range 8 {
		call(leaving(from, d))
	}
}

// leaving is what one crash leaves, by chance.
func leaving(from *rand.Rand, d *device.Device) string {
	keep := make([]bool, len(d.Pending()))
	for i := range keep {
		keep[i] = from.Intn(2) == 0
	}
	return d.Crash(keep)
}

// brought is an image with the net effect of transactions in their homes, told by its homes alone.
func brought(g api.Geometry, image string, l []api.Txn) []string {
	w := twinOf(image)
	for _, c := range effect(g, l) {
		w.take(step{c.Block, c.Data})
	}
	return slices.Concat(w.now[:1], w.now[1+g.Log:])
}

// restores holds that Replay of what a crash left lists one of these lists and brings it home, and does nothing when it is repeated. It returns which one it was.
func restores(t *testing.T, g api.Geometry, image string, may ...[]api.Txn) []api.Txn {
	t.Helper()
	d := opened(t, image)
	next := logOf(t, d, g).Next()
	l, e := Replay(d, g)
	if e != api.OK || !slices.ContainsFunc(may, func(x []api.Txn) bool { return sameTxns(x, l) }) {
		t.Fatalf("%v, %v, wanted one of %v", l, e, may)
	}
	if !slices.Equal(brought(g, d.Kept(), nil), brought(g, image, l)) {
		t.Fatalf("the homes are not those of %v", l)
	}
	acts := d.Acts()
	if again, e := Replay(d, g); len(again) != 0 || e != api.OK || d.Acts() != acts {
		t.Fatal("again:", again, e)
	}
	if log := logOf(t, d, g); log.Room() != g.Log-1 || log.Next() != next {
		t.Fatal(log.Room(), log.Next(), next)
	}
	return l
}

// restoresThough holds that the same comes out if Replay fails at any act and is repeated, and if that fails, too.
func restoresThough(t *testing.T, from *rand.Rand, g api.Geometry, image string, want []api.Txn) {
	t.Helper()
	homes := brought(g, image, want)
	acts := 0
	if len(want) > 0 {
		acts = len(effect(g, want)) + 3
	}
	for n := range acts {
		d := opened(t, image)
		d.Arm(n)
		if l, e := Replay(d, g); l != nil || e != api.ErrDead {
			t.Fatal(n, l, e)
		}
		leavings(from, d, func(image string) {
			c := opened(t, image)
			c.Arm(from.Intn(acts))
			Replay(c, g)
			for _, image := range []string{image, leaving(from, c)} {
				restores(t, g, image, want, nil)
				c := opened(t, image)
				if _, e := Replay(c, g); e != api.OK || !slices.Equal(brought(g, c.Kept(), nil), homes) {
					t.Fatalf("failed at act %d: the homes are not those of %v", n, want)
				}
			}
		})
	}
}

// interrupted commits to what an image has, lets the device fail at each act in turn, and calls with each thing that is left, and whether the commit is over.
func interrupted(t *testing.T, from *rand.Rand, g api.Geometry, image string, x api.Txn, data []api.Change, call func(image string, over bool)) {
	t.Helper()
	acts := len(committing(g, 0, 0, x, data))
	for n := range acts + 1 {
		d := opened(t, image)
		l := logOf(t, d, g)
		d.Arm(n)
		e := l.Commit(x, data)
		if n < acts && e != api.ErrDead || n == acts && e != api.OK {
			t.Fatal(n, e)
		}
		leavings(from, d, func(image string) { call(image, n == acts) })
	}
}

// hasData holds that data is home.
func hasData(t *testing.T, image string, data []api.Change) {
	t.Helper()
	for _, c := range data {
		if image[c.Block*128:c.Block*128+128] != c.Data {
			t.Fatalf("the transaction is there, and its data in %d is not", c.Block)
		}
	}
}

// before is an image whose log begins at slot p and has a few transactions, and these.
func before(t *testing.T, g api.Geometry, p int) (string, []api.Txn) {
	t.Helper()
	sure := []api.Txn{{Changes: changesOf(1, 180, 190, 200)}, {Changes: changesOf(2, 181, 190), Revokes: []int{200}}}
	d := opened(t, begun(g, p, 30))
	l := logOf(t, d, g)
	for _, x := range sure {
		if e := l.Commit(x, nil); e != api.OK {
			t.Fatal(e)
		}
	}
	return d.Kept(), sure
}

// P9.6: wherever a commit fails and whatever is kept, the earlier transactions are there, and this one is there wholly, with its data, or not at all; so it is, if Replay fails, too.
func TestCrashInCommit(t *testing.T) {
	from := rand.New(rand.NewSource(961))
	g := small(t)
	for _, x := range []api.Txn{
		{},
		{Changes: changesOf(3, 180, 181, 200)},
		{Changes: []api.Change{{Block: 180, Data: commitOf(32)}, {Block: 181, Data: headOf(0, 32)}}, Revokes: []int{190}},
	} {
		for _, p := range []int{0, 114} {
			image, sure := before(t, g, p)
			data := changesOf(4, 150, 151)
			with := append(slices.Clone(sure), x)
			times := 0
			interrupted(t, from, g, image, x, data, func(image string, over bool) {
				may := [][]api.Txn{with, sure}
				if over {
					may = may[:1]
				}
				l := restores(t, g, image, may...)
				if len(l) == len(with) {
					hasData(t, image, data)
				}
				if times++; over || times%9 == 0 {
					restoresThough(t, from, g, image, l)
				}
			})
		}
	}
}

// P9.6: the log goes on behind a commit that failed, with the same number if that one is not there, and is interrupted again.
func TestCrashGoingOn(t *testing.T) {
	from := rand.New(rand.NewSource(962))
	g := small(t)
	x := api.Txn{Changes: changesOf(3, 180, 181, 200)}
	for _, y := range []api.Txn{
		{Changes: changesOf(5, 180, 181, 200)},
		{Changes: []api.Change{x.Changes[0], {Block: 181, Data: some(9)}, x.Changes[2]}},
		{Changes: changesOf(5, 181), Revokes: []int{180}},
	} {
		image, sure := before(t, g, 112)
		interrupted(t, from, g, image, x, changesOf(4, 150), func(image string, over bool) {
			if from.Intn(2) == 0 {
				return
			}
			d := opened(t, image)
			seq := logOf(t, d, g).Next()
			all := slices.Clone(sure)
			if seq == 33 {
				all = append(all, x)
			} else if seq != 32 || over {
				t.Fatal(seq)
			}
			if from.Intn(2) == 0 {
				if _, e := Replay(d, g); e != api.OK {
					t.Fatal(e)
				}
				image, all = d.Kept(), nil
			}
			with := append(slices.Clone(all), y)
			interrupted(t, from, g, image, y, changesOf(6, 150, 151), func(image string, over bool) {
				l := restores(t, g, image, with, all)
				if over && len(l) != len(with) {
					t.Fatal("the commit was over, and is not there")
				}
				if len(l) == len(with) {
					hasData(t, image, changesOf(6, 150, 151))
				}
			})
		})
	}
}

// P9.6: wherever a checkpoint fails, behind the net effect that was written home, the homes have it in the end, and the log goes on.
func TestCrashInCheckpoint(t *testing.T) {
	from := rand.New(rand.NewSource(963))
	g := small(t)
	image, sure := before(t, g, 116)
	homes := brought(g, image, sure)
	for n := range 8 {
		d := opened(t, image)
		l := logOf(t, d, g)
		for _, c := range effect(g, sure) {
			if e := d.Write(c.Block, c.Data); e != api.OK {
				t.Fatal(e)
			}
		}
		d.Arm(n)
		want := api.OK
		if n < 3 {
			want = api.ErrDead
		}
		if e := l.Checkpoint(); e != want {
			t.Fatal(n, e)
		}
		leavings(from, d, func(image string) {
			may := [][]api.Txn{nil, sure}
			if n >= 3 {
				may = may[:1]
			}
			l := restores(t, g, image, may...)
			if !slices.Equal(brought(g, image, l), homes) {
				t.Fatal(n, "the homes are not those of the transactions")
			}
			restoresThough(t, from, g, image, l)
			y := api.Txn{Changes: changesOf(7, 190), Revokes: []int{181}}
			with := append(slices.Clone(l), y)
			interrupted(t, from, g, image, y, nil, func(image string, over bool) {
				got := restores(t, g, image, with, l)
				if over && len(got) != len(with) {
					t.Fatal("the commit was over, and is not there")
				}
			})
		})
	}
}

// life is a device that crashes often, and the transactions that its log must have.
type life struct {
	t    *testing.T
	from *rand.Rand
	g    api.Geometry
	d    *device.Device
	l    *Log
	all  []api.Txn
}

// crash is the power failing and the device being had back; may lists what the log may have then besides what it had.
func (f *life) crash(may ...[]api.Txn) {
	f.t.Helper()
	image := leaving(f.from, f.d)
	f.all = restores(f.t, f.g, image, append(may, f.all)...)
	f.d = opened(f.t, image)
	f.l = logOf(f.t, f.d, f.g)
}

// commit commits something by chance.
func (f *life) commit() {
	f.t.Helper()
	x, data := someTxn(f.from, f.g, 12), someTxn(f.from, f.g, 4).Changes
	with := append(slices.Clone(f.all), x)
	switch e := f.l.Commit(x, data); e {
	case api.OK:
		f.all = with
		hasData(f.t, f.d.Kept(), data)
	case api.ErrLog:
		f.checkpoint()
	case api.ErrDead:
		f.crash(with)
	default:
		f.t.Fatal(e)
	}
}

// checkpoint writes the net effect home and lets go of the log's transactions.
func (f *life) checkpoint() {
	f.t.Helper()
	var e api.Errno
	for _, c := range effect(f.g, f.all) {
		if e == api.OK {
			e = f.d.Write(c.Block, c.Data)
		}
	}
	want := brought(f.g, f.d.Crash(slices.Repeat([]bool{true}, 256)), f.all)
	if e == api.OK {
		e = f.l.Checkpoint()
	}
	if e == api.OK {
		f.all = nil
	} else {
		f.crash(nil)
	}
	if got := brought(f.g, f.d.Kept(), f.all); e == api.OK && !slices.Equal(got, want) {
		f.t.Fatal("the homes are not those of the transactions")
	}
}

// replay replays, however often it fails, and goes on.
func (f *life) replay() {
	f.t.Helper()
	for {
		homes := brought(f.g, f.d.Kept(), f.all)
		l, e := Replay(f.d, f.g)
		if e == api.OK {
			if !sameTxns(l, f.all) || !slices.Equal(brought(f.g, f.d.Kept(), nil), homes) {
				f.t.Fatal("replayed are", l, "and not", f.all)
			}
			break
		}
		if l != nil || e != api.ErrDead {
			f.t.Fatal(l, e)
		}
		f.crash(nil)
		if !slices.Equal(brought(f.g, f.d.Kept(), f.all), homes) {
			f.t.Fatal("behind a replay that failed the homes are not those of the transactions")
		}
		f.d.Arm(f.from.Intn(30))
	}
	f.all = nil
	f.l = logOf(f.t, f.d, f.g)
}

// P9.6: a long life with many crashes, in commits, checkpoints and replays.
func TestManyCrashes(t *testing.T) {
	from := rand.New(rand.NewSource(96))
	g := small(t)
	for range 12 {
		f := &life{t: t, from: from, g: g, d: opened(t, begun(g, from.Intn(127), from.Uint64()))}
		f.l = logOf(t, f.d, g)
		for range 150 {
			if f.d.Arm(-1); from.Intn(2) == 0 {
				f.d.Arm(from.Intn(25))
			}
			switch from.Intn(8) {
			case 0:
				f.checkpoint()
			case 1:
				f.replay()
			case 2:
				f.crash()
			default:
				f.commit()
			}
		}
	}
}
