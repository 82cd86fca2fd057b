package journal

import (
	"math"
	"math/rand"
	"reflect"
	"slices"
	"strings"
	"testing"

	"glissade/api"
	"glissade/device"
)

// P9.1 to P9.5: the chapter's examples.
func TestExamples(t *testing.T) {
	for _, x := range []struct{ changes, revokes, want int }{{2, 0, 4}, {25, 29, 30}, {0, 0, 1}} {
		if n := Size(api.Txn{Changes: make([]api.Change, x.changes), Revokes: make([]int, x.revokes)}); n != x.want {
			t.Errorf("Size of %d changes and %d revokes = %d", x.changes, x.revokes, n)
		}
	}
	g := small(t)
	d, _ := device.New(256)
	if e := Format(d, g); e != api.OK {
		t.Fatal(e)
	}
	l := logOf(t, d, g)
	if l.Room() != 127 || l.Next() != 1 {
		t.Error(l.Room(), l.Next())
	}
	x := api.Txn{Changes: changesOf(1, 180, 190)}
	acts := d.Acts()
	if e := l.Commit(x, nil); e != api.OK || d.Acts() != acts+6 || l.Room() != 123 || l.Next() != 2 {
		t.Error(e, d.Acts(), l.Room(), l.Next())
	}
	if n := logOf(t, d, g).Next(); n != 2 {
		t.Error(n)
	}
	if got, e := Replay(d, g); e != api.OK || !sameTxns(got, []api.Txn{x}) || d.Acts() != acts+11 {
		t.Error(got, e, d.Acts())
	}
	if got, e := Replay(d, g); e != api.OK || len(got) != 0 || d.Acts() != acts+11 {
		t.Error(got, e, d.Acts())
	}
	if n := logOf(t, d, g).Room(); n != 127 {
		t.Error(n)
	}
	for _, blocks := range [][]int{{190, 180}, {3}, {256}} {
		if e := l.Commit(api.Txn{Changes: changesOf(1, blocks...)}, nil); e != api.ErrArg {
			t.Error(blocks, e)
		}
	}
}

// P9.1: the acts of Format, one by one, whatever the device had.
func TestFormat(t *testing.T) {
	for _, n := range [][3]int{{256, 128, 8}, {300, 131, 10}, {1100, 200, 30}} {
		g := layout(t, n[0], n[1], n[2])
		image := begun(g, 5, 77, ended(77)...)
		inTurn(t, image, formatting(g), func(d *device.Device) func() api.Errno {
			return func() api.Errno { return Format(d, g) }
		})
	}
	g := layout(t, 4096, 512, 512)
	d := opened(t, begun(g, 5, 77))
	if e := Format(d, g); e != api.OK || d.Acts() != 514 {
		t.Fatal(e, d.Acts())
	}
	w := twinOf(begun(g, 5, 77))
	w.take(formatting(g)...)
	w.holds(t, d)
	l := logOf(t, d, g)
	if l.Room() != 511 || l.Next() != 1 {
		t.Error(l.Room(), l.Next())
	}
	if got, e := Replay(d, g); len(got) != 0 || e != api.OK || d.Acts() != 514 {
		t.Error(got, e, d.Acts())
	}
}

// refused holds that Format, Replay and Open all return an error, and no act is done.
func refused(t *testing.T, d *device.Device, g api.Geometry, want api.Errno, what ...any) {
	t.Helper()
	acts := d.Acts()
	if e := Format(d, g); e != want {
		t.Errorf("%v: Format: %v, wanted %v", what, e, want)
	}
	readRefused(t, d, g, want, what...)
	if d.Acts() != acts {
		t.Errorf("%v: %d acts", what, d.Acts()-acts)
	}
}

// readRefused holds that Replay and Open return an error, and nothing else.
func readRefused(t *testing.T, d *device.Device, g api.Geometry, want api.Errno, what ...any) {
	t.Helper()
	if l, e := Replay(d, g); l != nil || e != want {
		t.Errorf("%v: Replay: %v, %v, wanted %v", what, l, e, want)
	}
	if l, e := Open(d, g); l != nil || e != want {
		t.Errorf("%v: Open: %v, %v, wanted %v", what, l, e, want)
	}
}

// P9.1, R3: a device without blocks comes ahead of all else.
func TestNoDevice(t *testing.T) {
	g := small(t)
	made := opened(t, begun(g, 0, 1))
	copied := *made
	for i, d := range []*device.Device{nil, {}, new(device.Device), &copied} {
		for _, g := range []api.Geometry{g, {}, {Blocks: 1}, {Blocks: math.MaxInt, Log: math.MinInt}} {
			refused(t, d, g, api.ErrNil, i, g)
		}
	}
}

// P9.1, R5: a layout that is none, or another device's, comes ahead of what the header says and of a dead device.
func TestNoLayout(t *testing.T) {
	g := small(t)
	images := []string{begun(g, 0, 1), begun(g, 127, 1), strings.Repeat(zero, 256)}
	for _, image := range images {
		d := opened(t, image)
		for i := range reflect.TypeOf(g).NumField() {
			for _, n := range []int64{0, 1, -1, 127, 128, 129, 256, 257, math.MaxInt, math.MinInt} {
				other := g
				field := reflect.ValueOf(&other).Elem().Field(i)
				for _, n := range []int64{n, field.Int() + n} {
					field.SetInt(n)
					if other != g {
						refused(t, d, other, api.ErrArg, other)
					}
				}
			}
		}
		for _, other := range []api.Geometry{{}, layout(t, 257, 128, 8), layout(t, 4096, 512, 512)} {
			refused(t, d, other, api.ErrArg, other)
			d.Arm(0)
			refused(t, d, other, api.ErrArg, other)
			d.Arm(-1)
		}
	}
	for _, blocks := range []int{1, 2, 128, 255, 257, 4096} {
		d, _ := device.New(blocks)
		refused(t, d, g, api.ErrArg, blocks)
		refused(t, d, api.Geometry{Blocks: blocks}, api.ErrArg, blocks)
	}
}

// P9.2, P9.3: headers that are none, of a slot behind the last one, of another kind.
func TestHeader(t *testing.T) {
	g := small(t)
	for _, x := range []struct {
		head string
		ok   bool
		seq  uint64
	}{
		{headOf(0, 7), true, 7},
		{headOf(1, 7), true, 7},
		{headOf(125, 7), true, 7},
		{headOf(126, 7), true, 7},
		{headOf(126, math.MaxUint64), true, math.MaxUint64},
		{headOf(127, 7), false, 0},
		{headOf(128, 7), false, 0},
		{headOf(510, 7), false, 0},
		{headOf(511, 7), false, 0},
		{headOf(65535, 7), false, 0},
		{zero, false, 0},
		{full("\xff"), false, 0},
		{some(1), false, 0},
		{commitOf(7), false, 0},
		{revokeOf(7, 200), false, 0},
		{descOf(7, "", 200), false, 0},
		{padded("GLJw\x00" + low(7, 8)), false, 0},
		{padded("GLJw\x05" + low(7, 8)), false, 0},
		{headOf(0, 7)[:127] + "\x01", false, 0},
		{headOf(0, 7)[:15] + "\x01" + headOf(0, 7)[16:], false, 0},
		{"H" + headOf(0, 7)[1:], false, 0},
		{"\x00\x00\x00\x00" + headOf(0, 7)[4:], false, 0},
	} {
		image := []byte(begun(g, 0, 1))
		copy(image[128:], x.head)
		d := opened(t, string(image))
		d.Arm(0) // a device that is dead can be read
		if !x.ok {
			readRefused(t, d, g, api.ErrForm, x.head)
		} else if l := logOf(t, d, g); l.Room() != 127 || l.Next() != x.seq {
			t.Errorf("%q: %d, %d", x.head, l.Room(), l.Next())
		} else if got, e := Replay(d, g); len(got) != 0 || e != api.OK {
			t.Errorf("%q: %v, %v", x.head, got, e)
		}
		if d.Acts() != 0 {
			t.Errorf("%q: %d acts", x.head, d.Acts())
		}
	}
}

// P9.2, P9.3: the greatest ring's last slot.
func TestHeaderOfGreatestLog(t *testing.T) {
	g := layout(t, 1024, 512, 8)
	x := []api.Txn{{Changes: changesOf(1, 700, 701)}, {}, {Revokes: []int{0, 1023}}}
	blocks := slices.Concat(story(x[0], 9), story(x[1], 10), story(x[2], 11))
	d := opened(t, begun(g, 510, 9, blocks...))
	if l := logOf(t, d, g); l.Room() != 504 || l.Next() != 12 {
		t.Error(l.Room(), l.Next())
	}
	if got, e := Replay(d, g); !sameTxns(got, x) || e != api.OK {
		t.Error(got, e)
	}
	if s, _ := d.Read(1); s != headOf(6, 12) {
		t.Errorf("%q", s)
	}
}

// P9.3, P9.4, P9.5, R3: a log that Open did not make has no room and no number, and takes nothing.
func TestNoLog(t *testing.T) {
	g := small(t)
	image := begun(g, 0, 5, ended(5)...)
	d := opened(t, image)
	l := logOf(t, d, g)
	copied := *l
	for i, none := range []*Log{nil, {}, new(Log), &copied} {
		if none.Room() != 0 || none.Next() != 0 {
			t.Error(i, none.Room(), none.Next())
		}
		for _, x := range []api.Txn{{}, {Changes: changesOf(1, 180)}, {Changes: changesOf(1, 3)}, {Revokes: make([]int, 5000)}} {
			if e := none.Commit(x, nil); e != api.ErrNil {
				t.Error(i, e)
			}
			if e := none.Commit(x, changesOf(1, -1)); e != api.ErrNil {
				t.Error(i, e)
			}
		}
		if e := none.Checkpoint(); e != api.ErrNil {
			t.Error(i, e)
		}
	}
	twinOf(image).holds(t, d)
	if l.Room() != 126 || l.Next() != 6 || l.Commit(api.Txn{}, nil) != api.OK || l.Room() != 125 {
		t.Error(l.Room(), l.Next())
	}
}

// P9.3: as many blocks as the chapter lays, whether the transaction is valid or not.
func TestSize(t *testing.T) {
	numbers := []int{0, 1, 2, 23, 24, 25, 27, 28, 29, 47, 48, 49, 55, 56, 57, 71, 72, 73, 83, 84, 85, 500}
	for _, c := range numbers {
		for _, r := range numbers {
			var x api.Txn
			for b := range c {
				x.Changes = append(x.Changes, api.Change{Block: 1000 + b, Data: zero})
			}
			for b := range r {
				x.Revokes = append(x.Revokes, 2000+b)
			}
			want := len(story(x, 1))
			none := api.Txn{Changes: make([]api.Change, c), Revokes: make([]int, r)}
			if n, m := Size(x), Size(none); n != want || m != want {
				t.Errorf("Size of %d changes and %d revokes = %d, %d, wanted %d", c, r, n, m, want)
			}
		}
	}
	if n := Size(api.Txn{Changes: []api.Change{}, Revokes: []int{}}); n != 1 {
		t.Error(n)
	}
	if n := Size(api.Txn{Revokes: []int{9, 9, -4, math.MaxInt}, Changes: changesOf(1, 3, 3, -1)}); n != 6 {
		t.Error(n)
	}
}

// P9.4: the acts of Commit, one by one, with groups that are just full and fuller, and with data.
func TestCommitInTurn(t *testing.T) {
	g := layout(t, 512, 128, 8)
	for _, changes := range []int{0, 1, 23, 24, 25, 48, 49} {
		for _, revokes := range []int{0, 1, 27, 28, 29, 56, 57} {
			var x api.Txn
			for i := range changes {
				x.Changes = append(x.Changes, changesOf(i, 300+2*i)...)
			}
			for i := range revokes {
				x.Revokes = append(x.Revokes, 301+2*i)
			}
			data := changesOf(7, []int{0, 129, 300, 301, 511}[:(changes+revokes)%6]...)
			image := begun(g, 100, 40)
			inTurn(t, image, committing(g, 100, 40, x, data), func(d *device.Device) func() api.Errno {
				l := logOf(t, d, g)
				return func() api.Errno { return l.Commit(x, data) }
			})
		}
	}
}

// P9.4: behind each commit there is as much less room as it takes, and the next number.
func TestRoomAndNext(t *testing.T) {
	g := small(t)
	image := begun(g, 60, 1000)
	d, w := opened(t, image), twinOf(image)
	l := logOf(t, d, g)
	room, next, p := 127, uint64(1000), 60
	for i, x := range []api.Txn{
		{Changes: changesOf(1, 180, 190)},
		{},
		{Revokes: []int{180}},
		{Changes: changesOf(2, 0, 129, 180, 255), Revokes: []int{130, 190, 254}},
		{Changes: changesOf(3, 130, 131, 132, 133, 134, 135, 136, 137, 138, 139, 140, 141, 142, 143, 144, 145, 146, 147, 148, 149, 150, 151, 152, 153, 154)},
	} {
		data := changesOf(50+i, 200+i, 220)
		if e := l.Commit(x, data); e != api.OK {
			t.Fatal(i, e)
		}
		w.take(committing(g, p, next, x, data)...)
		w.holds(t, d, i)
		n := len(story(x, 0))
		room, next, p = room-n, next+1, p+n
		for _, l := range []*Log{l, logOf(t, d, g)} {
			if l.Room() != room || l.Next() != next {
				t.Error(i, l.Room(), l.Next(), room, next)
			}
		}
	}
}

// refusedCommit holds that a commit returns an error, and changes neither the device nor the log.
func refusedCommit(t *testing.T, d *device.Device, l *Log, x api.Txn, data []api.Change, want api.Errno) {
	t.Helper()
	acts, room, next := d.Acts(), l.Room(), l.Next()
	if e := l.Commit(x, data); e != want {
		t.Errorf("%v, %v: %v, wanted %v", x, data, e, want)
	}
	if d.Acts() != acts || l.Room() != room || l.Next() != next {
		t.Errorf("%v, %v: %d acts, room %d, next %d", x, data, d.Acts()-acts, l.Room(), l.Next())
	}
}

// P9.4: transactions and data that are not valid.
func TestInvalid(t *testing.T) {
	g := small(t)
	d := opened(t, begun(g, 0, 1))
	l := logOf(t, d, g)
	wrong := [][]int{{190, 180}, {180, 180}, {180, 190, 185}, {180, 190, 190}, {-1, 180}, {180, 256}, {0, 1}, {128, 129}, {0, 64, 200}, {math.MinInt, 5}, {200, math.MaxInt}, {200, 200 + 1<<32}, {200, 65536 + 201}}
	for b := -3; b < 260; b++ {
		if b < 0 || 1 <= b && b <= 128 || b > 255 {
			wrong = append(wrong, []int{b})
		}
	}
	for _, blocks := range wrong {
		for _, ok := range []api.Txn{{}, {Changes: changesOf(1, 150)}, {Revokes: []int{151}}} {
			both := ok
			both.Changes = changesOf(1, blocks...)
			refusedCommit(t, d, l, both, nil, api.ErrArg)
			both = ok
			both.Revokes = blocks
			refusedCommit(t, d, l, both, nil, api.ErrArg)
			refusedCommit(t, d, l, ok, changesOf(1, blocks...), api.ErrArg)
		}
	}
	for _, data := range []string{"", "x", zero[:127], zero + "\x00", zero + zero, headOf(0, 1)[:127]} {
		for _, c := range [][]api.Change{{{Block: 180, Data: data}}, {{Block: 180, Data: zero}, {Block: 181, Data: data}}, {{Block: 180, Data: data}, {Block: 181, Data: zero}}} {
			refusedCommit(t, d, l, api.Txn{Changes: c}, nil, api.ErrArg)
			refusedCommit(t, d, l, api.Txn{}, c, api.ErrArg)
		}
	}
	twinOf(begun(g, 0, 1)).holds(t, d)
	// None of these was the device's error, so that the log goes on.
	if e := l.Commit(api.Txn{}, nil); e != api.OK {
		t.Error(e)
	}
}

// P9.4: no block is both changed and revoked, wherever it stands in the two lists; data may be of any home.
func TestChangedAndRevoked(t *testing.T) {
	g := small(t)
	for _, changed := range [][]int{{0}, {180}, {180, 190}, {0, 130, 190}, {0, 129, 200, 255}} {
		for _, revoked := range [][]int{{0}, {180}, {190}, {181, 190}, {0, 255}, {129, 130, 131}, {255}} {
			d := opened(t, begun(g, 0, 1))
			l := logOf(t, d, g)
			x := api.Txn{Changes: changesOf(1, changed...), Revokes: revoked}
			both := slices.ContainsFunc(changed, func(b int) bool { return slices.Contains(revoked, b) })
			if both {
				refusedCommit(t, d, l, x, nil, api.ErrArg)
			} else if e := l.Commit(x, changesOf(2, changed...)); e != api.OK {
				t.Error(changed, revoked, e)
			} else if e := l.Commit(x, changesOf(2, revoked...)); e != api.OK {
				t.Error(changed, revoked, e)
			}
		}
	}
}

// P9.4: each home block can be changed, revoked and have data.
func TestHomes(t *testing.T) {
	g := small(t)
	for b := range 256 {
		d := opened(t, begun(g, 0, 1))
		l := logOf(t, d, g)
		want := api.OK
		if 1 <= b && b <= 128 {
			want = api.ErrArg
		}
		for i, e := range []api.Errno{l.Commit(api.Txn{Changes: changesOf(1, b)}, nil), l.Commit(api.Txn{Revokes: []int{b}}, nil), l.Commit(api.Txn{}, changesOf(2, b))} {
			if e != want {
				t.Error(b, i, e)
			}
		}
	}
}

// P9.4, R5: what is due first of a transaction that is none, one that is too big, and a device that is dead.
func TestOrderOfErrors(t *testing.T) {
	g := small(t)
	d := opened(t, begun(g, 0, 1))
	l := logOf(t, d, g)
	many := api.Txn{}
	for b := 129; b < 256; b++ {
		many.Changes = append(many.Changes, changesOf(b, b)...)
	}
	none := api.Txn{Changes: slices.Concat(many.Changes, changesOf(1, 255))}
	for _, n := range []int{-1, 0} {
		d.Arm(n)
		refusedCommit(t, d, l, none, nil, api.ErrArg)
		refusedCommit(t, d, l, many, changesOf(1, 5), api.ErrArg)
		refusedCommit(t, d, l, api.Txn{}, changesOf(1, 5), api.ErrArg)
		refusedCommit(t, d, l, many, nil, api.ErrLog)
		refusedCommit(t, d, l, many, changesOf(1, 200), api.ErrLog)
	}
	// None of these was the device's error, so that the log goes on.
	d.Arm(-1)
	if e := l.Commit(api.Txn{}, nil); e != api.OK {
		t.Error(e)
	}
	d.Arm(0)
	refusedCommit(t, d, l, api.Txn{}, nil, api.ErrDead)
	d.Arm(-1)
	refusedCommit(t, d, l, none, nil, api.ErrDead)
	refusedCommit(t, d, l, many, nil, api.ErrDead)
}

// P9.4, P9.5: a log whose device failed tells its error again, and does nothing any more.
func TestFailedLog(t *testing.T) {
	g := small(t)
	image := begun(g, 0, 5, ended(5)...)
	x, data := api.Txn{Changes: changesOf(1, 180), Revokes: []int{181}}, changesOf(2, 200)
	stopped := func(d *device.Device, l *Log, e api.Errno) {
		t.Helper()
		d.Arm(-1)
		acts, room, next := d.Acts(), l.Room(), l.Next()
		if room != 126 || next != 6 {
			t.Error(room, next)
		}
		for range 2 {
			refusedCommit(t, d, l, x, data, e)
			refusedCommit(t, d, l, api.Txn{Revokes: make([]int, 9000)}, nil, e)
			refusedCommit(t, d, l, x, changesOf(1, 4), e)
			if again := l.Checkpoint(); again != e {
				t.Error(again, e)
			}
		}
		if d.Acts() != acts || l.Room() != room || l.Next() != next {
			t.Error(d.Acts(), l.Room(), l.Next())
		}
		if m := logOf(t, d, g); m.Commit(api.Txn{}, nil) != api.OK {
			t.Error("another log of the device is refused")
		}
	}
	for n := range len(committing(g, 1, 6, x, data)) {
		d := opened(t, image)
		l := logOf(t, d, g)
		d.Arm(n)
		if e := l.Commit(x, data); e != api.ErrDead {
			t.Error(n, e)
		}
		stopped(d, l, api.ErrDead)
	}
	for n := range 3 {
		d := opened(t, image)
		l := logOf(t, d, g)
		d.Arm(n)
		if e := l.Checkpoint(); e != api.ErrDead {
			t.Error(n, e)
		}
		stopped(d, l, api.ErrDead)
	}
	for _, call := range []func(l *Log) api.Errno{(*Log).Checkpoint, func(l *Log) api.Errno { return l.Commit(x, nil) }} {
		d := opened(t, image)
		l := logOf(t, d, g)
		kept := *d
		*d = device.Device{}
		if e := call(l); e != api.ErrNil {
			t.Error(e)
		}
		*d = kept
		stopped(d, l, api.ErrNil)
	}
}

// P9.5: the acts of Checkpoint, one by one; without transactions there are none, and an empty transaction is one.
func TestCheckpoint(t *testing.T) {
	g := small(t)
	for _, x := range [][]api.Txn{{{}}, {{Changes: changesOf(1, 180, 190)}}, {{Revokes: []int{180}}, {}, {Changes: changesOf(1, 0)}}} {
		for _, p := range []int{0, 60, 120, 126} {
			var blocks []string
			for i, x := range x {
				blocks = append(blocks, story(x, 8+uint64(i))...)
			}
			seq := 8 + uint64(len(x))
			image := begun(g, p, 8, blocks...)
			inTurn(t, image, checkpointing(g, p+len(blocks), seq), func(d *device.Device) func() api.Errno {
				return logOf(t, d, g).Checkpoint
			})
			d := opened(t, image)
			l := logOf(t, d, g)
			for range 2 {
				if e := l.Checkpoint(); e != api.OK || d.Acts() != 3 || l.Room() != 127 || l.Next() != seq {
					t.Error(x, p, e, d.Acts(), l.Room(), l.Next())
				}
			}
			if m := logOf(t, d, g); m.Room() != 127 || m.Next() != seq {
				t.Error(x, p, m.Room(), m.Next())
			}
			if got, e := Replay(d, g); len(got) != 0 || e != api.OK || d.Acts() != 3 {
				t.Error(x, p, got, e)
			}
			if e := l.Commit(api.Txn{}, nil); e != api.OK || d.Acts() != 6 || l.Room() != 126 || l.Next() != seq+1 {
				t.Error(x, p, e, d.Acts())
			}
			if e := l.Checkpoint(); e != api.OK || d.Acts() != 9 || l.Room() != 127 {
				t.Error(x, p, e, d.Acts())
			}
		}
	}
	d := opened(t, begun(g, 9, 4))
	l := logOf(t, d, g)
	d.Arm(0)
	if e := l.Checkpoint(); e != api.OK {
		t.Error("nothing is done on a dead device, and returns", e)
	}
	d.Arm(-1)
	if e := l.Commit(api.Txn{}, nil); e != api.OK {
		t.Error(e)
	}
}

// P9.4: a transaction takes all the slots that remain, and not one more.
func TestFull(t *testing.T) {
	g := layout(t, 512, 128, 8)
	for _, p := range []int{0, 1, 77, 126} {
		d := opened(t, begun(g, p, 1))
		l := logOf(t, d, g)
		var x api.Txn
		for b := 200; b < 320; b++ {
			x.Changes = append(x.Changes, changesOf(1, b)...)
		}
		for b := 320; b < 349; b++ {
			x.Revokes = append(x.Revokes, b)
		}
		refusedCommit(t, d, l, x, nil, api.ErrLog) // 2 + 5 + 120 + 1
		x.Revokes = x.Revokes[:28]
		if e := l.Commit(x, nil); e != api.OK || l.Room() != 0 || l.Next() != 2 {
			t.Fatal(p, e, l.Room(), l.Next())
		}
		refusedCommit(t, d, l, api.Txn{}, nil, api.ErrLog)
		if m := logOf(t, d, g); m.Room() != 0 || m.Next() != 2 {
			t.Error(p, m.Room(), m.Next())
		} else {
			refusedCommit(t, d, m, api.Txn{}, changesOf(1, 200), api.ErrLog)
		}
		image := d.Kept()
		inTurn(t, image, checkpointing(g, p, 2), func(d *device.Device) func() api.Errno {
			return logOf(t, d, g).Checkpoint
		})
		inTurn(t, image, replaying(g, []api.Txn{x}, p, 2), func(d *device.Device) func() api.Errno {
			return func() api.Errno { _, e := Replay(d, g); return e }
		})
		if e := l.Checkpoint(); e != api.OK || l.Room() != 127 {
			t.Fatal(p, e, l.Room())
		}
		if e := l.Commit(x, nil); e != api.OK || l.Room() != 0 || l.Next() != 3 {
			t.Fatal(p, e, l.Room(), l.Next())
		}
	}
}

// P9.4: what remains behind some transactions is taken to the last slot, and not beyond it.
func TestJustWhatRemains(t *testing.T) {
	g := small(t)
	for left := 1; left < 30; left++ {
		d := opened(t, begun(g, 50, 1))
		l := logOf(t, d, g)
		for l.Room() > left {
			if e := l.Commit(api.Txn{}, nil); e != api.OK {
				t.Fatal(e)
			}
		}
		var x api.Txn
		for b := 130; Size(x) <= left; b++ {
			x.Changes = append(x.Changes, changesOf(1, b)...)
		}
		refusedCommit(t, d, l, x, nil, api.ErrLog)
		x.Changes = x.Changes[:len(x.Changes)-1]
		for l.Room() > Size(x) {
			if e := l.Commit(api.Txn{}, nil); e != api.OK {
				t.Fatal(e)
			}
		}
		if e := l.Commit(x, nil); e != api.OK || l.Room() != 0 {
			t.Error(left, e, l.Room())
		}
		all, e := Replay(d, g)
		if e != api.OK || len(all) == 0 || !sameTxns(all[len(all)-1:], []api.Txn{x}) {
			t.Error(left, len(all), e)
		}
	}
}

// P9.4, P9.2: transactions that begin in each slot, so that some go round, each part in turn.
func TestRound(t *testing.T) {
	g := small(t)
	x := []api.Txn{{Changes: changesOf(1, 0, 180, 190)}, {}, {Changes: changesOf(2, 180, 255), Revokes: []int{129, 190}}}
	for p := range 127 {
		image := begun(g, p, 90)
		d, w := opened(t, image), twinOf(image)
		l := logOf(t, d, g)
		at := p
		for i, x := range x {
			if e := l.Commit(x, changesOf(9, 140+i)); e != api.OK {
				t.Fatal(p, e)
			}
			w.take(committing(g, at, 90+uint64(i), x, changesOf(9, 140+i))...)
			at += len(story(x, 0))
		}
		w.holds(t, d, p)
		if m := logOf(t, d, g); m.Room() != 127-(at-p) || m.Next() != 93 {
			t.Error(p, m.Room(), m.Next())
		}
		got, e := Replay(d, g)
		w.take(replaying(g, x, at, 93)...)
		w.holds(t, d, p)
		if !sameTxns(got, x) || e != api.OK {
			t.Error(p, got, e)
		}
	}
}

// P9.2 to P9.5: behind 2^64 - 1 comes 0.
func TestGreatestNumber(t *testing.T) {
	g := small(t)
	image := begun(g, 125, math.MaxUint64-1)
	d, w := opened(t, image), twinOf(image)
	l := logOf(t, d, g)
	x := []api.Txn{{Changes: changesOf(1, 180)}, {Revokes: []int{180}}, {Changes: changesOf(3, 180, 181)}, {}}
	seqs := []uint64{math.MaxUint64 - 1, math.MaxUint64, 0, 1}
	p := 125
	for i, x := range x {
		if l.Next() != seqs[i] {
			t.Error(i, l.Next())
		}
		if e := l.Commit(x, nil); e != api.OK {
			t.Fatal(e)
		}
		w.take(committing(g, p, seqs[i], x, nil)...)
		p += len(story(x, 0))
		if m := logOf(t, d, g); l.Next() != seqs[i]+1 || m.Next() != l.Next() || m.Room() != l.Room() {
			t.Error(i, l.Next(), m.Next(), m.Room(), l.Room())
		}
	}
	w.holds(t, d)
	got, e := Replay(d, g)
	w.take(replaying(g, x, p, 2)...)
	w.holds(t, d)
	if !sameTxns(got, x) || e != api.OK {
		t.Error(got, e)
	}
	d = opened(t, begun(g, 3, math.MaxUint64, ended(math.MaxUint64)...))
	if e := logOf(t, d, g).Checkpoint(); e != api.OK {
		t.Error(e)
	}
	if s, _ := d.Read(1); s != headOf(4, 0) {
		t.Errorf("%q", s)
	}
}

// P9.4, P9.6: data that begins like a record, or is one, is masked in the log, and had back as it was.
func TestMasked(t *testing.T) {
	g := small(t)
	datas := []string{
		"GLJw" + some(4)[4:], padded("GLJw"), strings.Repeat("GLJw", 32), headOf(0, 1), headOf(3, 6), descOf(5, "", 200),
		revokeOf(5, 200), commitOf(5), commitOf(6), padded("GLJ"), "\x00" + headOf(0, 1)[:127], zero, padded("\x00\x00\x00\x00GLJw"), full("\xff"),
	}
	for i, data := range datas {
		for j, other := range datas {
			x := api.Txn{Changes: []api.Change{{Block: 180, Data: data}, {Block: 190, Data: other}}, Revokes: []int{200}}
			image := begun(g, 126, 5)
			d, w := opened(t, image), twinOf(image)
			l := logOf(t, d, g)
			if e := l.Commit(x, []api.Change{{Block: 210, Data: data}}); e != api.OK {
				t.Fatal(i, j, e)
			}
			w.take(committing(g, 126, 5, x, []api.Change{{Block: 210, Data: data}})...)
			w.holds(t, d, i, j)
			got, e := Replay(d, g)
			w.take(replaying(g, []api.Txn{x}, 126+5, 6)...)
			w.holds(t, d, i, j)
			if !sameTxns(got, []api.Txn{x}) || e != api.OK {
				t.Error(i, j, got, e)
			}
		}
	}
}

// R4: arguments stay as they were, and what is changed in them behind the call changes nothing.
func TestArguments(t *testing.T) {
	g := small(t)
	changes, data := changesOf(1, 180, 190, 7, 7), changesOf(2, 200, 7, 7)
	revokes := []int{150, 151, 7, 7}
	x := api.Txn{Changes: changes[:2], Revokes: revokes[:2]}
	image := begun(g, 0, 1)
	d, w := opened(t, image), twinOf(image)
	l := logOf(t, d, g)
	if e := l.Commit(x, data[:1]); e != api.OK {
		t.Fatal(e)
	}
	if !slices.Equal(changes, changesOf(1, 180, 190, 7, 7)) || !slices.Equal(data, changesOf(2, 200, 7, 7)) || !slices.Equal(revokes, []int{150, 151, 7, 7}) {
		t.Error(changes, data, revokes)
	}
	want := api.Txn{Changes: changesOf(1, 180, 190), Revokes: []int{150, 151}}
	changes[0].Block, changes[1].Data, revokes[0] = 5, "x", 5
	if e := l.Commit(api.Txn{}, nil); e != api.OK {
		t.Error(e)
	}
	w.take(committing(g, 0, 1, want, changesOf(2, 200))...)
	w.take(committing(g, 5, 2, api.Txn{}, nil)...)
	w.holds(t, d)
}

// R2, R4: lists that are returned are new ones, and changing them, or adding to them, changes nothing else.
func TestReturned(t *testing.T) {
	g := small(t)
	x := []api.Txn{
		{Changes: changesOf(1, 180, 190, 200), Revokes: []int{150, 151, 152}},
		{Changes: changesOf(2, 181), Revokes: []int{153}},
	}
	image := begun(g, 9, 4, slices.Concat(story(x[0], 4), story(x[1], 5))...)
	d := opened(t, image)
	got, e := Replay(d, g)
	again, f := Replay(opened(t, image), g)
	if e != api.OK || f != api.OK {
		t.Fatal(e, f)
	}
	for i := range got {
		_ = append(got[i].Changes, changesOf(3, 7, 7, 7)...)
		_ = append(got[i].Revokes, 7, 7, 7)
	}
	if !sameTxns(got, x) {
		t.Error(got)
	}
	for i := range got {
		got[i].Changes[0] = api.Change{}
		got[i].Revokes[0] = 7
	}
	got[1] = api.Txn{}
	if !sameTxns(again, x) {
		t.Error(again)
	}
	w := twinOf(image)
	w.take(replaying(g, x, 9+len(story(x[0], 4))+len(story(x[1], 5)), 6)...)
	w.holds(t, d)
}

// P9.2 to P9.5: a long life of logs, whose every act is held against the chapter's, over many rounds of the ring.
func TestLongLife(t *testing.T) {
	from := rand.New(rand.NewSource(9))
	for _, g := range []api.Geometry{small(t), layout(t, 400, 150, 20)} {
		p, seq, left := 0, uint64(1), g.Log-1
		d := opened(t, begun(g, 0, 0))
		if e := Format(d, g); e != api.OK {
			t.Fatal(e)
		}
		w := twinOf(d.Kept())
		l := logOf(t, d, g)
		var all []api.Txn
		for range 1200 {
			switch from.Intn(12) {
			case 0:
				if e := l.Checkpoint(); e != api.OK {
					t.Fatal(e)
				}
				if len(all) > 0 {
					w.take(checkpointing(g, p, seq)...)
				}
				all, left = nil, g.Log-1
			case 1:
				got, e := Replay(d, g)
				if e != api.OK || !sameTxns(got, all) {
					t.Fatal(got, e)
				}
				if len(all) > 0 {
					w.take(replaying(g, all, p, seq)...)
				}
				all, left = nil, g.Log-1
				l = logOf(t, d, g)
			case 2:
				l = logOf(t, d, g)
			default:
				x, data := someTxn(from, g, 40), someTxn(from, g, 5).Changes
				n := len(story(x, 0))
				want := api.OK
				if n > left {
					want = api.ErrLog
				} else {
					w.take(committing(g, p, seq, x, data)...)
					all, p, seq, left = append(all, x), p+n, seq+1, left-n
				}
				if e := l.Commit(x, data); e != want {
					t.Fatal(e, want)
				}
			}
			if l.Room() != left || l.Next() != seq {
				t.Fatal(l.Room(), l.Next(), left, seq)
			}
			w.holds(t, d)
		}
		if p < 10*g.Log {
			t.Error("the ring did not go round often:", p)
		}
	}
}
