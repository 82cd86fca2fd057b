package journal

import (
	"math/rand"
	"slices"
	"testing"

	"glissade/api"
)

// reads holds what Open and Replay make of an image against the transactions that are present, and against the chapter's acts, one by one.
func reads(t *testing.T, g api.Geometry, image string, want []api.Txn, what ...any) {
	t.Helper()
	l, left, seq := found(g, image)
	if !sameTxns(l, want) {
		t.Fatalf("%v: the chapter says otherwise: %v, not %v", what, l, want)
	}
	var steps []step
	if len(want) > 0 {
		steps = replaying(g, want, headAt(image)+g.Log-1-left, seq)
	}
	for n := -1; n <= len(steps); n++ {
		d, w := opened(t, image), twinOf(image)
		log := logOf(t, d, g)
		if log.Room() != left || log.Next() != seq || d.Acts() != 0 {
			t.Fatalf("%v: room %d, next %d, wanted %d, %d", what, log.Room(), log.Next(), left, seq)
		}
		d.Arm(n)
		got, e := Replay(d, g)
		if 0 <= n && n < len(steps) {
			w.take(steps[:n]...)
			if got != nil || e != api.ErrDead {
				t.Fatalf("%v: armed to %d: %v, %v", what, n, got, e)
			}
		} else {
			w.take(steps...)
			if !sameTxns(got, want) || e != api.OK || d.Acts() != len(steps) {
				t.Fatalf("%v: armed to %d: %v, %v, %d acts", what, n, got, e, d.Acts())
			}
		}
		w.holds(t, d, what, "armed to", n)
	}
}

// P9.2: what is present is read in the order in which it stands, whatever Commit would have written.
func TestPresent(t *testing.T) {
	g := small(t)
	a, b, c := some(1), some(2), some(3)
	record := commitOf(5)
	for _, x := range []struct {
		what   string
		blocks []string
		want   []api.Txn
	}{
		{"the commit record alone", ended(5), []api.Txn{{}}},
		{"one change", ended(5, descOf(5, "", 180), a), []api.Txn{{Changes: []api.Change{{Block: 180, Data: a}}}}},
		{"one revoke", ended(5, revokeOf(5, 180)), []api.Txn{{Revokes: []int{180}}}},
		{"the changes first", ended(5, descOf(5, "", 180), a, revokeOf(5, 181)),
			[]api.Txn{{Changes: []api.Change{{Block: 180, Data: a}}, Revokes: []int{181}}}},
		{"in turn", ended(5, descOf(5, "", 190), a, revokeOf(5, 150), descOf(5, "", 180, 200), b, c, revokeOf(5, 140, 160)),
			[]api.Txn{{Changes: []api.Change{{Block: 190, Data: a}, {Block: 180, Data: b}, {Block: 200, Data: c}}, Revokes: []int{150, 140, 160}}}},
		{"one block twice", ended(5, descOf(5, "", 180), a, descOf(5, "", 180), b, revokeOf(5, 150), revokeOf(5, 150)),
			[]api.Txn{{Changes: []api.Change{{Block: 180, Data: a}, {Block: 180, Data: b}}, Revokes: []int{150, 150}}}},
		{"changed and revoked", ended(5, revokeOf(5, 180), descOf(5, "", 180, 181), a, b),
			[]api.Txn{{Changes: []api.Change{{Block: 180, Data: a}, {Block: 181, Data: b}}, Revokes: []int{180}}}},
		{"changed, revoked and changed", ended(5, descOf(5, "", 180), a, revokeOf(5, 180), descOf(5, "", 180), b),
			[]api.Txn{{Changes: []api.Change{{Block: 180, Data: a}, {Block: 180, Data: b}}, Revokes: []int{180}}}},
		{"masked", ended(5, descOf(5, "\x01\x00\x01", 180, 181, 182), padded(""), b, c),
			[]api.Txn{{Changes: []api.Change{{Block: 180, Data: padded("GLJw")}, {Block: 181, Data: b}, {Block: 182, Data: "GLJw" + c[4:]}}}}},
		{"a record that is not masked", ended(5, descOf(5, "", 180), record),
			[]api.Txn{{Changes: []api.Change{{Block: 180, Data: record}}}}},
		{"the first and the last homes", ended(5, descOf(5, "", 0, 129, 255), a, b, c, revokeOf(5, 0, 129, 255)),
			[]api.Txn{{Changes: []api.Change{{Block: 0, Data: a}, {Block: 129, Data: b}, {Block: 255, Data: c}}, Revokes: []int{0, 129, 255}}}},
		{"two", slices.Concat(ended(5, revokeOf(5, 180)), ended(6)), []api.Txn{{Revokes: []int{180}}, {}}},
		{"many", slices.Concat(ended(5), ended(6), ended(7, revokeOf(7, 3+180)), ended(8)), []api.Txn{{}, {}, {Revokes: []int{183}}, {}}},
	} {
		for _, p := range []int{0, 50, 124, 126} {
			reads(t, g, begun(g, p, 5, x.blocks...), x.want, x.what, p)
		}
	}
}

// P9.2: what is not present ends the log; one transaction ahead of it is there, and what comes behind it is not.
func TestNotPresent(t *testing.T) {
	g := small(t)
	a, b := some(1), some(2)
	ahead := story(api.Txn{Changes: changesOf(1, 180, 190)}, 5)
	good := ended(6, revokeOf(6, 150), descOf(6, "", 160, 170), a, b)
	wrongSum := padded("GLJw\x04" + low(6, 8) + low(1, 4))
	for what, blocks := range map[string][]string{
		"nothing":                        nil,
		"zeros":                          {zero, zero},
		"no commit record":               good[:4],
		"a sum that is another one":      append(good[:4:4], wrongSum),
		"the sum of an empty one":        append(good[:4:4], commitOf(6)),
		"the sum with the commit record": append(good[:4:4], commitOf(6, good...)),
		"an empty one's other sum":       {wrongSum},
		"the number of the one ahead":    ended(5, revokeOf(5, 150)),
		"the number behind":              ended(7, revokeOf(7, 150)),
		"an empty one of another number": ended(7),
		"number 0":                       ended(0),
		"a high byte of the number":      ended(6 + 1<<56),
		"a revoke of another number":     ended(6, revokeOf(5, 150), descOf(6, "", 160), a),
		"a descriptor of another number": ended(6, revokeOf(6, 150), descOf(7, "", 160), a),
		"a commit of another number":     append(good[:4:4], commitOf(7, good[:4]...)),
		"a header":                       ended(6, headOf(0, 6), revokeOf(6, 150)),
		"a header at the end":            ended(6, revokeOf(6, 150), headOf(0, 6)),
		"a header alone":                 {headOf(0, 6)},
		"data without a descriptor":      ended(6, a),
		"more data than homes":           ended(6, descOf(6, "", 160), a, b),
		"fewer data than homes":          ended(6, descOf(6, "", 160, 170, 175), a, b),
		"a descriptor without data":      ended(6, descOf(6, "", 160)),
		"a home in the log":              ended(6, descOf(6, "", 100), a),
		"the header as a home":           ended(6, descOf(6, "", 1), a),
		"the last slot as a home":        ended(6, descOf(6, "", 0, 128), a, b),
		"a home beyond the device":       ended(6, descOf(6, "", 160, 256), a, b),
		"a home far beyond the device":   ended(6, descOf(6, "", 160, 4095), a, b),
		"a revoke in the log":            ended(6, revokeOf(6, 0, 64), descOf(6, "", 160), a),
		"a revoke of the header":         ended(6, revokeOf(6, 1)),
		"a revoke of the last slot":      ended(6, revokeOf(6, 128, 129)),
		"a revoke beyond the device":     ended(6, revokeOf(6, 150, 256)),
		"homes that descend":             ended(6, descOf(6, "", 170, 160), a, b),
		"homes that are equal":           ended(6, revokeOf(6, 150, 150)),
		"no homes":                       ended(6, revokeOf(6), descOf(6, "", 160), a),
		"a record with a byte too many":  ended(6, revokeOf(6, 150)[:127]+"\x01"),
		"a commit with a byte too many":  append(good[:4:4], commitOf(6, good[:4]...)[:127]+"\x01"),
		"masked by 2":                    ended(6, descOf(6, "\x02", 160), a),
		"a masked descriptor":            ended(6, padded("\x00\x00\x00\x00"+descOf(6, "", 160)[4:]), a),
	} {
		for _, p := range []int{0, 60, 119, 126} {
			behind := slices.Concat(ahead, blocks, ended(7, revokeOf(7, 140)))
			reads(t, g, begun(g, p, 5, behind...), []api.Txn{{Changes: changesOf(1, 180, 190)}}, what, p)
			reads(t, g, begun(g, p, 6, slices.Concat(blocks, ended(7))...), nil, what, p, "alone")
		}
	}
	reads(t, g, begun(g, 60, 5, slices.Concat(ahead, good)...), []api.Txn{
		{Changes: changesOf(1, 180, 190)},
		{Changes: []api.Change{{Block: 160, Data: a}, {Block: 170, Data: b}}, Revokes: []int{150}},
	}, "the good one")
}

// P9.2: the sum is that of the blocks as they stand in the ring.
func TestSumOfMasked(t *testing.T) {
	g := small(t)
	data := "GLJw" + some(1)[4:]
	desc := descOf(5, "\x01", 180)
	stands := "\x00\x00\x00\x00" + data[4:]
	want := []api.Txn{{Changes: []api.Change{{Block: 180, Data: data}}}}
	reads(t, g, begun(g, 0, 5, desc, stands, commitOf(5, desc, stands)), want)
	reads(t, g, begun(g, 0, 5, desc, stands, commitOf(5, desc, data)), nil)
}

// P9.2: a transaction takes no more than the slots that remain, even where what it would go on with stands there.
func TestRemaining(t *testing.T) {
	g := small(t)
	// Of the second one, the descriptor is in the last slot; its data and its commit record are the first one's descriptor and data.
	first := descOf(1, "", 180)
	last := descOf(2, "", 190)
	for _, p := range []int{0, 31, 126} {
		blocks := []string{first, commitOf(2, last, first)}
		want := api.Txn{Changes: []api.Change{{Block: 180, Data: commitOf(2, last, first)}}}
		for len(blocks) < 125 {
			blocks = append(blocks, revokeOf(1, 200))
			want.Revokes = append(want.Revokes, 200)
		}
		blocks = append(ended(1, blocks...), last)
		reads(t, g, begun(g, p, 1, blocks...), []api.Txn{want}, p)
		// The one slot that remains is enough for an empty one.
		full := append(ended(1, blocks[:125]...), ended(2)...)
		reads(t, g, begun(g, p, 1, full...), []api.Txn{want, {}}, p, "full")
	}
	// A ring without an end.
	for _, block := range []string{revokeOf(1, 200), descOf(1, "", 200), headOf(0, 1), commitOf(1, "x")} {
		reads(t, g, begun(g, 5, 1, slices.Repeat([]string{block}, 127)...), nil, block)
	}
	// Data of the last descriptor would be behind the last slot that remains, and the commit record, too.
	var blocks []string
	for len(blocks) < 120 {
		blocks = append(blocks, revokeOf(1, 200))
	}
	for n := range 9 {
		tail := []string{descOf(1, "", []int{210, 211, 212, 213, 214, 215, 216, 217}[:max(n, 1)]...)}
		for i := range n {
			tail = append(tail, some(i))
		}
		all := ended(1, slices.Concat(blocks, tail)...)
		want := []api.Txn{{Revokes: slices.Repeat([]int{200}, 120)}}
		for i := range n {
			want[0].Changes = append(want[0].Changes, api.Change{Block: 210 + i, Data: some(i)})
		}
		if n == 0 || len(all) > 127 {
			want = nil
		}
		reads(t, g, begun(g, 70, 1, all[:min(len(all), 127)]...), want, n)
	}
}

// unended is a transaction's blocks without the commit record.
func unended(x api.Txn, seq uint64) []string {
	l := story(x, seq)
	return l[:len(l)-1]
}

// P9.2: the net effect of blocks with which any of five things is done in each of three transactions: nothing; changed; revoked; changed twice; changed and revoked.
func TestNetEffect(t *testing.T) {
	g := layout(t, 1024, 512, 8)
	var want []api.Txn
	var blocks []string
	for i, every := range []int{1, 5, 25} {
		var first, again []api.Change
		var revoked []int
		for k := range 125 {
			b := 600 + 3*k
			done := k / every % 5
			if done == 1 || done == 3 || done == 4 {
				first = append(first, changesOf(i, b)...)
			}
			if done == 3 {
				again = append(again, changesOf(i+10, b)...)
			}
			if done == 2 || done == 4 {
				revoked = append(revoked, b)
			}
		}
		seq := uint64(20 + i)
		parts := [][]string{unended(api.Txn{Changes: first}, seq), unended(api.Txn{Changes: again}, seq)}
		parts = slices.Insert(parts, i, unended(api.Txn{Revokes: revoked}, seq))
		blocks = append(blocks, ended(seq, slices.Concat(parts...)...)...)
		want = append(want, api.Txn{Changes: slices.Concat(first, again), Revokes: revoked})
	}
	if n := len(effect(g, want)); n < 50 || n > 100 {
		t.Fatal("so many of 125:", n)
	}
	reads(t, g, begun(g, 400, 20, blocks...), want)
}

// P9.2: a revoke holds for what is ahead of it and beside it, and for nothing behind it.
func TestRevoked(t *testing.T) {
	g := small(t)
	first, second := changesOf(1, 180), changesOf(2, 180)
	for _, x := range []struct {
		l    []api.Txn
		want string
	}{
		{[]api.Txn{{Changes: first}}, first[0].Data},
		{[]api.Txn{{Changes: first}, {Changes: second}}, second[0].Data},
		{[]api.Txn{{Changes: first}, {Revokes: []int{180}}}, ""},
		{[]api.Txn{{Revokes: []int{180}}, {Changes: first}}, first[0].Data},
		{[]api.Txn{{Changes: first}, {Revokes: []int{180}}, {Changes: second}}, second[0].Data},
		{[]api.Txn{{Changes: first}, {Changes: second}, {Revokes: []int{180}}}, ""},
		{[]api.Txn{{Changes: first}, {Revokes: []int{181}}, {}}, first[0].Data},
		{[]api.Txn{{Revokes: []int{180}}, {}, {Revokes: []int{180}}}, ""},
		{[]api.Txn{{Revokes: []int{180}}, {Changes: first}, {Revokes: []int{180}}, {Changes: second}, {}}, second[0].Data},
	} {
		image := begun(g, 120, 1)
		d := opened(t, image)
		l := logOf(t, d, g)
		want := image[180*128 : 181*128]
		if x.want != "" {
			want = x.want
		}
		for _, x := range x.l {
			if e := l.Commit(x, nil); e != api.OK {
				t.Fatal(e)
			}
		}
		image = d.Kept()
		reads(t, g, image, x.l, x.l)
		if got, e := Replay(d, g); !sameTxns(got, x.l) || e != api.OK {
			t.Error(x.l, got, e)
		}
		if s, _ := d.Read(180); s != want {
			t.Errorf("%v: %q, wanted %q", x.l, s, want)
		}
	}
}

// mixed is the blocks of a transaction whose records stand in any order, and name some blocks more than once.
func mixed(from *rand.Rand, g api.Geometry, seq uint64) []string {
	var l []string
	for range from.Intn(4) {
		l = append(l, unended(someTxn(from, g, 6), seq)...)
	}
	return ended(seq, l...)
}

// P9.2, P9.3: rings made by chance, some of whose bytes are others, are read as the chapter tells.
func TestRings(t *testing.T) {
	from := rand.New(rand.NewSource(92))
	g := small(t)
	present := 0
	for i := range 1000 {
		p, seq := from.Intn(127), uint64(from.Intn(5)-3)
		var blocks []string
		for n := range uint64(from.Intn(8)) {
			blocks = append(blocks, mixed(from, g, seq+n)...)
		}
		b := []byte(begun(g, p, seq, blocks[:min(len(blocks), 127)]...))
		for range max(0, from.Intn(6)-3) {
			b[2*128+from.Intn(127*128)] ^= 1 << from.Intn(8)
		}
		image := string(b)
		want, left, next := found(g, image)
		d, w := opened(t, image), twinOf(image)
		if l := logOf(t, d, g); l.Next() != next || l.Room() != left {
			t.Fatal(i, l.Next(), l.Room(), next, left)
		}
		if got, e := Replay(d, g); !sameTxns(got, want) || e != api.OK {
			t.Fatal(i, len(got), len(want), e)
		}
		if len(want) > 0 {
			w.take(replaying(g, want, p+127-left, next)...)
			present++
		}
		w.holds(t, d, i)
		if again, e := Replay(d, g); len(again) != 0 || e != api.OK {
			t.Fatal(i, len(again), e)
		}
		w.holds(t, d, i)
	}
	if present < 400 {
		t.Error("so few of them have transactions:", present)
	}
}

// R1, R2: whatever a device has, all functions return, and return it twice the same.
func TestAnything(t *testing.T) {
	from := rand.New(rand.NewSource(1))
	g := small(t)
	for i := range 400 {
		b := make([]byte, 256*128)
		from.Read(b)
		for s := range 128 {
			seq, home := uint64(from.Intn(2)), from.Intn(260)
			s := 128 * (s + 1)
			switch from.Intn(6) {
			case 0:
				copy(b[s:], headOf(from.Intn(130), seq))
			case 1:
				copy(b[s:], descOf(seq, "", home, home+1))
			case 2:
				copy(b[s:], revokeOf(seq, home))
			case 3:
				copy(b[s:], commitOf(seq))
			}
		}
		if i > 20 {
			copy(b[128:], headOf(from.Intn(127), uint64(from.Intn(2))))
		}
		x, y := opened(t, string(b)), opened(t, string(b))
		l, e := Open(x, g)
		m, f := Open(y, g)
		if e != f || l.Room() != m.Room() || l.Next() != m.Next() {
			t.Fatal(i, e, f)
		}
		for range 3 {
			got, e := Replay(x, g)
			again, f := Replay(y, g)
			if !sameTxns(got, again) || e != f || x.Crash(nil) != y.Crash(nil) {
				t.Fatal(i, e, f)
			}
		}
	}
}
