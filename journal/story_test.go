package journal

import (
	"hash/crc32"
	"math/rand"
	"slices"
	"strings"
	"testing"

	"glissade/api"
	"glissade/device"
	"glissade/geometry"
)

// full is a block of 128 of one letter.
func full(letter string) string { return strings.Repeat(letter, 128) }

var zero = full("\x00")

// some is a block whose bytes differ from their neighbours, another one for each n below 2^16; it begins like no record.
func some(n int) string {
	b := make([]byte, 128)
	for i := range b {
		b[i] = byte(i*7 + n)
	}
	b[3], b[127] = byte(n>>8), byte(n)
	return string(b)
}

// padded is a block that begins with such bytes, and goes on with zeros.
func padded(begin string) string { return begin + strings.Repeat("\x00", 128-len(begin)) }

// low is the lowest bytes of a number, the lowest one first, told by divisions.
func low(n uint64, bytes int) string {
	var b strings.Builder
	for range bytes {
		b.WriteByte(byte(n % 256))
		n /= 256
	}
	return b.String()
}

// numbers is a count and two bytes of each home.
func numbers(homes []int) string {
	s := low(uint64(len(homes)), 1)
	for _, h := range homes {
		s += low(uint64(h), 2)
	}
	return s
}

// headOf, descOf, revokeOf and commitOf are the blocks of records, byte by byte; nothing in them need be valid.
func headOf(at int, seq uint64) string {
	return padded("GLJw\x01" + low(seq, 8) + low(uint64(at), 2))
}

func descOf(seq uint64, masked string, homes ...int) string {
	s := "GLJw\x02" + low(seq, 8) + numbers(homes)
	return padded(s + (masked + strings.Repeat("\x00", len(homes)))[:len(homes)])
}

func revokeOf(seq uint64, homes ...int) string {
	return padded("GLJw\x03" + low(seq, 8) + numbers(homes))
}

func commitOf(seq uint64, before ...string) string {
	sum := crc32.ChecksumIEEE([]byte(strings.Join(before, "")))
	return padded("GLJw\x04" + low(seq, 8) + low(uint64(sum), 4))
}

// ended is blocks and the commit record that belongs to them.
func ended(seq uint64, before ...string) []string {
	return append(slices.Clone(before), commitOf(seq, before...))
}

// story is the blocks of a transaction as the chapter tells them.
func story(x api.Txn, seq uint64) []string {
	var l []string
	for i := 0; i < len(x.Revokes); i += 28 {
		l = append(l, revokeOf(seq, x.Revokes[i:min(i+28, len(x.Revokes))]...))
	}
	for i := 0; i < len(x.Changes); i += 24 {
		var homes []int
		var masked string
		var datas []string
		for _, c := range x.Changes[i:min(i+24, len(x.Changes))] {
			homes = append(homes, c.Block)
			if strings.HasPrefix(c.Data, "GLJw") {
				masked += "\x01"
				datas = append(datas, "\x00\x00\x00\x00"+c.Data[4:])
			} else {
				masked += "\x00"
				datas = append(datas, c.Data)
			}
		}
		l = append(l, descOf(seq, masked, homes...))
		l = append(l, datas...)
	}
	return ended(seq, l...)
}

// flush stands for a step's block where the step is no write.
const flush = -1

// step is an act of a device.
type step struct {
	block int
	data  string
}

// settle is a flush.
var settle = step{block: flush}

// slotAt is the block of slot p, however often that goes round.
func slotAt(g api.Geometry, p int) int { return 2 + p%(g.Log-1) }

// formatting, committing, checkpointing and replaying are the steps that the chapter asks of these functions.
func formatting(g api.Geometry) []step {
	var l []step
	for p := range g.Log - 1 {
		l = append(l, step{2 + p, zero})
	}
	return append(l, settle, step{1, headOf(0, 1)}, settle)
}

func committing(g api.Geometry, p int, seq uint64, x api.Txn, data []api.Change) []step {
	var l []step
	for _, c := range data {
		l = append(l, step{c.Block, c.Data})
	}
	blocks := story(x, seq)
	for i, s := range blocks {
		if i == len(blocks)-1 {
			l = append(l, settle)
		}
		l = append(l, step{slotAt(g, p+i), s})
	}
	return append(l, settle)
}

func checkpointing(g api.Geometry, p int, seq uint64) []step {
	return []step{settle, {1, headOf(p%(g.Log-1), seq)}, settle}
}

func replaying(g api.Geometry, l []api.Txn, p int, seq uint64) []step {
	var steps []step
	for _, c := range effect(g, l) {
		steps = append(steps, step{c.Block, c.Data})
	}
	return append(steps, settle, step{1, headOf(p%(g.Log-1), seq)}, settle)
}

// effect is the net effect, block by block: the last change, if it is of a later transaction than the last one that revokes the block.
func effect(g api.Geometry, l []api.Txn) []api.Change {
	var out []api.Change
	for b := range g.Blocks {
		revoked, changed, data := -1, -1, ""
		for i, x := range l {
			if slices.Contains(x.Revokes, b) {
				revoked = i
			}
			for _, c := range x.Changes {
				if c.Block == b {
					changed, data = i, c.Data
				}
			}
		}
		if changed > revoked {
			out = append(out, api.Change{Block: b, Data: data})
		}
	}
	return out
}

// isHome tells whether b is a home block.
func isHome(g api.Geometry, b int) bool {
	where := geometry.Where(g, b)
	return where >= 0 && where != 1
}

// headAt is the slot at which an image's header says that the log begins.
func headAt(image string) int { return int(image[128+13]) + 256*int(image[128+14]) }

// found is the transactions of the log in an image, how many slots they leave and the number that follows; it tries for each transaction every length that is left.
func found(g api.Geometry, image string) (l []api.Txn, left int, seq uint64) {
	p := headAt(image)
	left = g.Log - 1
	for i := 12; i > 4; i-- {
		seq = seq<<8 + uint64(image[128+i])
	}
	for n := 1; n <= left; n++ {
		var blocks []string
		for i := range n {
			b := slotAt(g, p+i)
			blocks = append(blocks, image[b*128:b*128+128])
		}
		if x, ok := told(g, blocks, seq); ok {
			l = append(l, x)
			p, left, seq, n = p+n, left-n, seq+1, 0
		}
	}
	return l, left, seq
}

// told is the transaction whose blocks these are, and whether they are one's.
func told(g api.Geometry, blocks []string, seq uint64) (x api.Txn, ok bool) {
	last := len(blocks) - 1
	if blocks[last] != commitOf(seq, blocks[:last]...) {
		return x, false
	}
	for i := 0; i < last; i++ {
		s := blocks[i]
		count := int(s[13])
		var homes []int
		for k := 14; k < 14+2*count && k < 126; k += 2 {
			h := int(s[k]) + 256*int(s[k+1])
			if !isHome(g, h) || len(homes) > 0 && h <= homes[len(homes)-1] {
				return x, false
			}
			homes = append(homes, h)
		}
		if s == revokeOf(seq, homes...) && 1 <= count && count <= 28 {
			x.Revokes = append(x.Revokes, homes...)
			continue
		}
		if count < 1 || count > 24 || i+count >= last {
			return x, false
		}
		masked := s[14+2*count : 14+3*count]
		if s != descOf(seq, masked, homes...) || strings.Trim(masked, "\x00\x01") != "" {
			return x, false
		}
		for k, h := range homes {
			data := blocks[i+1+k]
			if masked[k] == 1 {
				data = "GLJw" + data[4:]
			}
			x.Changes = append(x.Changes, api.Change{Block: h, Data: data})
		}
		i += count
	}
	return x, true
}

// sameTxns holds lists of transactions against each other; a list may be nil or empty.
func sameTxns(a, b []api.Txn) bool {
	return slices.EqualFunc(a, b, func(x, y api.Txn) bool {
		return slices.Equal(x.Changes, y.Changes) && slices.Equal(x.Revokes, y.Revokes)
	})
}

// twin is a device as its chapter tells it.
type twin struct {
	now, kept []string
	pending   []int
}

func twinOf(image string) *twin {
	w := &twin{}
	for b := range len(image) / 128 {
		w.now = append(w.now, image[b*128:b*128+128])
	}
	w.kept = slices.Clone(w.now)
	return w
}

func (w *twin) take(steps ...step) {
	for _, s := range steps {
		if s.block == flush {
			w.kept, w.pending = slices.Clone(w.now), nil
			continue
		}
		w.now[s.block] = s.data
		w.pending = slices.Compact(slices.Sorted(slices.Values(append(w.pending, s.block))))
	}
}

// holds tells whether a device has what its twin has.
func (w *twin) holds(t *testing.T, d *device.Device, what ...any) {
	t.Helper()
	for b, want := range w.now {
		if s, e := d.Read(b); s != want || e != api.OK {
			t.Fatalf("%v: block %d has %q, %v, wanted %q", what, b, s, e, want)
		}
	}
	if d.Kept() != strings.Join(w.kept, "") || !slices.Equal(d.Pending(), w.pending) {
		t.Fatalf("%v: pending are %v, wanted %v", what, d.Pending(), w.pending)
	}
}

// opened is a device with an image.
func opened(t *testing.T, image string) *device.Device {
	t.Helper()
	d, e := device.Open(image)
	if e != api.OK {
		t.Fatal(e)
	}
	return d
}

// layout is that of three numbers.
func layout(t *testing.T, blocks, log, inodes int) api.Geometry {
	t.Helper()
	g, e := geometry.Of(blocks, log, inodes)
	if e != api.OK {
		t.Fatal(e)
	}
	return g
}

// small is the layout of the chapter's examples: the log is blocks 1 to 128, and 0 and 129 to 255 are homes.
func small(t *testing.T) api.Geometry { return layout(t, 256, 128, 8) }

// with is an image with other blocks from slot p on.
func with(g api.Geometry, image string, p int, blocks ...string) string {
	w := twinOf(image)
	for i, s := range blocks {
		w.now[slotAt(g, p+i)] = s
	}
	return strings.Join(w.now, "")
}

// begun is an image that has no two blocks the same, whose header tells slot p and a number, and these blocks from there on.
func begun(g api.Geometry, p int, seq uint64, blocks ...string) string {
	var l []string
	for b := range g.Blocks {
		l = append(l, some(b+10000))
	}
	l[1] = headOf(p, seq)
	return with(g, strings.Join(l, ""), p, blocks...)
}

// logOf is the log of a device.
func logOf(t *testing.T, d *device.Device, g api.Geometry) *Log {
	t.Helper()
	l, e := Open(d, g)
	if e != api.OK || l == nil {
		t.Fatal(l, e)
	}
	return l
}

// inTurn lets the device fail at each act in turn, and holds what it has then against the first ones of the steps. What begin does comes ahead of that.
func inTurn(t *testing.T, image string, steps []step, begin func(d *device.Device) func() api.Errno) {
	t.Helper()
	for n := -1; n < len(steps)+2; n++ {
		d := opened(t, image)
		call := begin(d)
		before := d.Acts()
		d.Arm(n)
		want, taken := api.OK, len(steps)
		if n >= 0 && n < len(steps) {
			want, taken = api.ErrDead, n
		}
		if e := call(); e != want || d.Acts()-before != taken {
			t.Fatalf("armed to %d: %v and %d acts, wanted %v and %d", n, e, d.Acts()-before, want, taken)
		}
		w := twinOf(image)
		w.take(steps[:taken]...)
		w.holds(t, d, "armed to", n)
	}
}

// changesOf is changes of these blocks, of some data.
func changesOf(n int, blocks ...int) []api.Change {
	var l []api.Change
	for _, b := range blocks {
		l = append(l, api.Change{Block: b, Data: some(n*300 + b)})
	}
	return l
}

// someTxn is a valid transaction in which some home blocks are changed and others revoked; some of the data look like records.
func someTxn(from *rand.Rand, g api.Geometry, most int) api.Txn {
	var x api.Txn
	for range from.Intn(most + 1) {
		b := from.Intn(g.Blocks)
		if from.Intn(2) == 0 {
			b = 140 + from.Intn(12)
		}
		has := slices.ContainsFunc(x.Changes, func(c api.Change) bool { return c.Block == b })
		if !isHome(g, b) || has || slices.Contains(x.Revokes, b) {
			continue
		}
		if from.Intn(3) == 0 {
			x.Revokes = append(x.Revokes, b)
		} else {
			x.Changes = append(x.Changes, api.Change{Block: b, Data: someData(from)})
		}
	}
	slices.Sort(x.Revokes)
	slices.SortFunc(x.Changes, func(a, b api.Change) int { return a.Block - b.Block })
	return x
}

// someData is a block, now and then one that is a record's, or begins like one.
func someData(from *rand.Rand) string {
	switch from.Intn(6) {
	case 0:
		return commitOf(uint64(from.Intn(4)))
	case 1:
		return "GLJw" + some(from.Intn(1 << 16))[4:]
	case 2:
		return descOf(1, "", 200)
	}
	return some(from.Intn(1 << 16))
}
