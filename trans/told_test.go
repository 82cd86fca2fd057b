package trans_test

import (
	"math/rand"
	"slices"
	"strings"
	"testing"

	"glissade/api"
	"glissade/device"
	"glissade/geometry"
	"glissade/journal"
	"glissade/trans"
)

// full is a block of 128 of one letter.
func full(letter string) string { return strings.Repeat(letter, 128) }

// some is a block whose bytes differ from their neighbours, another one for each n below 2^16; it begins like no record.
func some(n int) string {
	b := make([]byte, 128)
	for i := range b {
		b[i] = byte(i*7 + n)
	}
	b[3], b[127] = byte(n>>8), byte(n)
	return string(b)
}

// opened is a device with an image.
func opened(t *testing.T, image string) *device.Device {
	t.Helper()
	d, e := device.Open(image)
	if e != api.OK {
		t.Fatal(e)
	}
	return d
}

// layout is that of three numbers.
func layout(t *testing.T, blocks, log, inodes int) api.Geometry {
	t.Helper()
	g, e := geometry.Of(blocks, log, inodes)
	if e != api.OK {
		t.Fatal(e)
	}
	return g
}

// small is the layout of the chapter's examples: the log is blocks 1 to 128, and 0 and 129 to 255 are blocks.
func small(t *testing.T) api.Geometry { return layout(t, 256, 128, 8) }

// great is a layout with more blocks than the cache has buffers, and a log for the greatest transactions: 0 and 513 to 1535 are blocks.
func great(t *testing.T) api.Geometry { return layout(t, 1536, 512, 8) }

// formatted is a device of that layout with an empty log, of which no two other blocks are the same.
func formatted(t *testing.T, g api.Geometry) *device.Device {
	t.Helper()
	var l []string
	for b := range g.Blocks {
		l = append(l, some(b+10000))
	}
	d := opened(t, strings.Join(l, ""))
	if e := journal.Format(d, g); e != api.OK {
		t.Fatal(e)
	}
	return d
}

// What a block is used for.
const (
	asMeta = 1
	asData = 2
	mixed  = asMeta + asData
)

// inTurns uses blocks of even numbers for metadata and the others for data.
func inTurns(b int) int { return asMeta + b%2 }

// metaOnly uses all blocks for metadata.
func metaOnly(int) int { return asMeta }

// cell is a block as the chapter tells it.
type cell struct {
	data    string
	vague   bool // its bytes are unspecified
	use     int  // for what it was used since the last time that it was freed and a commit took place
	waits   bool
	revoked bool
	meta    bool // an ended act of the transaction wrote it as metadata
	metaNow bool // the act in progress did
	fresh   bool // the transaction, or the act in progress, wrote it as data
}

// told is a Trans as the chapter tells it, block by block.
type told struct {
	g     api.Geometry
	cells []cell
	begun []cell // the cells when the act in progress began, or nil if there is none
	sure  []cell // the cells of the last commit
	acts  bool
}

// toldOf is a Trans of a device with an image, whose blocks are used for that till they are freed.
func toldOf(g api.Geometry, image string, use func(b int) int) *told {
	w := &told{g: g}
	for b := range g.Blocks {
		w.cells = append(w.cells, cell{data: image[b*128 : b*128+128], use: use(b)})
	}
	w.sure = slices.Clone(w.cells)
	return w
}

func (w *told) isBlock(b int) bool { return b == 0 || b > w.g.Log && b < w.g.Blocks }

func (w *told) waits(b int) bool { return w.isBlock(b) && w.cells[b].waits }

func (w *told) size() (changed, waiting, revoked int) {
	for _, c := range w.cells {
		if c.meta || c.metaNow {
			changed++
		}
		if c.waits {
			waiting++
		}
		if c.revoked {
			revoked++
		}
	}
	return changed, waiting, revoked
}

func (w *told) begin() api.Errno {
	if w.begun != nil {
		return api.ErrArg
	}
	w.begun = slices.Clone(w.cells)
	return api.OK
}

func (w *told) drop() {
	if w.begun != nil {
		w.cells, w.begun = w.begun, nil
	}
}

func (w *told) end() api.Errno {
	if w.begun == nil {
		return api.ErrArg
	}
	if changed, _, _ := w.size(); changed > 255 {
		w.drop()
		return api.ErrPinned
	}
	for b := range w.cells {
		c := &w.cells[b]
		c.meta, c.metaNow = c.meta || c.metaNow, false
	}
	w.begun, w.acts = nil, true
	return api.OK
}

func (w *told) write(b int, data string, use int) api.Errno {
	if !w.isBlock(b) {
		return api.ErrBlock
	}
	if w.begun == nil || w.cells[b].waits || len(data) != 128 {
		return api.ErrArg
	}
	c := &w.cells[b]
	c.data, c.use = data, c.use|use
	c.vague = c.use == mixed
	c.metaNow = c.metaNow || use == asMeta
	c.fresh = c.fresh || use == asData
	return api.OK
}

func (w *told) free(b int, meta bool) api.Errno {
	if !w.isBlock(b) {
		return api.ErrBlock
	}
	if w.begun == nil || w.cells[b].waits {
		return api.ErrArg
	}
	c := w.cells[b]
	w.cells[b] = cell{data: c.data, vague: true, use: c.use, waits: true, revoked: meta || c.meta}
	return api.OK
}

// next is the cells that a commit would give.
func (w *told) next() []cell {
	var l []cell
	for _, c := range w.cells {
		if c.waits {
			l = append(l, cell{data: c.data, vague: true})
		} else {
			l = append(l, cell{data: c.data, vague: c.vague, use: c.use})
		}
	}
	return l
}

// logged is how many blocks of the log the transaction takes.
func (w *told) logged() int {
	changed, _, revoked := w.size()
	return (revoked+27)/28 + (changed+23)/24 + changed + 1
}

func (w *told) commit() api.Errno {
	if w.begun != nil {
		return api.ErrArg
	}
	if !w.acts {
		return api.OK
	}
	if w.logged() > w.g.Log-1 {
		return api.ErrLog
	}
	w.cells = w.next()
	w.sure = slices.Clone(w.cells)
	w.acts = false
	return api.OK
}

// fits tells whether an image has the blocks of one of the two states in which a crash may leave them: the one that is sure, in which data that was being committed may be there already, or the next one.
func (w *told) fits(image string, state []cell, committing bool) bool {
	for b, c := range state {
		now := w.cells[b]
		if !w.isBlock(b) || c.vague || now.use == mixed {
			continue
		}
		home := image[b*128 : b*128+128]
		if home != c.data && !(committing && now.fresh && home == now.data) {
			return false
		}
	}
	return true
}

// pair is a Trans, and the same as the chapter tells it. What is done is done to both, and must come to the same.
type pair struct {
	t *testing.T
	g api.Geometry
	d *device.Device
	x *trans.Trans
	w *told
}

// pairOf is a new Trans of a device whose log is empty.
func pairOf(t *testing.T, d *device.Device, g api.Geometry, use func(b int) int) *pair {
	t.Helper()
	x, e := trans.New(d, g)
	if e != api.OK || x == nil {
		t.Fatal(x, e)
	}
	now := d.Crash(slices.Repeat([]bool{true}, g.Blocks))
	return &pair{t: t, g: g, d: d, x: x, w: toldOf(g, now, use)}
}

// begun is a new Trans of a new device.
func begun(t *testing.T, g api.Geometry, use func(b int) int) *pair {
	t.Helper()
	return pairOf(t, formatted(t, g), g, use)
}

func (p *pair) same(got, want api.Errno, what ...any) api.Errno {
	p.t.Helper()
	if got != want {
		p.t.Fatalf("%v: %v, wanted %v", what, got, want)
	}
	p.sameSize(what...)
	return got
}

func (p *pair) sameSize(what ...any) {
	p.t.Helper()
	a, b, c := p.x.Size()
	if k, l, m := p.w.size(); a != k || b != l || c != m {
		p.t.Fatalf("%v: Size is %d, %d, %d, wanted %d, %d, %d", what, a, b, c, k, l, m)
	}
}

func (p *pair) sameWaits(b int, what ...any) {
	p.t.Helper()
	if got := p.x.Waits(b); got != p.w.waits(b) {
		p.t.Fatalf("%v: block %d waits: %v", what, b, got)
	}
}

func (p *pair) begin() api.Errno {
	p.t.Helper()
	return p.same(p.x.Begin(), p.w.begin(), "Begin")
}

func (p *pair) end() api.Errno {
	p.t.Helper()
	return p.same(p.x.End(), p.w.end(), "End")
}

func (p *pair) drop() {
	p.t.Helper()
	p.x.Drop()
	p.w.drop()
	p.sameSize("Drop")
}

func (p *pair) write(b int, data string) api.Errno {
	p.t.Helper()
	e := p.same(p.x.Write(b, data), p.w.write(b, data, asMeta), "Write", b)
	p.sameBytes(b)
	return e
}

func (p *pair) put(b int, data string) api.Errno {
	p.t.Helper()
	e := p.same(p.x.Put(b, data), p.w.write(b, data, asData), "Put", b)
	p.sameBytes(b)
	return e
}

func (p *pair) free(b int, meta bool) api.Errno {
	p.t.Helper()
	e := p.same(p.x.Free(b, meta), p.w.free(b, meta), "Free", b, meta)
	p.sameBytes(b)
	return e
}

func (p *pair) commit() api.Errno {
	p.t.Helper()
	return p.same(p.x.Commit(), p.w.commit(), "Commit")
}

// sameBytes holds what is told of a block, by the function that belongs to its use.
func (p *pair) sameBytes(b int) {
	p.t.Helper()
	p.sameWaits(b)
	if !p.w.isBlock(b) {
		for _, read := range []func(int) (string, api.Errno){p.x.Read, p.x.Get} {
			if s, e := read(b); s != "" || e != api.ErrBlock {
				p.t.Fatalf("block %d: %q, %v", b, s, e)
			}
		}
		return
	}
	c := p.w.cells[b]
	read := p.x.Read
	if c.use == asData {
		read = p.x.Get
	}
	s, e := read(b)
	if e != api.OK || len(s) != 128 || s != c.data && !c.vague {
		p.t.Fatalf("block %d: %q, %v, wanted %q", b, s, e, c.data)
	}
}

// holds holds all that can be asked, of all blocks.
func (p *pair) holds() {
	p.t.Helper()
	p.sameSize()
	if g := p.x.Geometry(); g != p.g {
		p.t.Fatal(g)
	}
	for b := -1; b <= p.g.Blocks; b++ {
		p.sameBytes(b)
	}
}

// are holds errors against one that all of them must be.
func (p *pair) are(want api.Errno, l ...api.Errno) {
	p.t.Helper()
	for i, e := range l {
		if e != want {
			p.t.Fatalf("call %d: %v, wanted %v", i, e, want)
		}
	}
}

// isSize holds Size against three numbers.
func (p *pair) isSize(changed, waiting, revoked int) {
	p.t.Helper()
	if a, b, c := p.x.Size(); a != changed || b != waiting || c != revoked {
		p.t.Fatalf("Size is %d, %d, %d, wanted %d, %d, %d", a, b, c, changed, waiting, revoked)
	}
}

// writes writes blocks from one on, all of them as metadata or all as data, in no order.
func (p *pair) writes(write func(int, string) api.Errno, n, from, many int) {
	p.t.Helper()
	for i := range many {
		b := from + i*7%many
		if many%7 == 0 {
			b = from + many - 1 - i
		}
		p.are(api.OK, write(b, some(n*1000+b)))
	}
}

// leavings calls with what crashes of a device leave: for any choice of the pending blocks if they are few; otherwise for none, all, and some by chance.
func leavings(from *rand.Rand, d *device.Device, call func(image string)) {
	n := len(d.Pending())
	if n <= 4 {
		for k := range 1 << n {
			call(d.Crash(chosen(n, func(i int) bool { return k>>i&1 == 1 })))
		}
		return
	}
	call(d.Crash(nil))
	call(d.Crash(slices.Repeat([]bool{true}, n)))
	for range 3 {
		one := from.Intn(n)
		call(d.Crash(chosen(n, func(i int) bool { return i == one })))
		call(d.Crash(chosen(n, func(i int) bool { return i != one })))
		call(d.Crash(chosen(n, func(i int) bool { return i < one })))
		call(d.Crash(chosen(n, func(i int) bool { return i > one })))
		call(leaving(from, d))
	}
}

func chosen(n int, stays func(i int) bool) []bool {
	var keep []bool
	for i := range n {
		keep = append(keep, stays(i))
	}
	return keep
}

// leaving is what one crash leaves, by chance.
func leaving(from *rand.Rand, d *device.Device) string {
	return d.Crash(chosen(len(d.Pending()), func(int) bool { return from.Intn(2) == 0 }))
}

// replayed is an image behind a Replay.
func replayed(t *testing.T, g api.Geometry, image string) string {
	t.Helper()
	d := opened(t, image)
	if _, e := journal.Replay(d, g); e != api.OK {
		t.Fatal("Replay:", e)
	}
	return d.Kept()
}

// replayedThough is an image behind a Replay that fails at an act, and is repeated, which may fail at the same act again.
func replayedThough(t *testing.T, from *rand.Rand, g api.Geometry, image string, acts int) string {
	t.Helper()
	for range 2 {
		d := opened(t, image)
		d.Arm(acts)
		if _, e := journal.Replay(d, g); e != api.OK && e != api.ErrDead {
			t.Fatal("Replay:", e)
		}
		image = leaving(from, d)
	}
	return replayed(t, g, image)
}

// replayActs is how many acts a Replay of an image needs.
func replayActs(t *testing.T, g api.Geometry, image string) int {
	t.Helper()
	d := opened(t, image)
	if _, e := journal.Replay(d, g); e != api.OK {
		t.Fatal("Replay:", e)
	}
	return d.Acts()
}

// survives holds what a crash left: it is the last commit's state or, if a commit was in progress, that or the next one. It returns the one which it is, and the image behind a Replay.
func (p *pair) survives(image string, committing bool) ([]cell, string) {
	p.t.Helper()
	after := replayed(p.t, p.g, image)
	if p.w.fits(after, p.w.sure, committing) {
		return p.w.sure, after
	}
	if next := p.w.next(); committing && p.w.fits(after, next, false) {
		return next, after
	}
	p.t.Fatal("what is left is not what a commit made durable")
	return nil, ""
}

// anew goes on with what survives, in the state in which it is.
func (p *pair) anew(state []cell, image string) *pair {
	p.t.Helper()
	q := pairOf(p.t, opened(p.t, image), p.g, func(b int) int { return state[b].use })
	for b, c := range state {
		q.w.cells[b].vague, q.w.sure[b].vague = c.vague, c.vague
	}
	return q
}

// isSure holds whatever a crash leaves now against the last commit.
func (p *pair) isSure(from *rand.Rand) {
	p.t.Helper()
	leavings(from, p.d, func(image string) { p.survives(image, false) })
}
