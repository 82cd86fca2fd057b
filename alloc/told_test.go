package alloc_test

import (
	"slices"
	"strings"
	"testing"

	"glissade/alloc"
	"glissade/api"
	"glissade/device"
	"glissade/geometry"
	"glissade/journal"
	"glissade/trans"
)

// layout is that of three numbers.
func layout(t *testing.T, blocks, log, inodes int) api.Geometry {
	t.Helper()
	g, e := geometry.Of(blocks, log, inodes)
	if e != api.OK {
		t.Fatal(e)
	}
	return g
}

// small is the layout of the chapter's examples: its blocks are allocatable from 134 on, and its bitmap has one block, whose bits all belong to no block from 256 on.
func small(t *testing.T) api.Geometry { return layout(t, 256, 128, 8) }

// narrow is the layout with the fewest allocatable blocks, 240 to 255.
func narrow(t *testing.T) api.Geometry { return layout(t, 256, 200, 76) }

// wide is a layout whose bitmap has two blocks, of which the second one ends within a byte's bits; its blocks are allocatable from 135 on.
func wide(t *testing.T) api.Geometry { return layout(t, 1301, 128, 8) }

// whole is the layout of the greatest device, whose bitmap has four blocks, and a log for the greatest transactions; its blocks are allocatable from 521 on.
func whole(t *testing.T) api.Geometry { return layout(t, 4096, 512, 8) }

// run is Len blocks from Start on.
func run(start, length int) api.Run { return api.Run{Start: start, Len: length} }

// state is what the chapters tell of blocks, one by one.
type state struct {
	bits    []bool // the bitmap's, also behind the device's last block
	waits   []bool
	revoked []bool
	meta    []bool // an ended act of the transaction wrote the block as metadata
	metaNow []bool // the act in progress did
}

func (s state) copied() state {
	return state{slices.Clone(s.bits), slices.Clone(s.waits), slices.Clone(s.revoked), slices.Clone(s.meta), slices.Clone(s.metaNow)}
}

// told is a Trans and its bitmap as the chapters tell them.
type told struct {
	g api.Geometry
	state
	acting bool
	begun  state // what was there when the act in progress began
}

func toldOf(g api.Geometry, bits []bool) *told {
	none := make([]bool, g.Blocks)
	return &told{g: g, state: state{bits, none, none, none, none}.copied()}
}

// image is the bitmap's bytes.
func (w *told) image() string { return imageOf(w.bits) }

func imageOf(bits []bool) string {
	var l []byte
	for i := 0; i < len(bits); i += 8 {
		var b byte
		for k := range 8 {
			if bits[i+k] {
				b |= 1 << k
			}
		}
		l = append(l, b)
	}
	return string(l)
}

// bitsOf is the bits of a bitmap's bytes.
func bitsOf(image string) []bool {
	var l []bool
	for i := range len(image) {
		for k := range 8 {
			l = append(l, image[i]&(1<<k) != 0)
		}
	}
	return l
}

func (w *told) count() int {
	n := 0
	for b := range w.g.Blocks {
		if !w.bits[b] {
			n++
		}
	}
	return n
}

func (w *told) size() (changed, waiting, revoked int) {
	for b := range w.g.Blocks {
		if w.meta[b] || w.metaNow[b] {
			changed++
		}
		if w.waits[b] {
			waiting++
		}
		if w.revoked[b] {
			revoked++
		}
	}
	return changed, waiting, revoked
}

// open tells whether a block of the device is open.
func (w *told) open(b int) bool { return b >= w.g.DataAt && !w.bits[b] && !w.waits[b] }

// opens lists the open blocks, ascending.
func (w *told) opens() []int {
	var l []int
	for b := range w.g.Blocks {
		if w.open(b) {
			l = append(l, b)
		}
	}
	return l
}

func (w *told) begin() {
	w.acting, w.begun = true, w.copied()
}

func (w *told) drop() {
	if w.acting {
		w.acting, w.state = false, w.begun
	}
}

func (w *told) end() {
	for b := range w.g.Blocks {
		w.meta[b], w.metaNow[b] = w.meta[b] || w.metaNow[b], false
	}
	w.acting = false
}

func (w *told) commit() {
	none := make([]bool, w.g.Blocks)
	w.state = state{w.bits, none, none, none, none}.copied()
}

// sets sets the bits of a run, if an act is in progress.
func (w *told) sets(r api.Run, on bool) api.Errno {
	if !w.acting {
		return api.ErrArg
	}
	for b := r.Start; b < r.Start+r.Len; b++ {
		w.bits[b] = on
		w.metaNow[w.g.MapAt+b/1024] = true
	}
	return api.OK
}

func (w *told) run(goal, most int) (api.Run, api.Errno) {
	opens := w.opens()
	if most < 1 {
		return api.Run{}, api.ErrArg
	}
	if len(opens) == 0 {
		return api.Run{}, api.ErrSpace
	}
	at := max(0, slices.IndexFunc(opens, func(b int) bool { return b >= goal }))
	r := run(opens[at], 0)
	for r.Len < most && at+r.Len < len(opens) && opens[at+r.Len] == r.Start+r.Len {
		r.Len++
	}
	if e := w.sets(r, true); e != api.OK {
		return api.Run{}, e
	}
	return r, api.OK
}

// blocks lists the blocks of a run, or nothing if it is no run of at least one allocatable block.
func (w *told) blocks(r api.Run) []int {
	var l []int
	for b := w.g.DataAt; b < w.g.Blocks; b++ {
		if b-r.Start >= 0 && b-r.Start < r.Len {
			l = append(l, b)
		}
	}
	if len(l) != r.Len || len(l) > 0 && l[0] != r.Start {
		return nil
	}
	return l
}

func (w *told) take(r api.Run) api.Errno {
	l := w.blocks(r)
	if len(l) == 0 {
		return api.ErrArg
	}
	for _, b := range l {
		if !w.open(b) {
			return api.ErrSpace
		}
	}
	return w.sets(r, true)
}

func (w *told) free(r api.Run, meta bool) api.Errno {
	l := w.blocks(r)
	if len(l) == 0 || slices.ContainsFunc(l, func(b int) bool { return !w.bits[b] }) {
		return api.ErrArg
	}
	if e := w.sets(r, false); e != api.OK {
		return e
	}
	for _, b := range l {
		w.waits[b], w.revoked[b] = true, meta || w.meta[b]
		w.meta[b], w.metaNow[b] = false, false
	}
	return api.OK
}

// pair is a Trans, and the same as the chapters tell it. What is done is done to both, and must come to the same.
type pair struct {
	t *testing.T
	g api.Geometry
	d *device.Device
	x *trans.Trans
	w *told
}

// fixed is the bits of a bitmap in which just the blocks ahead of the data are used.
func fixed(g api.Geometry) []bool {
	l := make([]bool, g.MapLen*1024)
	for b := range g.DataAt {
		l[b] = true
	}
	return l
}

// begun is a Trans of a new device whose bitmap, committed, has these bits. No act is in progress.
func begun(t *testing.T, g api.Geometry, bits []bool) *pair {
	t.Helper()
	d, e := device.New(g.Blocks)
	if e != api.OK {
		t.Fatal(e)
	}
	if e := journal.Format(d, g); e != api.OK {
		t.Fatal(e)
	}
	x, e := trans.New(d, g)
	if e != api.OK {
		t.Fatal(e)
	}
	p := &pair{t: t, g: g, d: d, x: x, w: toldOf(g, bits)}
	p.are(api.OK, x.Begin())
	for i := range g.MapLen {
		p.are(api.OK, x.Write(g.MapAt+i, p.w.image()[i*128:i*128+128]))
	}
	p.are(api.OK, x.End(), x.Commit())
	p.holds()
	return p
}

// acting is a Trans as begun makes it, and an act in progress.
func acting(t *testing.T, g api.Geometry, bits []bool) *pair {
	t.Helper()
	p := begun(t, g, bits)
	p.begin()
	return p
}

// are holds errors against one that all of them must be.
func (p *pair) are(want api.Errno, l ...api.Errno) {
	p.t.Helper()
	for i, e := range l {
		if e != want {
			p.t.Fatalf("call %d: %v, wanted %v", i, e, want)
		}
	}
}

func (p *pair) begin() {
	p.t.Helper()
	p.are(api.OK, p.x.Begin())
	p.w.begin()
}

func (p *pair) end() {
	p.t.Helper()
	p.are(api.OK, p.x.End())
	p.w.end()
}

func (p *pair) drop() {
	p.t.Helper()
	p.x.Drop()
	p.w.drop()
}

func (p *pair) commit() {
	p.t.Helper()
	p.are(api.OK, p.x.Commit())
	p.w.commit()
}

// next ends the act in progress, commits, and begins another one.
func (p *pair) next() {
	p.t.Helper()
	p.end()
	p.commit()
	p.begin()
}

func (p *pair) run(goal, most int) (api.Run, api.Errno) {
	p.t.Helper()
	r, e := alloc.Run(p.x, goal, most)
	if want, wanted := p.w.run(goal, most); r != want || e != wanted {
		p.t.Fatalf("Run %d %d: %v, %v, wanted %v, %v", goal, most, r, e, want, wanted)
	}
	return r, e
}

func (p *pair) take(r api.Run) api.Errno {
	p.t.Helper()
	e := alloc.Take(p.x, r)
	if wanted := p.w.take(r); e != wanted {
		p.t.Fatalf("Take %v: %v, wanted %v", r, e, wanted)
	}
	return e
}

func (p *pair) free(r api.Run, meta bool) api.Errno {
	p.t.Helper()
	e := alloc.Free(p.x, r, meta)
	if wanted := p.w.free(r, meta); e != wanted {
		p.t.Fatalf("Free %v %v: %v, wanted %v", r, meta, e, wanted)
	}
	return e
}

// write writes a block as metadata, as the one does to whom it was given out.
func (p *pair) write(b int) {
	p.t.Helper()
	p.are(api.OK, p.x.Write(b, strings.Repeat("m", 128)))
	p.w.metaNow[b] = true
}

// isRun holds a Run against a run that it must return.
func (p *pair) isRun(goal, most int, want api.Run) {
	p.t.Helper()
	if r, e := p.run(goal, most); r != want || e != api.OK {
		p.t.Fatalf("Run %d %d: %v, %v, wanted %v", goal, most, r, e, want)
	}
}

// noRun holds a Run against an error that it must return.
func (p *pair) noRun(goal, most int, want api.Errno) {
	p.t.Helper()
	if r, e := p.run(goal, most); r != (api.Run{}) || e != want {
		p.t.Fatalf("Run %d %d: %v, %v, wanted %v", goal, most, r, e, want)
	}
}

// isCount holds Count against a number.
func (p *pair) isCount(want int) {
	p.t.Helper()
	if n, e := alloc.Count(p.x); n != want || e != api.OK {
		p.t.Fatalf("Count is %d, %v, wanted %d", n, e, want)
	}
}

// isSize holds Size against three numbers.
func (p *pair) isSize(changed, waiting, revoked int) {
	p.t.Helper()
	if a, b, c := p.x.Size(); a != changed || b != waiting || c != revoked {
		p.t.Fatalf("Size is %d, %d, %d, wanted %d, %d, %d", a, b, c, changed, waiting, revoked)
	}
}

// holds holds all that can be asked.
func (p *pair) holds() {
	p.t.Helper()
	if s, e := alloc.Map(p.x); s != p.w.image() || e != api.OK {
		p.t.Fatalf("Map is %q, %v, wanted %q", s, e, p.w.image())
	}
	p.isCount(p.w.count())
	p.isSize(p.w.size())
	for b := range p.g.Blocks {
		if got := p.x.Waits(b); got != p.w.waits[b] {
			p.t.Fatalf("block %d waits: %v", b, got)
		}
	}
}

// same calls with a Trans, and holds that this changed nothing.
func (p *pair) same(call func()) {
	p.t.Helper()
	acts := p.d.Acts()
	call()
	p.holds()
	if p.d.Acts() != acts {
		p.t.Fatal("there were acts of the device")
	}
}
