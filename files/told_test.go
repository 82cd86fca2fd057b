package files_test

import (
	"encoding/binary"
	"math"
	"slices"
	"strings"
	"testing"

	"glissade/alloc"
	"glissade/api"
	"glissade/device"
	"glissade/files"
	"glissade/geometry"
	"glissade/journal"
	"glissade/table"
	"glissade/trans"
)

// layout is that of three numbers.
func layout(t *testing.T, blocks, log, inodes int) api.Geometry {
	t.Helper()
	g, e := geometry.Of(blocks, log, inodes)
	if e != api.OK {
		t.Fatal(e)
	}
	return g
}

// small is the layout of the examples, whose blocks are allocatable from 134 on.
func small(t *testing.T) api.Geometry { return layout(t, 256, 128, 8) }

// wide is a layout whose bitmap has two blocks; its blocks are allocatable from 139 on.
func wide(t *testing.T) api.Geometry { return layout(t, 1301, 128, 16) }

// whole is the layout of the greatest device; its blocks are allocatable from 521 on.
func whole(t *testing.T) api.Geometry { return layout(t, 4096, 512, 8) }

// list is extents, each told by Logical, Physical and Len.
func list(n ...int) []api.Ext {
	var l []api.Ext
	for i := 0; i < len(n); i += 3 {
		l = append(l, api.Ext{Logical: n[i], Physical: n[i+1], Len: n[i+2]})
	}
	return l
}

// nul is so many bytes that are zero.
func nul(n int) string { return strings.Repeat("\x00", n) }

// text is so many bytes that are all others than zero, and others for other beginnings.
func text(begin, n int) string {
	b := make([]byte, n)
	for i := range b {
		b[i] = byte(1 + (begin*31+i)%251)
	}
	return string(b)
}

// far is numbers that stand at bounds, and such that are beyond all of them.
func far(g api.Geometry) []int {
	return []int{
		math.MinInt, math.MinInt + 1, -api.MaxSize, -129, -128, -127, -2, -1, 0, 1, 2, g.Inodes - 1, g.Inodes, g.Inodes + 1, 127, 128, 129, 255, 256, 257, g.Blocks,
		2047, 2048, 2049, api.MaxSize - 128, api.MaxSize - 1, api.MaxSize, api.MaxSize + 1, api.MaxSize + 128, 1 << 32, math.MaxInt - api.MaxSize, math.MaxInt - 1, math.MaxInt,
	}
}

// inode is what the chapters tell of an inode, block by block.
type inode struct {
	kind, links int
	pinned      bool
	text        string
	at          [2048]int  // where each logical block lies; 0 for a hole
	begins      [2048]bool // where an extent begins
}

// exts is the extents of an inode.
func (x *inode) exts() []api.Ext {
	var l []api.Ext
	for k, b := range x.at {
		if b != 0 && x.begins[k] {
			l = append(l, api.Ext{Logical: k, Physical: b})
		}
		if b != 0 {
			l[len(l)-1].Len++
		}
	}
	return l
}

// maps lays extents down.
func (x *inode) maps(l []api.Ext) {
	x.at, x.begins = [2048]int{}, [2048]bool{}
	for _, y := range l {
		x.begins[y.Logical] = true
		for k := range y.Len {
			x.at[y.Logical+k] = y.Physical + k
		}
	}
}

// covers is the logical blocks that have one of some bytes.
func covers(from, many int) (first, behind int) {
	if many == 0 {
		return 0, 0
	}
	return from / 128, (from+many-1)/128 + 1
}

// state is what the chapters tell of a file system, inode by inode and block by block.
type state struct {
	super   api.Super
	inodes  []inode
	bits    []bool // the bitmap's
	waits   []bool
	revoked []bool
}

func (s state) copied() state {
	return state{s.super, slices.Clone(s.inodes), slices.Clone(s.bits), slices.Clone(s.waits), slices.Clone(s.revoked)}
}

// told is a Trans with its files as the chapters tell them.
type told struct {
	g api.Geometry
	state
	acting bool
	begun  state // what was there when the act in progress began
}

// file is the error for an inode that is none, is free or a directory.
func (w *told) file(n int) (*inode, api.Errno) {
	if n < 0 || n >= w.g.Inodes || w.inodes[n].kind != api.InFile {
		return nil, api.ErrNone
	}
	return &w.inodes[n], api.OK
}

// open is the open blocks, ascending.
func (w *told) open() []int {
	var l []int
	for b := w.g.DataAt; b < w.g.Blocks; b++ {
		if !w.bits[b] && !w.waits[b] {
			l = append(l, b)
		}
	}
	return l
}

// run gives out the next run: it begins at the first open block that is not before a goal, or else at the first of all.
func (w *told) run(goal, most int) []int {
	open := w.open()
	if len(open) == 0 {
		return nil
	}
	i := max(0, slices.IndexFunc(open, func(b int) bool { return b >= goal }))
	l := []int{open[i]}
	for i++; i < len(open) && len(l) < most && open[i] == open[i-1]+1; i++ {
		l = append(l, open[i])
	}
	for _, b := range l {
		w.bits[b] = true
	}
	return l
}

// fill gives blocks to the holes among some of an inode's blocks, and tells whether there were any.
func (w *told) fill(x *inode, first, behind int) (bool, api.Errno) {
	filled := false
	for k := first; k < behind; k++ {
		if x.at[k] != 0 {
			continue
		}
		hole := 1
		for k+hole < behind && x.at[k+hole] == 0 {
			hole++
		}
		goal := w.g.DataAt
		for j := range k {
			if x.at[j] != 0 {
				goal = x.at[j] + 1
			}
		}
		l := w.run(goal, hole)
		if len(l) == 0 {
			return filled, api.ErrSpace
		}
		x.begins[k] = k == 0 || x.at[k-1] == 0 || x.at[k-1]+1 != l[0]
		for i, b := range l {
			x.at[k+i] = b
		}
		filled = true
	}
	return filled, api.OK
}

// settles ends the move of an extent of an inode, if there is one: its two parts stay parted.
func (w *told) settles(n int) {
	if w.super.Len > 0 && w.super.Inode == n {
		w.still()
	}
}

func (w *told) still() {
	w.super = api.Super{Blocks: w.super.Blocks, Log: w.super.Log, Inodes: w.super.Inodes, Cursor: w.super.Cursor}
}

func (w *told) write(n, from int, data string) api.Errno {
	x, e := w.file(n)
	if e != api.OK {
		return e
	}
	if from < 0 {
		return api.ErrArg
	}
	if from > 262144 || from+len(data) > 262144 {
		return api.ErrBig
	}
	if len(data) == 0 {
		return api.OK
	}
	first, behind := covers(from, len(data))
	filled, e := w.fill(x, first, behind)
	if e != api.OK {
		return e
	}
	if !w.acting {
		return api.ErrArg
	}
	if filled {
		w.settles(n)
	}
	end := from + len(data)
	if end > len(x.text) {
		x.text += nul(end - len(x.text))
	}
	x.text = x.text[:from] + data + x.text[end:]
	return api.OK
}

func (w *told) resize(n, end int) api.Errno {
	x, e := w.file(n)
	if e != api.OK {
		return e
	}
	if end < 0 {
		return api.ErrArg
	}
	if end > 262144 {
		return api.ErrBig
	}
	if !w.acting {
		return api.ErrArg
	}
	if end >= len(x.text) {
		x.text += nul(end - len(x.text))
		return api.OK
	}
	x.text = x.text[:end]
	for k, b := range x.at {
		if b != 0 && k*128 >= end {
			w.settles(n)
			w.free(b, false)
			x.at[k], x.begins[k] = 0, false
		}
	}
	return api.OK
}

// free lets a block go that is used.
func (w *told) free(b int, meta bool) {
	w.bits[b], w.waits[b], w.revoked[b] = false, true, meta
}

func (w *told) read(n, from, many int) (string, api.Errno) {
	x, e := w.file(n)
	if e != api.OK {
		return "", e
	}
	if from < 0 || many < 0 {
		return "", api.ErrArg
	}
	if from >= len(x.text) {
		return "", api.OK
	}
	return x.text[from:][:min(many, len(x.text)-from)], api.OK
}

func (w *told) blocks(n, from, many int) (int, api.Errno) {
	x, e := w.file(n)
	if e != api.OK {
		return 0, e
	}
	if from < 0 || many < 0 || from > 262144 || many > 262144 || from+many > 262144 {
		return 0, api.ErrArg
	}
	first, behind := covers(from, many)
	holes := 0
	for _, b := range x.at[first:behind] {
		if b == 0 {
			holes++
		}
	}
	return holes, api.OK
}

// pair is a Trans, and the same as the chapters tell it. What is done is done to both, and must come to the same.
type pair struct {
	t *testing.T
	g api.Geometry
	d *device.Device
	x *trans.Trans
	w *told
}

// superBytes is the block of a superblock, number by number.
func superBytes(s api.Super) string {
	b := []byte("glissade")
	for _, n := range []int{s.Blocks, s.Log, s.Inodes, s.Cursor, s.Inode, s.Logical, s.From, s.To, s.Len, s.Moved} {
		b = binary.LittleEndian.AppendUint32(b, uint32(n))
	}
	return string(append(b, make([]byte, 128-len(b))...))
}

// begun is a Trans of a new device, with a superblock, a bitmap and inodes that are all free, committed. No act is in progress.
func begun(t *testing.T, g api.Geometry) *pair {
	t.Helper()
	d, e := device.New(g.Blocks)
	if e != api.OK {
		t.Fatal(e)
	}
	if e := journal.Format(d, g); e != api.OK {
		t.Fatal(e)
	}
	x, e := trans.New(d, g)
	if e != api.OK {
		t.Fatal(e)
	}
	none := make([]bool, g.Blocks)
	w := &told{g: g, state: state{
		super:  api.Super{Blocks: g.Blocks, Log: g.Log, Inodes: g.Inodes, Cursor: g.DataAt},
		inodes: make([]inode, g.Inodes), bits: none, waits: none, revoked: none,
	}.copied()}
	for b := range g.DataAt {
		w.bits[b] = true
	}
	p := &pair{t: t, g: g, d: d, x: x, w: w}
	p.are(api.OK, x.Begin(), x.Write(0, superBytes(w.super)))
	for i := range g.MapLen {
		p.are(api.OK, x.Write(g.MapAt+i, p.image()[i*128:i*128+128]))
	}
	p.are(api.OK, x.End(), x.Commit())
	p.holds()
	return p
}

// acting is a Trans as begun makes it, and an act in progress.
func acting(t *testing.T, g api.Geometry) *pair {
	t.Helper()
	p := begun(t, g)
	p.begin()
	return p
}

// image is the bitmap's bytes.
func (p *pair) image() string {
	l := make([]byte, p.g.MapLen*128)
	for b, on := range p.w.bits {
		if on {
			l[b/8] |= 1 << (b % 8)
		}
	}
	return string(l)
}

// are holds errors against one that all of them must be.
func (p *pair) are(want api.Errno, l ...api.Errno) {
	p.t.Helper()
	for i, e := range l {
		if e != want {
			p.t.Fatalf("call %d: %v, wanted %v", i, e, want)
		}
	}
}

func (p *pair) begin() {
	p.t.Helper()
	p.are(api.OK, p.x.Begin())
	p.w.acting, p.w.begun = true, p.w.copied()
}

func (p *pair) end() {
	p.t.Helper()
	p.are(api.OK, p.x.End())
	p.w.acting = false
}

func (p *pair) undo() {
	p.t.Helper()
	p.x.Drop()
	if p.w.acting {
		p.w.acting, p.w.state = false, p.w.begun
	}
}

// again drops the act, as one does behind an error, and begins another one.
func (p *pair) again() {
	p.t.Helper()
	p.undo()
	p.begin()
}

func (p *pair) commit() {
	p.t.Helper()
	p.are(api.OK, p.x.Commit())
	none := make([]bool, p.g.Blocks)
	p.w.waits, p.w.revoked = slices.Clone(none), slices.Clone(none)
}

// next ends the act in progress, commits, and begins another one.
func (p *pair) next() {
	p.t.Helper()
	p.end()
	p.commit()
	p.begin()
}

// create makes the lowest free inode one of a kind, with one link.
func (p *pair) create(kind int) int {
	p.t.Helper()
	n, e := table.New(p.x, kind, 1)
	p.are(api.OK, e)
	if p.w.inodes[n].kind != api.InFree {
		p.t.Fatal(n)
	}
	p.w.inodes[n] = inode{kind: kind, links: 1}
	return n
}

// take gives out blocks.
func (p *pair) take(from, n int) {
	p.t.Helper()
	p.are(api.OK, alloc.Take(p.x, api.Run{Start: from, Len: n}))
	for k := range n {
		p.w.bits[from+k] = true
	}
}

// release lets blocks go that take gave out.
func (p *pair) release(from, n int) {
	p.t.Helper()
	p.are(api.OK, alloc.Free(p.x, api.Run{Start: from, Len: n}, false))
	for k := range n {
		p.w.free(from+k, false)
	}
}

// plant makes a file of some bytes, past package files, whose blocks lie where extents say; behind the end of the file the last block has other bytes than zero.
func (p *pair) plant(content string, l []api.Ext) int {
	p.t.Helper()
	n := p.create(api.InFile)
	x := &p.w.inodes[n]
	x.maps(l)
	padded := content + text(7, -len(content)&127)
	b := []byte(content)
	for k, at := range x.at {
		if at != 0 {
			p.take(at, 1)
			p.are(api.OK, p.x.Put(at, padded[k*128:k*128+128]))
		} else if k*128 < len(b) {
			copy(b[k*128:], make([]byte, 128))
		}
	}
	p.are(api.OK, table.Set(p.x, n, 0, 2048, l))
	p.become(nil, n)
	y, e := table.Get(p.x, n)
	y.Size, x.text = len(content), string(b)
	p.are(api.OK, e, table.Put(p.x, n, y))
	return n
}

// nodes is the blocks of the nodes of an inode, ascending; none where there is no such inode.
func (p *pair) nodes(n int) []int {
	_, nodes, _ := table.Exts(p.x, n)
	return nodes
}

// become is what the bitmap is behind a change of an inode's tree, whose nodes those were: new ones are the first open blocks, and those that are nodes no longer wait.
func (p *pair) become(before []int, n int) {
	p.t.Helper()
	after := p.nodes(n)
	for _, b := range after {
		if slices.Contains(before, b) {
			continue
		}
		for _, k := range p.w.open() {
			if k < b && !slices.Contains(after, k) {
				p.t.Fatalf("node %d, though %d is open", b, k)
			}
		}
		if p.w.bits[b] || p.w.waits[b] {
			p.t.Fatalf("node %d was not open", b)
		}
	}
	for _, b := range after {
		p.w.bits[b] = true
	}
	for _, b := range before {
		if !slices.Contains(after, b) {
			p.w.free(b, true)
		}
	}
}

// passed is what becomes of a node that a Settle has laid down and the Set behind it has freed: it waits.
func (p *pair) passed(before []int) {
	for _, b := range p.w.open() {
		if p.x.Waits(b) && !slices.Contains(before, b) {
			p.w.free(b, true)
		}
	}
}

// changes does what may change an inode's tree.
func (p *pair) changes(n int, name string, does, tells func() api.Errno) api.Errno {
	p.t.Helper()
	before, moving := p.nodes(n), p.w.super.Len > 0
	bare := p.w.copied()
	e := does()
	wanted := tells()
	if e == api.ErrSpace && wanted == api.OK && len(p.w.open()) < 8 {
		wanted = e // a node could not be laid down
	}
	if e != wanted {
		p.t.Fatalf("%s: %v, wanted %v", name, e, wanted)
	}
	if e != api.OK {
		p.w.state = bare
		return e
	}
	if moving && p.w.super.Len == 0 {
		p.passed(before)
	}
	p.become(before, n)
	return e
}

func (p *pair) write(n, from int, data string) api.Errno {
	p.t.Helper()
	return p.changes(n, "Write", func() api.Errno { return files.Write(p.x, n, from, data) }, func() api.Errno { return p.w.write(n, from, data) })
}

func (p *pair) resize(n, end int) api.Errno {
	p.t.Helper()
	return p.changes(n, "Resize", func() api.Errno { return files.Resize(p.x, n, end) }, func() api.Errno { return p.w.resize(n, end) })
}

func (p *pair) read(n, from, many int) api.Errno {
	p.t.Helper()
	s, e := files.Read(p.x, n, from, many)
	if want, wanted := p.w.read(n, from, many); s != want || e != wanted {
		p.t.Fatalf("Read %d %d %d: %q, %v, wanted %q, %v", n, from, many, s, e, want, wanted)
	}
	return e
}

func (p *pair) blocks(n, from, many int) api.Errno {
	p.t.Helper()
	k, e := files.Blocks(p.x, n, from, many)
	if want, wanted := p.w.blocks(n, from, many); k != want || e != wanted {
		p.t.Fatalf("Blocks %d %d %d: %d, %v, wanted %d, %v", n, from, many, k, e, want, wanted)
	}
	return e
}

// slide moves the first blocks of what is left of an extent, as a defragmenter does.
func (p *pair) slide(n, logical, to, many int) {
	p.t.Helper()
	x, s := &p.w.inodes[n], p.w.super
	from := x.at[logical]
	if s.Len == 0 {
		s.Inode, s.Logical, s.From, s.To = n, logical, from, to
		for s.Len++; logical+s.Len < 2048 && x.at[logical+s.Len] != 0 && !x.begins[logical+s.Len]; s.Len++ {
		}
	}
	p.take(to, many)
	for k := range many {
		data, e := p.x.Get(from + k)
		p.are(api.OK, e, p.x.Put(to+k, data))
		x.at[logical+k] = to + k
		x.begins[logical+k] = logical+k == s.Logical
	}
	p.are(api.OK, table.Slide(p.x, n, logical, api.Move{From: from, To: to, Len: many}))
	p.release(from, many)
	if s.Moved += many; s.Moved == s.Len {
		p.w.still()
		return
	}
	p.w.super = s
	x.begins[logical+many] = true
}

// slideBy2 moves the blocks of an extent, from a logical one up to another, but without that, to two blocks before, in steps that are committed.
func (p *pair) slideBy2(n, from, behind int) {
	p.t.Helper()
	for k := from; k < behind; k += 2 {
		p.slide(n, k, p.w.inodes[n].at[k]-2, min(2, behind-k))
		p.next()
	}
}

// holds holds all that can be asked, and all that is stored.
func (p *pair) holds() {
	p.t.Helper()
	if s, e := table.Super(p.x); s != p.w.super || e != api.OK {
		p.t.Fatalf("the superblock is %v, %v, wanted %v", s, e, p.w.super)
	}
	for n := range p.w.inodes {
		p.holdsInode(n)
	}
	if s, e := alloc.Map(p.x); s != p.image() || e != api.OK {
		p.t.Fatalf("the bitmap is %q, %v, wanted %q", s, e, p.image())
	}
	_, waiting, revoked := p.x.Size()
	for b := range p.g.Blocks {
		if p.x.Waits(b) != p.w.waits[b] {
			p.t.Fatalf("block %d waits: %v", b, p.x.Waits(b))
		}
		if p.w.waits[b] {
			waiting--
		}
		if p.w.revoked[b] {
			revoked--
		}
	}
	if waiting != 0 || revoked != 0 {
		p.t.Fatalf("%d more blocks wait, and %d more are revoked", waiting, revoked)
	}
}

// holdsInode holds what is told of an inode, and what its blocks have.
func (p *pair) holdsInode(n int) {
	p.t.Helper()
	x := &p.w.inodes[n]
	y, e := table.Get(p.x, n)
	if e != api.OK || y.Kind != x.kind || y.Links != x.links || y.Pinned != x.pinned || x.kind == api.InFile && y.Size != len(x.text) {
		p.t.Fatalf("inode %d is %v, %v; its Size should be %d", n, y, e, len(x.text))
	}
	p.read(n, 0, math.MaxInt)
	p.blocks(n, 0, api.MaxSize)
	if x.kind == api.InFree {
		return
	}
	if l, _, e := table.Exts(p.x, n); e != api.OK || !slices.Equal(l, x.exts()) {
		p.t.Fatalf("inode %d has %v, %v, wanted %v", n, l, e, x.exts())
	}
	for k := 0; x.kind == api.InFile && k*128 < len(x.text); k++ {
		part := x.text[k*128 : min(len(x.text), k*128+128)]
		if x.at[k] == 0 {
			if part != nul(len(part)) {
				p.t.Fatalf("block %d of inode %d is no hole", k, n)
			}
			continue
		}
		if s, e := p.x.Get(x.at[k]); e != api.OK || s[:len(part)] != part {
			p.t.Fatalf("block %d of inode %d: %q, %v, wanted %q", k, n, s, e, part)
		}
	}
}

// same calls with a Trans, and holds that this changed nothing.
func (p *pair) same(call func()) {
	p.t.Helper()
	acts := p.d.Acts()
	changed, waiting, revoked := p.x.Size()
	call()
	if a, b, c := p.x.Size(); a != changed || b != waiting || c != revoked {
		p.t.Fatalf("Size is %d %d %d, not %d %d %d", a, b, c, changed, waiting, revoked)
	}
	p.holds()
	if p.d.Acts() != acts {
		p.t.Fatal("there were acts of the device")
	}
}

// free is how many blocks the bitmap calls free.
func (p *pair) free() int {
	p.t.Helper()
	n, e := alloc.Count(p.x)
	p.are(api.OK, e)
	return n
}

// inscribe stores bytes as an inode, past all packages.
func (p *pair) inscribe(n int, s string) {
	p.t.Helper()
	b := p.g.TableAt + n/2
	block, e := p.x.Read(b)
	p.are(api.OK, e, p.x.Write(b, block[:n%2*64]+s+block[n%2*64+64:]))
}
