package table_test

import (
	"encoding/binary"
	"math"
	"reflect"
	"slices"
	"strings"
	"testing"

	"glissade/alloc"
	"glissade/api"
	"glissade/device"
	"glissade/geometry"
	"glissade/journal"
	"glissade/table"
	"glissade/trans"
)

// layout is that of three numbers.
func layout(t *testing.T, blocks, log, inodes int) api.Geometry {
	t.Helper()
	g, e := geometry.Of(blocks, log, inodes)
	if e != api.OK {
		t.Fatal(e)
	}
	return g
}

// small is the layout of the chapter's examples, whose blocks are allocatable from 134 on.
func small(t *testing.T) api.Geometry { return layout(t, 256, 128, 8) }

// wide is a layout whose bitmap has two blocks; its blocks are allocatable from 139 on.
func wide(t *testing.T) api.Geometry { return layout(t, 1301, 128, 16) }

// whole is the layout of the greatest device; its blocks are allocatable from 521 on.
func whole(t *testing.T) api.Geometry { return layout(t, 4096, 512, 8) }

// list is extents, each told by Logical, Physical and Len.
func list(n ...int) []api.Ext {
	var l []api.Ext
	for i := 0; i < len(n); i += 3 {
		l = append(l, api.Ext{Logical: n[i], Physical: n[i+1], Len: n[i+2]})
	}
	return l
}

// row is entries, each told by Logical, Physical and Len.
func row(n ...int) []api.Entry {
	var l []api.Entry
	for _, x := range list(n...) {
		l = append(l, api.Entry(x))
	}
	return l
}

// every is n extents of one block each, so many logical blocks from one to the next, with every second physical block from one on.
func every(n, gap, physical int) []api.Ext {
	var l []api.Ext
	for i := range n {
		l = append(l, api.Ext{Logical: i * gap, Physical: physical + 2*i, Len: 1})
	}
	return l
}

// far is numbers that are none of inodes or blocks, and such that stand at their bounds.
func far(g api.Geometry) []int {
	return []int{
		math.MinInt, math.MinInt + 1, -4096, -2, -1, 0, 1, 2, g.Inodes - 1, g.Inodes, g.Inodes + 1, g.TableAt, g.DataAt - 1, g.DataAt, g.Blocks - 1, g.Blocks,
		g.Blocks + 1, 2047, 2048, 4095, 4096, 4097, 1 << 16, 1 << 32, 1<<32 + 1, math.MaxInt - 1, math.MaxInt,
	}
}

// superBytes is the block of a superblock, number by number.
func superBytes(s api.Super) string {
	b := []byte("glissade")
	for _, n := range []int{s.Blocks, s.Log, s.Inodes, s.Cursor, s.Inode, s.Logical, s.From, s.To, s.Len, s.Moved} {
		b = binary.LittleEndian.AppendUint32(b, uint32(n))
	}
	return string(append(b, make([]byte, 128-len(b))...))
}

// inodeBytes is the bytes of an inode, valid or not.
func inodeBytes(x api.Inode) string {
	b := []byte{byte(x.Kind), 0}
	if x.Pinned {
		b[1] = 1
	}
	b = binary.LittleEndian.AppendUint16(b, uint16(x.Links))
	b = binary.LittleEndian.AppendUint64(b, uint64(x.Size))
	b = append(b, byte(x.Depth), byte(len(x.Root)))
	return string(padded(b, x.Root, 64))
}

// nodeBytes is the block of a node, valid or not.
func nodeBytes(l []api.Entry, leaf bool) string {
	b := []byte{70, 0, byte(len(l))}
	if leaf {
		b[1] = 1
	}
	return string(padded(b, l, 128))
}

func padded(b []byte, l []api.Entry, n int) []byte {
	for _, x := range l {
		for _, k := range []int{x.Logical, x.Physical, x.Len} {
			b = binary.LittleEndian.AppendUint32(b, uint32(k))
		}
	}
	return append(b, make([]byte, n-len(b))...)
}

// entries is so many entries that stand at a place of a block.
func entries(s string, n int) []api.Entry {
	var l []api.Entry
	for ; n > 0; n, s = n-1, s[12:] {
		number := func(i int) int { return int(binary.LittleEndian.Uint32([]byte(s[i : i+4]))) }
		l = append(l, api.Entry{Logical: number(0), Physical: number(4), Len: number(8)})
	}
	return l
}

// inode is what chapters tell of an inode, whose tree may have any shape.
type inode struct {
	kind        int
	pinned      bool
	links, size int
	list        []api.Ext
}

// state is what the chapters tell of a file system, inode by inode and block by block.
type state struct {
	super   api.Super
	inodes  []inode
	bits    []bool // the bitmap's
	waits   []bool
	revoked []bool
}

func (s state) copied() state {
	c := state{s.super, slices.Clone(s.inodes), slices.Clone(s.bits), slices.Clone(s.waits), slices.Clone(s.revoked)}
	for n := range c.inodes {
		c.inodes[n].list = slices.Clone(c.inodes[n].list)
	}
	return c
}

// told is a Trans with its inodes as the chapters tell them.
type told struct {
	g api.Geometry
	state
	acting bool
	begun  state // what was there when the act in progress began
}

// exts is the extents of an inode: the one that is being moved stands as two.
func (w *told) exts(n int) ([]api.Ext, api.Errno) {
	if n < 0 || n >= w.g.Inodes || w.inodes[n].kind == api.InFree {
		return nil, api.ErrNone
	}
	s := w.super
	if s.Len == 0 || s.Inode != n {
		return slices.Clone(w.inodes[n].list), api.OK
	}
	var l []api.Ext
	had := false
	for _, x := range w.inodes[n].list {
		if x == (api.Ext{Logical: s.Logical, Physical: s.From, Len: s.Len}) {
			had = true
			l = append(l, list(s.Logical, s.To, s.Moved, s.Logical+s.Moved, s.From+s.Moved, s.Len-s.Moved)...)
		} else {
			l = append(l, x)
		}
	}
	if !had {
		return nil, api.ErrForm
	}
	return l, api.OK
}

func (w *told) still() {
	w.super = api.Super{Blocks: w.super.Blocks, Log: w.super.Log, Inodes: w.super.Inodes, Cursor: w.super.Cursor}
}

// ordered tells whether chapter 14 calls a list in order.
func ordered(l []api.Ext) bool {
	last := -1
	for _, x := range l {
		if x.Len < 1 || x.Len > 4096 || x.Logical <= last || x.Logical > 2048-x.Len || x.Physical < 1 || x.Physical > 4096-x.Len {
			return false
		}
		last = x.Logical + x.Len - 1
	}
	return true
}

// replaced is a list with others in the place of what it has from one logical block up to another, block by block.
func replaced(l []api.Ext, from, to int, by []api.Ext) []api.Ext {
	out := slices.Clone(by)
	if from == to {
		out = nil
	}
	for _, x := range l {
		on := false
		for k := range x.Len {
			if b := x.Logical + k; b >= from && b < to {
				on = false
			} else if on {
				out[len(out)-1].Len++
			} else {
				on = true
				out = append(out, api.Ext{Logical: b, Physical: x.Physical + k, Len: 1})
			}
		}
	}
	slices.SortFunc(out, func(a, b api.Ext) int { return a.Logical - b.Logical })
	return out
}

// hits tells whether an extent has one of those blocks.
func hits(l []api.Ext, blocks []int) bool {
	return slices.ContainsFunc(l, func(x api.Ext) bool {
		return slices.ContainsFunc(blocks, func(b int) bool { return b >= x.Physical && b < x.Physical+x.Len })
	})
}

// settle parts the extent that is being moved; the nodes are those of its inode's tree.
func (w *told) settle(nodes []int) api.Errno {
	if w.super.Len == 0 {
		return api.OK
	}
	l, e := w.exts(w.super.Inode)
	if e != api.OK {
		return e
	}
	if !ordered(l) || hits(l, nodes) || !w.acting {
		return api.ErrArg
	}
	w.inodes[w.super.Inode].list = l
	w.still()
	return api.OK
}

func (w *told) set(n, from, to int, l []api.Ext, nodes []int) api.Errno {
	if n < 0 || n >= w.g.Inodes || w.inodes[n].kind == api.InFree {
		return api.ErrNone
	}
	if w.super.Len > 0 && w.super.Inode == n {
		if e := w.settle(nodes); e != api.OK {
			return e
		}
	}
	if from < 0 || to < from || to > 2048 || !ordered(l) {
		return api.ErrArg
	}
	for _, x := range l {
		if x.Logical < from || x.Logical+x.Len > to {
			return api.ErrArg
		}
	}
	out := replaced(w.inodes[n].list, from, to, l)
	if hits(out, nodes) || !w.acting {
		return api.ErrArg
	}
	w.inodes[n].list = out
	return api.OK
}

func (w *told) drop(n int, nodes []int) api.Errno {
	l, e := w.exts(n)
	if e != api.OK {
		return e
	}
	meta := w.inodes[n].kind == api.InDir
	has := make([]bool, 2*4096)
	for _, x := range l {
		for k := range x.Len {
			has[x.Physical+k] = true
		}
	}
	for b, ok := range has {
		if ok && (b < w.g.DataAt || b >= w.g.Blocks || !w.bits[b] || slices.Contains(nodes, b)) || !w.acting {
			return api.ErrArg
		}
	}
	for b, ok := range has {
		if ok {
			w.free(b, meta)
		}
	}
	for _, b := range nodes {
		w.free(b, true)
	}
	w.inodes[n] = inode{}
	if w.super.Inode == n {
		w.still()
	}
	return api.OK
}

// free lets a block go that is used.
func (w *told) free(b int, meta bool) {
	w.bits[b], w.waits[b], w.revoked[b] = false, true, meta
}

func (w *told) aim(cursor int) api.Errno {
	if cursor < 0 || cursor > w.super.Blocks || !w.acting {
		return api.ErrArg
	}
	w.super.Cursor = cursor
	return api.OK
}

func (w *told) slide(n, logical int, m api.Move, nodes []int) api.Errno {
	l, e := w.exts(n)
	if e != api.OK {
		return e
	}
	s := w.super
	at := -1
	for i, x := range l {
		if x.Logical == logical && x.Physical == m.From && x.Len >= m.Len && m.Len >= 1 {
			at = i
		}
	}
	if at < 0 {
		return api.ErrArg
	}
	if s.Len == 0 {
		s.Inode, s.Logical, s.From, s.To, s.Len = n, logical, m.From, m.To, l[at].Len
	} else if s.Inode != n || s.Logical+s.Moved != logical || s.To+s.Moved != m.To {
		return api.ErrArg
	}
	s.Moved += m.Len
	if s.Moved < s.Len {
		if s.To < 0 || s.To > s.Blocks-s.Len || s.From > s.Blocks-s.Len || !w.acting {
			return api.ErrArg
		}
		w.super = s
		return api.OK
	}
	if s.To < 1 || s.To > 4096-s.Len || hits(list(0, s.To, s.Len), nodes) || !w.acting {
		return api.ErrArg
	}
	for i, x := range w.inodes[n].list {
		if x.Logical == s.Logical {
			w.inodes[n].list[i].Physical = s.To
		}
	}
	w.still()
	return api.OK
}

func (w *told) lead(n, from, to int, nodes []int) api.Errno {
	if n < 0 || n >= w.g.Inodes || w.inodes[n].kind == api.InFree || !slices.Contains(nodes, from) {
		return api.ErrNone
	}
	if to < 1 || to >= 4096 || hits(w.inodes[n].list, []int{to}) || to != from && slices.Contains(nodes, to) {
		return api.ErrArg
	}
	if to == from {
		return api.OK
	}
	if to >= w.g.Blocks || to < w.g.MapAt {
		return api.ErrBlock
	}
	if w.waits[to] || from < w.g.DataAt || !w.bits[from] || !w.acting {
		return api.ErrArg
	}
	w.free(from, true)
	return api.OK
}

// create makes the lowest free inode one.
func (w *told) create(kind, links int) (int, api.Errno) {
	n := slices.IndexFunc(w.inodes, func(x inode) bool { return x.kind == api.InFree })
	if kind == api.InFree {
		return 0, api.ErrArg
	}
	if n < 0 {
		return 0, api.ErrInodes
	}
	if kind != api.InFile && kind != api.InDir || links < 0 || links > 100 || !w.acting {
		return 0, api.ErrArg
	}
	w.inodes[n] = inode{kind: kind, links: links}
	return n, api.OK
}

func (w *told) used() []int {
	var l []int
	for n, x := range w.inodes {
		if x.kind != api.InFree {
			l = append(l, n)
		}
	}
	return l
}

// pair is a Trans, and the same as the chapters tell it. What is done is done to both, and must come to the same.
type pair struct {
	t *testing.T
	g api.Geometry
	d *device.Device
	x *trans.Trans
	w *told
}

// begun is a Trans of a new device, with a superblock, a bitmap and inodes that are all free, committed. No act is in progress.
func begun(t *testing.T, g api.Geometry) *pair {
	t.Helper()
	d, e := device.New(g.Blocks)
	if e != api.OK {
		t.Fatal(e)
	}
	if e := journal.Format(d, g); e != api.OK {
		t.Fatal(e)
	}
	x, e := trans.New(d, g)
	if e != api.OK {
		t.Fatal(e)
	}
	none := make([]bool, g.Blocks)
	w := &told{g: g, state: state{
		super:  api.Super{Blocks: g.Blocks, Log: g.Log, Inodes: g.Inodes, Cursor: g.DataAt},
		inodes: make([]inode, g.Inodes), bits: none, waits: none, revoked: none,
	}.copied()}
	for b := range g.DataAt {
		w.bits[b] = true
	}
	p := &pair{t: t, g: g, d: d, x: x, w: w}
	p.are(api.OK, x.Begin(), x.Write(0, superBytes(w.super)))
	for i := range g.MapLen {
		p.are(api.OK, x.Write(g.MapAt+i, p.image()[i*128:i*128+128]))
	}
	p.are(api.OK, x.End(), x.Commit())
	p.holds()
	return p
}

// acting is a Trans as begun makes it, and an act in progress.
func acting(t *testing.T, g api.Geometry) *pair {
	t.Helper()
	p := begun(t, g)
	p.begin()
	return p
}

// image is the bitmap's bytes.
func (p *pair) image() string {
	l := make([]byte, p.g.MapLen*128)
	for b, on := range p.w.bits {
		if on {
			l[b/8] |= 1 << (b % 8)
		}
	}
	return string(l)
}

// are holds errors against one that all of them must be.
func (p *pair) are(want api.Errno, l ...api.Errno) {
	p.t.Helper()
	for i, e := range l {
		if e != want {
			p.t.Fatalf("call %d: %v, wanted %v", i, e, want)
		}
	}
}

func (p *pair) begin() {
	p.t.Helper()
	p.are(api.OK, p.x.Begin())
	p.w.acting, p.w.begun = true, p.w.copied()
}

func (p *pair) end() {
	p.t.Helper()
	p.are(api.OK, p.x.End())
	p.w.acting = false
}

func (p *pair) undo() {
	p.t.Helper()
	p.x.Drop()
	if p.w.acting {
		p.w.acting, p.w.state = false, p.w.begun
	}
}

func (p *pair) commit() {
	p.t.Helper()
	p.are(api.OK, p.x.Commit())
	none := make([]bool, p.g.Blocks)
	p.w.waits, p.w.revoked = slices.Clone(none), slices.Clone(none)
}

// next ends the act in progress, commits, and begins another one.
func (p *pair) next() {
	p.t.Helper()
	p.end()
	p.commit()
	p.begin()
}

// block is a block of metadata.
func (p *pair) block(b int) string {
	p.t.Helper()
	s, e := p.x.Read(b)
	p.are(api.OK, e)
	return s
}

// stored is the bytes of an inode.
func (p *pair) stored(n int) string {
	p.t.Helper()
	return p.block(p.g.TableAt + n/2)[n%2*64 : n%2*64+64]
}

// raw is an inode as its bytes have it.
func (p *pair) raw(n int) api.Inode {
	p.t.Helper()
	s := p.stored(n)
	return api.Inode{
		Kind: int(s[0]), Pinned: s[1] == 1, Links: int(binary.LittleEndian.Uint16([]byte(s[2:4]))), Size: int(binary.LittleEndian.Uint64([]byte(s[4:12]))),
		Depth: int(s[12]), Root: entries(s[14:], int(s[13])),
	}
}

// tree is the extent list of an inode's tree as the blocks have it, and its nodes, ascending.
func (p *pair) tree(n int) (l []api.Ext, nodes []int) {
	p.t.Helper()
	x := p.raw(n)
	return p.below(x.Root, x.Depth)
}

func (p *pair) below(row []api.Entry, height int) (l []api.Ext, nodes []int) {
	p.t.Helper()
	for _, y := range row {
		if height == 0 {
			l = append(l, api.Ext(y))
			continue
		}
		s := p.block(y.Physical)
		below := entries(s[3:], int(s[2]))
		if y.Len != 0 || s != nodeBytes(below, height == 1) || below[0].Logical != y.Logical {
			p.t.Fatalf("node %d of height %d: %q", y.Physical, height, s)
		}
		exts, more := p.below(below, height-1)
		l, nodes = append(l, exts...), append(append(nodes, y.Physical), more...)
	}
	slices.Sort(nodes)
	return l, nodes
}

// nodes is the blocks of the nodes of an inode, if there is one of that number.
func (p *pair) nodes(n int) []int {
	p.t.Helper()
	if n < 0 || n >= p.g.Inodes {
		return nil
	}
	_, nodes := p.tree(n)
	return nodes
}

// become is what the bitmap is behind a change of an inode's tree, whose nodes those were: new ones are the first open blocks, and those that are nodes no longer wait.
func (p *pair) become(before []int, n int) {
	p.t.Helper()
	after := p.nodes(n)
	for _, b := range after {
		if slices.Contains(before, b) {
			continue
		}
		for k := p.g.DataAt; k < b; k++ {
			if !p.w.bits[k] && !p.w.waits[k] && !slices.Contains(after, k) {
				p.t.Fatalf("node %d, though %d is open", b, k)
			}
		}
		if p.w.bits[b] || p.w.waits[b] {
			p.t.Fatalf("node %d was not open", b)
		}
	}
	for _, b := range after {
		p.w.bits[b] = true
	}
	for _, b := range before {
		if !slices.Contains(after, b) {
			p.w.free(b, true)
		}
	}
}

// passed is what becomes of a node that a Settle has laid down and the Set behind it has freed: it waits.
func (p *pair) passed(before []int) {
	p.t.Helper()
	for _, b := range p.open() {
		if p.x.Waits(b) && !slices.Contains(before, b) {
			p.w.free(b, true)
		}
	}
}

// take gives out the blocks of a list's extents, as the one does who sets it.
func (p *pair) take(l ...api.Ext) {
	p.t.Helper()
	for _, x := range l {
		p.are(api.OK, alloc.Take(p.x, api.Run{Start: x.Physical, Len: x.Len}))
		for k := range x.Len {
			p.w.bits[x.Physical+k] = true
		}
	}
}

func (p *pair) create(kind, links int) int {
	p.t.Helper()
	n, e := table.New(p.x, kind, links)
	if want, wanted := p.w.create(kind, links); n != want || e != wanted {
		p.t.Fatalf("New %d %d: %d, %v, wanted %d, %v", kind, links, n, e, want, wanted)
	}
	return n
}

func (p *pair) set(n, from, to int, l []api.Ext) api.Errno {
	p.t.Helper()
	before := p.nodes(n)
	settles := p.w.super.Len > 0 && p.w.super.Inode == n
	e := table.Set(p.x, n, from, to, l)
	if wanted := p.w.set(n, from, to, l, before); e != wanted {
		p.t.Fatalf("Set %d %d %d %v: %v, wanted %v", n, from, to, l, e, wanted)
	}
	if e == api.OK && settles {
		p.passed(before)
	}
	if e == api.OK {
		p.become(before, n)
	}
	return e
}

func (p *pair) settle() api.Errno {
	p.t.Helper()
	n := p.w.super.Inode
	before := p.nodes(n)
	e := table.Settle(p.x)
	if wanted := p.w.settle(before); e != wanted {
		p.t.Fatalf("Settle: %v, wanted %v", e, wanted)
	}
	if e == api.OK {
		p.become(before, n)
	}
	return e
}

func (p *pair) drop(n int) api.Errno {
	p.t.Helper()
	before := p.nodes(n)
	e := table.Drop(p.x, n)
	if wanted := p.w.drop(n, before); e != wanted {
		p.t.Fatalf("Drop %d: %v, wanted %v", n, e, wanted)
	}
	return e
}

func (p *pair) aim(cursor int) api.Errno {
	p.t.Helper()
	e := table.Aim(p.x, cursor)
	if wanted := p.w.aim(cursor); e != wanted {
		p.t.Fatalf("Aim %d: %v, wanted %v", cursor, e, wanted)
	}
	return e
}

func (p *pair) slide(n, logical, from, to, length int) api.Errno {
	p.t.Helper()
	before := p.nodes(n)
	m := api.Move{From: from, To: to, Len: length}
	e := table.Slide(p.x, n, logical, m)
	if wanted := p.w.slide(n, logical, m, before); e != wanted {
		p.t.Fatalf("Slide %d %d %v: %v, wanted %v", n, logical, m, e, wanted)
	}
	if !slices.Equal(p.nodes(n), before) {
		p.t.Fatalf("Slide %d %d %v: the nodes are %v, not %v", n, logical, m, p.nodes(n), before)
	}
	return e
}

func (p *pair) lead(n, from, to int) api.Errno {
	p.t.Helper()
	before := p.nodes(n)
	e := table.Lead(p.x, n, from, to)
	if wanted := p.w.lead(n, from, to, before); e != wanted {
		p.t.Fatalf("Lead %d %d %d: %v, wanted %v", n, from, to, e, wanted)
	}
	if e == api.ErrBlock { // what led to the node may have been written
		return e
	}
	want := slices.Clone(before)
	if e == api.OK {
		want[slices.Index(want, from)] = to
		slices.Sort(want)
	}
	if !slices.Equal(p.nodes(n), want) {
		p.t.Fatalf("Lead %d %d %d: the nodes are %v, not %v", n, from, to, p.nodes(n), want)
	}
	return e
}

// sameInode tells whether two inodes are equal; a list may be nil or empty.
func sameInode(a, b api.Inode) bool {
	return len(a.Root) == 0 && len(b.Root) == 0 && reflect.DeepEqual(shorn(a), shorn(b)) || reflect.DeepEqual(a, b)
}

func shorn(x api.Inode) api.Inode {
	x.Root = nil
	return x
}

// holds holds all that can be asked, and all that is stored.
func (p *pair) holds() {
	p.t.Helper()
	if s, e := table.Super(p.x); s != p.w.super || e != api.OK || p.block(0) != superBytes(p.w.super) {
		p.t.Fatalf("the superblock is %v, %v, wanted %v", s, e, p.w.super)
	}
	if l, e := table.Used(p.x); !slices.Equal(l, p.w.used()) || e != api.OK {
		p.t.Fatalf("used are %v, %v, wanted %v", l, e, p.w.used())
	}
	all := map[int]int{}
	for n := range p.w.inodes {
		p.holdsInode(n)
		for _, b := range p.nodes(n) {
			if all[b]++; all[b] > 1 || !p.w.bits[b] {
				p.t.Fatalf("node %d of inode %d", b, n)
			}
		}
	}
	if s, e := alloc.Map(p.x); s != p.image() || e != api.OK {
		p.t.Fatalf("the bitmap is %q, %v, wanted %q", s, e, p.image())
	}
	_, waiting, revoked := p.x.Size()
	for b := range p.g.Blocks {
		if p.x.Waits(b) != p.w.waits[b] {
			p.t.Fatalf("block %d waits: %v", b, p.x.Waits(b))
		}
		if p.w.waits[b] {
			waiting--
		}
		if p.w.revoked[b] {
			revoked--
		}
	}
	if waiting != 0 || revoked != 0 {
		p.t.Fatalf("%d more blocks wait, and %d more are revoked", waiting, revoked)
	}
}

// holdsInode holds what is told of an inode.
func (p *pair) holdsInode(n int) {
	p.t.Helper()
	want, raw := p.w.inodes[n], p.raw(n)
	got, e := table.Get(p.x, n)
	if e != api.OK || !sameInode(got, raw) || p.stored(n) != inodeBytes(raw) {
		p.t.Fatalf("inode %d is %v, %v, stored as %v", n, got, e, raw)
	}
	if got.Kind != want.kind || got.Pinned != want.pinned || got.Links != want.links || got.Size != want.size {
		p.t.Fatalf("inode %d is %v, wanted %v", n, got, want)
	}
	l, nodes := p.tree(n)
	if !slices.Equal(l, want.list) {
		p.t.Fatalf("the tree of inode %d has %v, wanted %v", n, l, want.list)
	}
	wanted, f := p.w.exts(n)
	if f != api.OK {
		nodes = nil
	}
	got2, gotNodes, e := table.Exts(p.x, n)
	if e != f || !slices.Equal(got2, wanted) || !slices.Equal(gotNodes, nodes) {
		p.t.Fatalf("Exts %d: %v, %v, %v, wanted %v, %v, %v", n, got2, gotNodes, e, wanted, nodes, f)
	}
}

// same calls with a Trans, and holds that this changed nothing.
func (p *pair) same(call func()) {
	p.t.Helper()
	acts := p.d.Acts()
	changed, waiting, revoked := p.x.Size()
	call()
	if a, b, c := p.x.Size(); a != changed || b != waiting || c != revoked {
		p.t.Fatalf("Size is %d %d %d, not %d %d %d", a, b, c, changed, waiting, revoked)
	}
	p.holds()
	if p.d.Acts() != acts {
		p.t.Fatal("there were acts of the device")
	}
}

// open is the open blocks, ascending.
func (p *pair) open() []int {
	var l []int
	for b := p.g.DataAt; b < p.g.Blocks; b++ {
		if !p.w.bits[b] && !p.w.waits[b] {
			l = append(l, b)
		}
	}
	return l
}

// write writes a block as metadata past package table.
func (p *pair) write(b int, s string) {
	p.t.Helper()
	p.are(api.OK, p.x.Write(b, s))
}

// inscribe stores bytes as an inode past package table.
func (p *pair) inscribe(n int, s string) {
	p.t.Helper()
	b := p.g.TableAt + n/2
	block := p.block(b)
	p.write(b, block[:n%2*64]+s+block[n%2*64+64:])
}

// plant lays down the tree of inode n, of a depth, whose nodes have so many entries; its nodes are the blocks from one on. The blocks to which its extents map are given out, too.
func (p *pair) plant(n, depth, most, node int, l []api.Ext) {
	p.t.Helper()
	p.take(l...)
	var below []api.Entry
	for _, x := range l {
		below = append(below, api.Entry(x))
	}
	for height := 1; height <= depth; height++ {
		var above []api.Entry
		for nodes := range slices.Chunk(below, most) {
			p.take(api.Ext{Physical: node, Len: 1})
			p.write(node, nodeBytes(nodes, height == 1))
			above = append(above, api.Entry{Logical: nodes[0].Logical, Physical: node})
			node++
		}
		below = above
	}
	if len(below) > 4 {
		p.t.Fatal("too many nodes")
	}
	x := p.raw(n)
	x.Depth, x.Root = depth, below
	p.inscribe(n, inodeBytes(x))
	p.w.inodes[n].list = slices.Clone(l)
}

// letters is a block of one letter.
func letters(s string) string { return strings.Repeat(s, 128) }
