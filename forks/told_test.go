package forks

import (
	"encoding/binary"
	"maps"
	"math"
	"math/rand"
	"reflect"
	"slices"
	"testing"

	"glissade/api"
)

// list is extents, each told by Logical, Physical and Len.
func list(n ...int) []api.Ext {
	var l []api.Ext
	for i := 0; i < len(n); i += 3 {
		l = append(l, api.Ext{Logical: n[i], Physical: n[i+1], Len: n[i+2]})
	}
	return l
}

// row is entries, each told by Logical, Physical and Len.
func row(n ...int) []api.Entry {
	var l []api.Entry
	for i := 0; i < len(n); i += 3 {
		l = append(l, api.Entry{Logical: n[i], Physical: n[i+1], Len: n[i+2]})
	}
	return l
}

// every is n extents of one block each, so many logical blocks from one to the next, with the physical blocks from one on.
func every(n, gap, physical int) []api.Ext {
	var l []api.Ext
	for i := range n {
		l = append(l, api.Ext{Logical: i * gap, Physical: physical + i, Len: 1})
	}
	return l
}

// far is numbers at the edges of what the chapter knows, and far beyond them.
func far() []int {
	return []int{math.MinInt, math.MinInt + 1, -4096, -2, -1, 0, 1, 2, 127, 128, 2046, 2047, 2048, 2049, 4094, 4095, 4096, 4097, 1 << 16, 1 << 32, 1<<32 + 1, math.MaxInt - 1, math.MaxInt}
}

// may tells whether chapter 11 calls an entry valid, block by block.
func may(x api.Entry, leaf bool) bool {
	n := x.Len
	if !leaf && n == 0 {
		n = 1
	} else if !leaf || n < 1 || n > 4096 {
		return false
	}
	for k := range n {
		if x.Logical+k < 0 || x.Logical+k > 2047 || x.Physical+k < 1 || x.Physical+k > 4095 {
			return false
		}
	}
	return true
}

// mayRow tells whether entries are valid ones of that kind, and in order.
func mayRow(l []api.Entry, leaf bool) bool {
	last := -1
	for _, x := range l {
		if !may(x, leaf) || x.Logical <= last {
			return false
		}
		last = x.Logical
		if leaf {
			last += x.Len - 1
		}
	}
	return true
}

// mayTree tells whether a Depth and a Root are those of a tree.
func mayTree(t Tree) bool {
	switch t.Depth {
	case 0:
		return len(t.Root) <= 4 && mayRow(t.Root, true)
	case 1, 2, 3, 4:
		return len(t.Root) >= 1 && len(t.Root) <= 4 && mayRow(t.Root, false)
	}
	return false
}

// lay is the bytes of a node, whether it is one or not.
func lay(l []api.Entry, leaf bool) string {
	b := []byte{70, 0, byte(len(l))}
	if leaf {
		b[1] = 1
	}
	for _, x := range l {
		b = binary.LittleEndian.AppendUint32(b, uint32(x.Logical))
		b = binary.LittleEndian.AppendUint32(b, uint32(x.Physical))
		b = binary.LittleEndian.AppendUint32(b, uint32(x.Len))
	}
	for len(b) < 128 {
		b = append(b, 0)
	}
	return string(b[:128])
}

// unlay takes a block byte by byte: what it says, and whether it is that of a node.
func unlay(block string) (l []api.Entry, leaf, ok bool) {
	if len(block) != 128 || block[0] != 70 || block[1] > 1 || block[2] < 1 || block[2] > 10 {
		return nil, false, false
	}
	leaf = block[1] == 1
	at := 3
	next := func() int {
		n := binary.LittleEndian.Uint32([]byte(block[at : at+4]))
		at += 4
		return int(n)
	}
	for range int(block[2]) {
		l = append(l, api.Entry{Logical: next(), Physical: next(), Len: next()})
	}
	for ; at < 128; at++ {
		if block[at] != 0 {
			return nil, false, false
		}
	}
	return l, leaf, mayRow(l, leaf)
}

// ordered tells whether chapter 14 calls a list in order.
func ordered(l []api.Ext) bool {
	var same []api.Entry
	for _, x := range l {
		same = append(same, api.Entry(x))
	}
	return mayRow(same, true)
}

// covers tells whether an extent of a list has a block of those.
func covers(l []api.Ext, blocks []int) bool {
	for _, x := range l {
		for _, b := range blocks {
			if x.Physical <= b && b < x.Physical+x.Len {
				return true
			}
		}
	}
	return false
}

// disk is what blocks hold, of which some fail when they are read, and which of them were read.
type disk struct {
	blocks map[int]string
	fails  map[int]api.Errno
	reads  []int
}

func newDisk() *disk {
	return &disk{blocks: map[int]string{}, fails: map[int]api.Errno{}}
}

// read tells content beside an error, too, which no one is to take.
func (d *disk) read(b int) (string, api.Errno) {
	d.reads = append(d.reads, b)
	if e, ok := d.fails[b]; ok {
		return d.blocks[b], e
	}
	s, ok := d.blocks[b]
	if !ok {
		return "", api.ErrBlock
	}
	return s, api.OK
}

func (d *disk) clone() *disk {
	return &disk{blocks: maps.Clone(d.blocks), fails: maps.Clone(d.fails)}
}

// take does to a disk what a Set says: nodes are written, and can be read then, and what they are no longer is gone.
func (d *disk) take(s Set) Tree {
	for _, c := range s.Changes {
		d.blocks[c.Block] = c.Data
		delete(d.fails, c.Block)
	}
	for _, b := range s.Freed {
		delete(d.blocks, b)
	}
	return s.Tree
}

// told is what the chapter says of a tree: its list and nodes, or the error, and which blocks are read on the way there.
func told(t Tree, d *disk) (l []api.Ext, nodes, reads []int, e api.Errno) {
	if !mayTree(t) {
		return nil, nil, nil, api.ErrForm
	}
	type step struct {
		x      api.Entry
		height int
	}
	var todo []step
	push := func(l []api.Entry, height int) {
		for _, x := range slices.Backward(l) {
			todo = append(todo, step{x, height})
		}
	}
	seen := map[int]bool{}
	push(t.Root, t.Depth)
	for len(todo) > 0 {
		s := todo[len(todo)-1]
		todo = todo[:len(todo)-1]
		if s.height == 0 {
			l = append(l, api.Ext(s.x))
			continue
		}
		if seen[s.x.Physical] {
			return nil, nil, reads, api.ErrForm
		}
		seen[s.x.Physical] = true
		reads = append(reads, s.x.Physical)
		if e, ok := d.fails[s.x.Physical]; ok {
			return nil, nil, reads, e
		}
		block, ok := d.blocks[s.x.Physical]
		if !ok {
			return nil, nil, reads, api.ErrBlock
		}
		m, leaf, ok := unlay(block)
		if !ok || leaf != (s.height == 1) || m[0].Logical != s.x.Logical {
			return nil, nil, reads, api.ErrForm
		}
		push(m, s.height-1)
	}
	nodes = slices.Sorted(slices.Values(reads))
	if !ordered(l) || covers(l, nodes) {
		return nil, nil, reads, api.ErrForm
	}
	return l, nodes, reads, api.OK
}

// walks holds a Walk against what is told of it.
func walks(t *testing.T, tree Tree, d *disk) ([]api.Ext, []int, api.Errno) {
	t.Helper()
	l, nodes, reads, e := told(tree, d)
	d.reads = nil
	given := spare(tree)
	gotL, gotNodes, gotE := Walk(given, d.read)
	if gotE != e || !slices.Equal(gotL, l) || !slices.Equal(gotNodes, nodes) {
		t.Fatalf("Walk(%v) = %v, %v, %v, not %v, %v, %v", tree, gotL, gotNodes, gotE, l, nodes, e)
	}
	if !slices.Equal(d.reads, reads) {
		t.Fatalf("Walk(%v) read %v, not %v", tree, d.reads, reads)
	}
	unspoilt(t, tree, given)
	// What is answered is new each time, and not the argument's.
	fill(gotL, api.Ext{Logical: -7})
	fill(gotNodes, -7)
	unspoilt(t, tree, given)
	againL, againNodes, againE := Walk(given, d.read)
	if againE != e || !slices.Equal(againL, l) || !slices.Equal(againNodes, nodes) {
		t.Fatalf("Walk(%v) again: %v, %v, %v", tree, againL, againNodes, againE)
	}
	d.reads = reads
	return l, nodes, e
}

// spare is a tree whose root has room behind it, where nobody is to write.
func spare(t Tree) Tree {
	root := make([]api.Entry, 0, len(t.Root)+8)
	fill(root, api.Entry{Logical: -5})
	return Tree{Depth: t.Depth, Root: append(root, t.Root...)}
}

// unspoilt tells when a tree made by spare is no longer as it was.
func unspoilt(t *testing.T, tree, given Tree) {
	t.Helper()
	if !reflect.DeepEqual(given, spare(tree)) || !slices.Equal(given.Root[:cap(given.Root)], spare(tree).Root[:len(tree.Root)+8]) {
		t.Fatalf("the tree %v was changed to %v", tree, given.Root[:cap(given.Root)])
	}
}

// fill writes something to every place of a list, those of its capacity among them.
func fill[T any](l []T, x T) {
	l = l[:cap(l)]
	for i := range l {
		l[i] = x
	}
}

// replacedTold is a list with another in place of some logical blocks, block by block.
func replacedTold(list []api.Ext, from, to int, l []api.Ext) []api.Ext {
	var out []api.Ext
	for _, x := range list {
		open := false
		for k := range x.Len {
			switch {
			case x.Logical+k >= from && x.Logical+k < to:
				open = false
			case open:
				out[len(out)-1].Len++
			default:
				out = append(out, api.Ext{Logical: x.Logical + k, Physical: x.Physical + k, Len: 1})
				open = true
			}
		}
	}
	out = append(out, l...)
	slices.SortFunc(out, func(a, b api.Ext) int { return a.Logical - b.Logical })
	return out
}

// answer is what a spring told.
type answer struct {
	block int
	e     api.Errno
}

// spring is a fresh: it tells what tell says of the number of the call, counted from 0, and keeps it.
type spring struct {
	tell func(k int) (int, api.Errno)
	told []answer
}

func (s *spring) fresh() (int, api.Errno) {
	b, e := s.tell(len(s.told))
	s.told = append(s.told, answer{b, e})
	return b, e
}

// pool is a spring of the blocks from one up to another by step, but for those that are taken.
func pool(from, to, step int, taken func(b int) bool) *spring {
	next := from
	return &spring{tell: func(int) (int, api.Errno) {
		for ; next != to; next += step {
			if !taken(next) {
				next += step
				return next - step, api.OK
			}
		}
		return 0, api.ErrSpace
	}}
}

// good is a spring that has blocks enough for every change of a tree.
func good(tree Tree, d *disk, from, to int, l []api.Ext) *spring {
	old, nodes, _, _ := told(tree, d)
	var list []api.Ext
	if from >= 0 && from <= to && to <= 2048 && ordered(l) {
		list = replacedTold(old, from, to, l)
	}
	return pool(4095, 0, -1, func(b int) bool { return slices.Contains(nodes, b) || covers(list, []int{b}) })
}

// firstFault is the error that a Replace meets before it needs any block, and the list that it is to come to.
func firstFault(tree Tree, d *disk, from, to int, l []api.Ext) ([]api.Ext, []int, api.Errno) {
	if from < 0 || to < from || to > 2048 || !ordered(l) {
		return nil, nil, api.ErrArg
	}
	for _, x := range l {
		if x.Logical < from || x.Logical+x.Len > to {
			return nil, nil, api.ErrArg
		}
	}
	old, nodes, _, e := told(tree, d)
	if e != api.OK {
		return nil, nil, e
	}
	want := replacedTold(old, from, to, l)
	if covers(want, nodes) {
		return nil, nil, api.ErrArg
	}
	return want, nodes, api.OK
}

// springFault is the error of what a spring told, and whether it was asked again behind that.
func springFault(told []answer, want []api.Ext, nodes []int) (e api.Errno, behind bool) {
	for i, a := range told {
		var before []int
		for _, b := range told[:i] {
			before = append(before, b.block)
		}
		switch {
		case a.e != api.OK:
			return a.e, i < len(told)-1
		case a.block < 1 || a.block > 4095 || covers(want, []int{a.block}) || slices.Contains(nodes, a.block) || slices.Contains(before, a.block):
			return api.ErrArg, i < len(told)-1
		}
	}
	return api.OK, false
}

// replaces holds a Replace against the chapter: what it answers, what it writes and frees, and how often it asks s, which may be nil.
func replaces(t *testing.T, tree Tree, d *disk, from, to int, l []api.Ext, s *spring) (Set, api.Errno) {
	t.Helper()
	given, was := spare(tree), d.clone()
	room := append(make([]api.Ext, 0, len(l)+3), l...)
	fill(room[len(l):], api.Ext{Logical: -5})
	kept := slices.Clone(room[:cap(room)])
	var fresh Fresh
	if s != nil {
		fresh = s.fresh
	}
	d.reads = nil
	got, e := Replace(given, d.read, from, to, room, fresh)
	unspoilt(t, tree, given)
	if !slices.Equal(room[:cap(room)], kept) || !maps.Equal(d.blocks, was.blocks) {
		t.Fatalf("Replace(%v, %d, %d, %v) changed what it was given", tree, from, to, l)
	}
	once(t, d.reads)
	want, nodes, fault := firstFault(tree, d, from, to, l)
	switch {
	case fault == api.OK && s != nil:
		var behind bool
		if fault, behind = springFault(s.told, want, nodes); behind {
			t.Fatalf("Replace(%v, %d, %d, %v) asked on behind a fault: %v", tree, from, to, l, s.told)
		}
	case s != nil && len(s.told) > 0:
		t.Fatalf("Replace(%v, %d, %d, %v) asked for %v, though it was %v", tree, from, to, l, s.told, fault)
	case fault == api.OK && e == api.ErrArg:
		// There is nobody to ask: whoever can be asked must be.
		other := good(tree, d, from, to, l)
		if _, e := Replace(given, d.read, from, to, l, other.fresh); e != api.OK || len(other.told) == 0 {
			t.Fatalf("Replace(%v, %d, %d, %v) without a fresh is ErrArg, but needs no block", tree, from, to, l)
		}
		fault = api.ErrArg
	}
	if e != fault {
		t.Fatalf("Replace(%v, %d, %d, %v) = %v, not %v", tree, from, to, l, e, fault)
	}
	if e != api.OK {
		none(t, got)
		return got, e
	}
	holds(t, tree, d, got, want, nodes, s)
	twice(t, got, func() (Set, api.Errno) {
		k := 0
		again := func() (int, api.Errno) { k++; return s.told[k-1].block, s.told[k-1].e }
		return Replace(given, d.read, from, to, room, again)
	})
	unspoilt(t, tree, given)
	if !slices.Equal(room[:cap(room)], kept) {
		t.Fatalf("Replace(%v, %d, %d, %v): what was answered is the argument's", tree, from, to, l)
	}
	return got, api.OK
}

// holds holds a Set against its terms: the tree is one with that list, and what is told of its nodes is what became of them.
func holds(t *testing.T, tree Tree, d *disk, got Set, want []api.Ext, nodes []int, s *spring) {
	t.Helper()
	now := d.clone()
	now.take(got)
	l, after, _, e := told(got.Tree, now)
	if e != api.OK || !slices.Equal(l, want) {
		t.Fatalf("of %v: %v has the list %v, %v, not %v", tree, got, l, e, want)
	}
	var changes []api.Change
	var fresh, freed []int
	for _, b := range after {
		if !slices.Contains(nodes, b) {
			fresh = append(fresh, b)
		}
		if now.blocks[b] != d.blocks[b] || !slices.Contains(nodes, b) {
			changes = append(changes, api.Change{Block: b, Data: now.blocks[b]})
		}
	}
	for _, b := range nodes {
		if !slices.Contains(after, b) {
			freed = append(freed, b)
		}
	}
	if !slices.Equal(got.Changes, changes) {
		t.Fatalf("of %v: the changes are %v, not %v", tree, got.Changes, changes)
	}
	if !slices.Equal(got.Freed, freed) {
		t.Fatalf("of %v: %v are freed, not %v", tree, got.Freed, freed)
	}
	var asked []int
	if s != nil {
		for _, a := range s.told {
			asked = append(asked, a.block)
		}
	}
	slices.Sort(asked)
	if !slices.Equal(asked, fresh) {
		t.Fatalf("of %v: %v were asked for, but %v are new", tree, asked, fresh)
	}
}

// twice tells when the same call answers something else, or something that is the first answer's.
func twice(t *testing.T, got Set, again func() (Set, api.Errno)) {
	t.Helper()
	kept := Set{Tree: Tree{Depth: got.Tree.Depth, Root: slices.Clone(got.Tree.Root)}, Changes: slices.Clone(got.Changes), Freed: slices.Clone(got.Freed)}
	next, e := again()
	if e != api.OK || !equal(next, kept) {
		t.Fatalf("%v, and then %v, %v", kept, next, e)
	}
	fill(next.Tree.Root, api.Entry{Logical: -9})
	fill(next.Changes, api.Change{Block: -9})
	fill(next.Freed, -9)
	if !equal(got, kept) {
		t.Fatalf("%v was changed to %v", kept, got)
	}
}

func equal(a, b Set) bool {
	return a.Tree.Depth == b.Tree.Depth && slices.Equal(a.Tree.Root, b.Tree.Root) && slices.Equal(a.Changes, b.Changes) && slices.Equal(a.Freed, b.Freed)
}

// none tells when a Set beside an error is not zero.
func none(t *testing.T, s Set) {
	t.Helper()
	if s.Tree.Depth != 0 || len(s.Tree.Root)+len(s.Changes)+len(s.Freed) > 0 {
		t.Fatalf("beside an error: %v", s)
	}
}

// once tells when a block was read twice.
func once(t *testing.T, reads []int) {
	t.Helper()
	if l := slices.Sorted(slices.Values(reads)); len(slices.Compact(l)) < len(reads) {
		t.Fatalf("read %v", reads)
	}
}

// grown is a tree of a list that is laid out otherwise than by Replace: its nodes have so many entries as size tells, up to the depth asked for, and as many as can be in the levels that it needs beyond. The nodes' blocks are the highest, going down.
func grown(d *disk, list []api.Ext, depth int, size func() int) Tree {
	next := 4096
	var l []api.Entry
	for _, x := range list {
		l = append(l, api.Entry(x))
	}
	for at := 0; ; at++ {
		if at >= depth && len(l) <= 4 {
			return Tree{Depth: at, Root: l}
		}
		var heads []api.Entry
		for len(l) > 0 {
			n := 10
			if at < depth {
				n = size()
			}
			n = min(n, len(l))
			next--
			d.blocks[next] = lay(l[:n], at == 0)
			heads = append(heads, api.Entry{Logical: l[0].Logical, Physical: next})
			l = l[n:]
		}
		l = heads
	}
}

// some is a list of random extents, so many at most.
func some(r *rand.Rand, n int) []api.Ext {
	var l []api.Ext
	at := r.Intn(3)
	for range n {
		x := api.Ext{Logical: at, Physical: 1 + r.Intn(3000), Len: 1 + r.Intn(4)}
		if x.Logical+x.Len > 2048 {
			break
		}
		l = append(l, x)
		at += x.Len + r.Intn(2)*r.Intn(4)
	}
	return l
}
