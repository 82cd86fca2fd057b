package files_test

import (
	"math"
	"slices"
	"strings"
	"testing"

	"glissade/alloc"
	"glissade/api"
	"glissade/files"
	"glissade/table"
)

// laid holds the extents of an inode against a list.
func (p *pair) laid(n int, want []api.Ext) {
	p.t.Helper()
	if l, _, e := table.Exts(p.x, n); !slices.Equal(l, want) || e != api.OK {
		p.t.Fatalf("inode %d has %v, %v, wanted %v", n, l, e, want)
	}
}

// P19.2: where the blocks of holes are laid. The device's blocks are allocatable from 134 on.
func TestPlaces(t *testing.T) {
	for _, c := range []struct {
		name       string
		size       int
		has        []api.Ext
		taken      []int // pairs of a block and how many
		from, many int
		want       []api.Ext
	}{
		{"an empty file", 0, nil, nil, 0, 300, list(0, 134, 3)},
		{"an empty file, farther on", 0, nil, nil, 900, 1, list(7, 134, 1)},
		{"within a block", 300, list(0, 150, 3), nil, 130, 3, list(0, 150, 3)},
		{"across blocks", 300, list(0, 150, 3), nil, 100, 100, list(0, 150, 3)},
		{"whole blocks", 500, list(0, 150, 1, 1, 160, 3), nil, 0, 512, list(0, 150, 1, 1, 160, 3)},
		{"ahead of the first", 600, list(3, 150, 2), nil, 10, 200, list(0, 134, 2, 3, 150, 2)},
		{"ahead of the first, which it meets", 600, list(3, 150, 2), []int{134, 13}, 0, 640, list(0, 147, 3, 3, 150, 2)},
		{"between two, behind the first", 700, list(0, 150, 2, 4, 160, 2), nil, 256, 256, list(0, 150, 4, 4, 160, 2)},
		{"between two, which meet", 700, list(0, 150, 2, 4, 154, 2), nil, 200, 500, list(0, 150, 4, 4, 154, 2)},
		{"between two, not right behind the first", 700, list(0, 150, 2, 4, 160, 2), nil, 384, 1, list(0, 150, 2, 3, 152, 1, 4, 160, 2)},
		{"between two, where the next block is taken", 700, list(0, 150, 2, 4, 160, 2), []int{152, 2}, 300, 100, list(0, 150, 2, 2, 154, 2, 4, 160, 2)},
		{"behind the last", 300, list(0, 150, 3), nil, 384, 128, list(0, 150, 4)},
		{"right at the end", 256, list(0, 150, 2), nil, 256, 1, list(0, 150, 3)},
		{"behind the last, with a hole ahead", 300, list(0, 150, 3), nil, 600, 128, list(0, 150, 3, 4, 153, 2)},
		{"behind the last, where the next block is taken", 384, list(0, 150, 3), []int{153, 1}, 384, 1, list(0, 150, 3, 3, 154, 1)},
		{"behind the last, where the blocks behind are taken", 384, list(0, 150, 3), []int{153, 103}, 384, 1, list(0, 150, 3, 3, 134, 1)},
		{"behind the last of the device", 384, list(0, 253, 3), nil, 384, 1, list(0, 253, 3, 3, 134, 1)},
		{"several runs in one hole", 384, list(0, 150, 3), []int{154, 2, 158, 1}, 384, 640, list(0, 150, 4, 4, 156, 2, 6, 159, 2)},
		{"several runs without any ahead", 0, nil, []int{134, 1, 136, 1, 138, 2}, 0, 512, list(0, 135, 1, 1, 137, 1, 2, 140, 2)},
		{"several runs, over the end of the device", 128, list(0, 250, 1), []int{252, 2, 134, 3}, 128, 768, list(0, 250, 2, 2, 254, 2, 4, 137, 3)},
		{"two holes", 1000, list(1, 150, 1, 3, 200, 1), nil, 0, 640, list(0, 134, 1, 1, 150, 2, 3, 200, 2)},
		{"two holes, the second begins within the block", 1000, list(1, 150, 1, 3, 200, 5), nil, 128, 260, list(1, 150, 2, 3, 200, 5)},
		{"a goal behind the last ahead, though a later one lies before it", 1000, list(0, 200, 1, 3, 140, 1, 7, 180, 1), nil, 256, 1, list(0, 200, 1, 2, 201, 1, 3, 140, 1, 7, 180, 1)},
		{"a part of a hole", 1280, list(0, 150, 1, 9, 170, 1), nil, 400, 300, list(0, 150, 1, 3, 151, 3, 9, 170, 1)},
		{"the very end", 0, nil, nil, api.MaxSize - 1, 1, list(2047, 134, 1)},
	} {
		t.Run(c.name, func(t *testing.T) {
			p := acting(t, small(t))
			n := p.plant(text(1, c.size), c.has)
			for i := 0; i < len(c.taken); i += 2 {
				p.take(c.taken[i], c.taken[i+1])
			}
			p.next()
			holes, e := files.Blocks(p.x, n, c.from, c.many)
			p.are(api.OK, e)
			free := p.free()
			p.are(api.OK, p.write(n, c.from, text(2, c.many)))
			p.laid(n, c.want)
			if now := p.free(); now != free-holes {
				t.Errorf("%d blocks are free, not %d", now, free-holes)
			}
			p.holds()
			p.next()
			p.holds()
		})
	}
}

// P19.2: an extent becomes longer by what continues it logically and physically, and by nothing else.
func TestJoins(t *testing.T) {
	p := acting(t, small(t))
	n := p.create(api.InFile)
	for i := range 12 {
		p.are(api.OK, p.write(n, i*100, text(i, 100)))
	}
	p.laid(n, list(0, 134, 10))
	p.are(api.OK, p.write(n, 1408, "x"))
	p.laid(n, list(0, 134, 10, 11, 144, 1))
	p.are(api.OK, p.write(n, 1280, "x"))
	p.laid(n, list(0, 134, 10, 10, 145, 1, 11, 144, 1))
	p.are(api.OK, p.write(n, 1536, "x"))
	p.laid(n, list(0, 134, 10, 10, 145, 1, 11, 144, 1, 12, 146, 1))
	p.holds()
	m := p.create(api.InFile)
	p.are(api.OK, p.write(m, 0, text(3, 700)), p.write(m, 768, text(4, 300)))
	p.laid(m, list(0, 147, 9))
	p.are(api.OK, p.write(n, 1664, "x"))
	if l, nodes, e := table.Exts(p.x, n); len(l) != 5 || l[4] != (api.Ext{Logical: 13, Physical: 156, Len: 1}) || len(nodes) == 0 || e != api.OK {
		t.Error(l, nodes, e)
	}
	p.holds()
	p.next()
	p.holds()
}

// P19.2: numbers that may be, and such that may not, in front of the data's own length.
func TestWriteNumbers(t *testing.T) {
	long := text(1, api.MaxSize+1)
	p := acting(t, whole(t))
	n := p.plant(text(1, 300), list(0, 900, 3))
	p.next()
	for _, c := range []struct {
		from, many int
		want       api.Errno
	}{
		{-1, 0, api.ErrArg}, {-1, 1, api.ErrArg}, {-1, api.MaxSize + 1, api.ErrArg}, {math.MinInt, 0, api.ErrArg}, {math.MinInt, 1, api.ErrArg}, {math.MinInt, api.MaxSize + 1, api.ErrArg},
		{api.MaxSize, 0, api.OK}, {api.MaxSize, 1, api.ErrBig}, {api.MaxSize + 1, 0, api.ErrBig}, {api.MaxSize + 1, 1, api.ErrBig},
		{math.MaxInt, 0, api.ErrBig}, {math.MaxInt, 1, api.ErrBig}, {math.MaxInt, 300, api.ErrBig}, {math.MaxInt - 1, 2, api.ErrBig},
		{0, api.MaxSize + 1, api.ErrBig}, {1, api.MaxSize, api.ErrBig}, {api.MaxSize - 1, 2, api.ErrBig}, {api.MaxSize - 300, 301, api.ErrBig}, {0, 0, api.OK}, {300, 0, api.OK}, {1000, 0, api.OK},
	} {
		p.same(func() {
			if e := p.write(n, c.from, long[:c.many]); e != c.want {
				t.Errorf("%d %d: %v, wanted %v", c.from, c.many, e, c.want)
			}
		})
	}
	p.are(api.OK, p.write(n, api.MaxSize-1, "x"))
	p.holds()
	p.are(api.OK, p.write(n, api.MaxSize-300, long[:300]), p.write(n, api.MaxSize-128, long[:128]))
	p.holds()
	p.are(api.OK, p.resize(n, 0))
	p.next()
	p.are(api.OK, p.write(n, 0, long[:api.MaxSize]))
	p.laid(n, list(0, 521, 2048))
	p.holds()
	p.next()
	p.are(api.OK, p.write(n, 5, long[:api.MaxSize-5]))
	p.laid(n, list(0, 521, 2048))
	p.holds()
}

// P19.2: the bytes are data, all others are what they were; the end moves only if the data ends behind it. The bytes between the old end and the data are zero, though something stands in the last block.
func TestWriteBytes(t *testing.T) {
	for _, size := range []int{0, 1, 127, 128, 129, 300, 384, 500} {
		for _, from := range []int{0, 1, 100, 127, 128, 200, 256, 299, 300, 301, 383, 384, 500, 700} {
			for _, many := range []int{1, 2, 28, 127, 128, 129, 256, 400} {
				p := acting(t, small(t))
				n := p.plant(text(1, size), list(0, 200, (size+127)/128)[:min(size, 1)])
				p.are(api.OK, p.write(n, from, text(2, many)))
				before := text(1, size) + nul(max(0, from+many-size))
				want := before[:from] + text(2, many) + before[from+many:]
				if s, e := files.Read(p.x, n, 0, 2000); s != want || e != api.OK {
					t.Fatalf("%d %d %d: %q, %v", size, from, many, s, e)
				}
				if x, e := table.Get(p.x, n); x.Size != max(size, from+many) || e != api.OK {
					t.Fatal(x, e)
				}
				p.holds()
			}
		}
	}
}

// P19.2: in holes that are written only in part, the rest is zero; whatever stands in the blocks that they are given.
func TestWriteHoles(t *testing.T) {
	for _, from := range []int{0, 1, 127, 128, 130, 300, 600} {
		for _, many := range []int{1, 120, 128, 129, 300, 500} {
			p := acting(t, small(t))
			for b := 134; b < 256; b++ {
				p.are(api.OK, p.x.Put(b, strings.Repeat("r", 128)))
			}
			p.next()
			n := p.plant(nul(256)+text(1, 128)+nul(700), list(2, 180, 1))
			p.are(api.OK, p.write(n, from, text(2, many)))
			p.holds()
			// What was given out is zero also behind the end.
			p.are(api.OK, p.write(n, 2000, "x"))
			x := p.w.inodes[n]
			if s, e := p.x.Get(x.at[15]); s != nul(80)+"x"+nul(47) || e != api.OK {
				t.Errorf("%q %v", s, e)
			}
			p.next()
			p.holds()
		}
	}
}

// P19.2: a Write to what has blocks allocates none, asks for no more metadata than the Size needs, and leaves a move as it is.
func TestWriteAgain(t *testing.T) {
	p := furnished(t, wide(t))
	p.begin()
	free := p.free()
	p.are(api.OK, p.write(5, 0, text(9, 300)), p.write(5, 130, "x"), p.write(2, 0, text(8, 640)), p.write(2, 900, "y"), p.write(1, 128, text(7, 128)))
	if changed, waiting, _ := p.x.Size(); changed != 0 || waiting != 0 || p.free() != free {
		t.Error(changed, waiting, p.free(), free)
	}
	if p.w.super.Len == 0 {
		t.Error("the move was settled")
	}
	p.holds()
	p.are(api.OK, p.write(5, 299, "xyz"))
	if changed, waiting, _ := p.x.Size(); changed != 1 || waiting != 0 || p.free() != free { // just the inode
		t.Error(changed, waiting, p.free(), free)
	}
	p.holds()
	p.next()
	p.holds()
	for _, many := range []int{1, 128, 1000} {
		p.are(api.OK, p.write(3, 77, text(5, many)))
		free := p.free()
		p.are(api.OK, p.write(3, 77, text(6, many)))
		if p.free() != free {
			t.Error(p.free(), free)
		}
	}
	p.holds()
}

// P19.2: where no block is free, a Write that needs one is ErrSpace, whatever waits; one that needs none goes on.
func TestWriteNoSpace(t *testing.T) {
	for room := range 4 {
		p := acting(t, small(t))
		n := p.plant(text(1, 300), list(0, 200, 3))
		m := p.plant(text(2, 200), list(1, 210, 1))
		p.take(220, 9)
		for _, b := range p.w.open()[room:] {
			p.take(b, 1)
		}
		p.next()
		p.release(220, 9)
		p.end()
		p.begin()
		for blocks := range 6 {
			want := api.OK
			if blocks > room {
				want = api.ErrSpace
			}
			if e := p.write(n, 384, text(3, blocks*128)); e != want {
				t.Errorf("%d blocks where %d are free: %v", blocks, room, e)
			}
			p.again()
			p.holds()
		}
		p.are(api.OK, p.write(n, 0, text(4, 384)), p.write(m, 128, text(4, 128)), p.resize(m, api.MaxSize))
		if e := p.write(m, 127, "xx"); (e == api.ErrSpace) != (room == 0) {
			t.Error(e)
		}
		p.again()
		// Behind a commit, what waited is there.
		p.next()
		p.are(api.OK, p.write(n, 384, text(3, 9*128)))
		p.holds()
	}
}

// P19.2: where there is room for the data, but not for a node, it is ErrSpace, too.
func TestWriteNoSpaceForNode(t *testing.T) {
	p := acting(t, small(t))
	n := p.plant(text(1, 1100), list(0, 200, 1, 2, 202, 1, 4, 204, 1, 6, 206, 1))
	open := p.w.open()
	for _, b := range open[:len(open)-1] {
		p.take(b, 1)
	}
	p.next()
	p.are(api.ErrSpace, files.Write(p.x, n, 1024, "x"))
	p.again()
	p.holds()
	p.release(open[0], 1)
	p.next()
	p.are(api.OK, p.write(n, 1024, "x"))
	p.holds()
	if len(p.nodes(n)) != 1 {
		t.Error(p.nodes(n))
	}
}

// The blocks of a file are data, which stands in its home behind a commit, and not in the log; its inode is metadata. What is freed of it is freed as data.
func TestDataAndMetadata(t *testing.T) {
	p := acting(t, small(t))
	n := p.create(api.InFile)
	p.next()
	p.are(api.OK, p.write(n, 100, text(1, 500)))
	if changed, waiting, revoked := p.x.Size(); changed != 2 || waiting != 0 || revoked != 0 { // the inode and the bitmap
		t.Error(changed, waiting, revoked)
	}
	table, e := p.d.Read(p.g.TableAt)
	p.are(api.OK, e)
	p.end()
	before := p.d.Acts()
	p.commit()
	// Five blocks of data; a descriptor, two blocks of metadata and a commit; two flushes.
	if acts := p.d.Acts() - before; acts != 5+1+2+1+2 {
		t.Error(acts)
	}
	for k, b := range p.w.inodes[n].at[:5] {
		padded := nul(100) + text(1, 500) + nul(40)
		if s, e := p.d.Read(b); s != padded[k*128:k*128+128] || e != api.OK {
			t.Errorf("%d: %q %v", k, s, e)
		}
	}
	if s, e := p.d.Read(p.g.TableAt); s != table || e != api.OK {
		t.Error("the inode was written home by the commit")
	}
	p.begin()
	p.are(api.OK, p.resize(n, 200))
	if changed, waiting, revoked := p.x.Size(); changed != 2 || waiting != 3 || revoked != 0 {
		t.Error(changed, waiting, revoked)
	}
	p.holds()
}

// P19.2: blocks that were metadata, and freed, are given to a file; behind a crash no Replay writes over its bytes.
func TestWriteOverMetadata(t *testing.T) {
	p := acting(t, small(t))
	n := p.create(api.InFile)
	p.take(134, 4)
	for b := 134; b < 138; b++ {
		p.are(api.OK, p.x.Write(b, strings.Repeat("m", 128)))
	}
	p.next()
	p.are(api.OK, alloc.Free(p.x, api.Run{Start: 134, Len: 4}, true))
	for b := 134; b < 138; b++ {
		p.w.free(b, true)
	}
	p.next()
	p.are(api.OK, p.write(n, 0, text(1, 450)))
	p.laid(n, list(0, 134, 4))
	p.holds()
	p.end()
	p.commit()
	p.left(p.d.Kept(), p.w.state)
}

// P19.2: while an extent of the file is being moved, its parts are extents of their own: bytes are laid where they lie, and blocks behind the last of them.
func TestWriteMoved(t *testing.T) {
	for moved := 1; moved < 5; moved++ {
		for _, from := range []int{0, 100, 127, 200, 256, 500, 639, 640, 700, 768, 1024, 1500} {
			for _, many := range []int{1, 128, 400} {
				for _, other := range []int{6, 5} {
					p := acting(t, small(t))
					n := p.plant(text(1, 1100), list(0, 180, 5, other, 200, 3))
					p.slideBy2(n, 0, moved)
					p.read(n, 0, 2000)
					p.are(api.OK, p.write(n, from, text(2, many)))
					p.holds()
					p.next()
					p.holds()
					if p.w.super.Len > 0 {
						p.slideBy2(n, moved, 5)
						p.holds()
					}
				}
			}
		}
	}
}

// The last inode may be a file like any other.
func TestLastInode(t *testing.T) {
	p := acting(t, small(t))
	for range p.g.Inodes {
		p.create(api.InFile)
	}
	n := p.g.Inodes - 1
	p.are(api.OK, p.write(n, 100, text(1, 200)), p.write(n-1, 0, text(2, 200)), p.resize(n, 250), p.read(n, 0, 999), p.blocks(n, 0, 999))
	p.laid(n, list(0, 134, 2))
	p.holds()
	p.next()
	p.holds()
}
