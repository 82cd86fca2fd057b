package files_test

import (
	"math"
	"strings"
	"testing"

	"glissade/api"
	"glissade/files"
	"glissade/table"
)

// edges is numbers about the size of a file, about the ends of its blocks, and about an int's own ends.
func edges(size int) []int {
	l := []int{math.MinInt, -1, 0, 1, api.MaxSize - 1, api.MaxSize, api.MaxSize + 1, math.MaxInt - 1, math.MaxInt}
	for at := 128; at <= size+128; at += 128 {
		l = append(l, at-1, at, at+1)
	}
	return append(l, size-1, size, size+1)
}

// shapes is a system with files of many kinds; the numbers of their inodes are 0 and those that follow.
func shapes(t *testing.T) *pair {
	t.Helper()
	p := acting(t, wide(t))
	p.plant("", nil)
	p.plant(text(1, 1), list(0, 300, 1))
	p.plant(nul(700), nil)
	p.plant(text(2, 128), list(0, 310, 1))
	p.plant(text(3, 129), list(0, 321, 1, 1, 320, 1))
	p.plant(text(4, 1000), list(1, 400, 2, 3, 340, 1, 6, 330, 2))
	p.plant(text(5, 901), list(0, 360, 8))
	p.plant(text(6, 1024), list(2, 370, 1, 3, 371, 3, 7, 369, 1))
	p.plant(text(8, 3000), list(0, 500, 1, 2, 502, 1, 4, 504, 1, 6, 506, 1, 8, 508, 2, 12, 510, 1, 14, 512, 1, 16, 514, 1, 18, 516, 1, 20, 518, 1, 22, 520, 2))
	p.holds()
	return p
}

// The chapter's examples, one behind the other.
func TestExamples(t *testing.T) {
	p := acting(t, small(t))
	p.create(api.InDir)
	p.take(134, 1)
	p.are(api.OK, table.Set(p.x, 0, 0, 1, list(0, 134, 1)))
	if n := p.create(api.InFile); n != 1 {
		t.Fatal(n)
	}
	if e := files.Write(p.x, 1, 200, "abc"); e != api.OK {
		t.Error(e)
	}
	if x, e := table.Get(p.x, 1); x.Size != 203 || e != api.OK {
		t.Error(x, e)
	}
	if n, e := files.Blocks(p.x, 1, 0, 300); n != 2 || e != api.OK {
		t.Error(n, e)
	}
	if l, _, e := table.Exts(p.x, 1); len(l) != 1 || l[0] != (api.Ext{Logical: 1, Physical: 135, Len: 1}) || e != api.OK {
		t.Error(l, e)
	}
	if s, e := files.Read(p.x, 1, 198, 9); s != "\x00\x00abc" || e != api.OK {
		t.Errorf("%q %v", s, e)
	}
	p.are(api.OK, files.Resize(p.x, 1, 201), files.Resize(p.x, 1, 300))
	if s, e := files.Read(p.x, 1, 200, 9); s != "a\x00\x00\x00\x00\x00\x00\x00\x00" || e != api.OK {
		t.Errorf("%q %v", s, e)
	}
	p.are(api.ErrBig, files.Write(p.x, 1, 262144, "x"), files.Resize(p.x, 1, 262145))
	p.are(api.ErrArg, files.Write(p.x, 1, -1, "x"))
	p.are(api.ErrNone, files.Write(p.x, 0, 0, "x"))
	if s, e := files.Read(p.x, 5, 0, 1); s != "" || e != api.ErrNone {
		t.Error(s, e)
	}
}

// P19.1: all pairs of numbers about the edges of files of many kinds; nothing behind the end is told, though something stands there.
func TestRead(t *testing.T) {
	p := shapes(t)
	for n := range 9 {
		size := len(p.w.inodes[n].text)
		l := edges(size)
		for _, from := range l {
			for _, many := range l {
				p.read(n, from, many)
			}
		}
	}
	p.same(func() { p.read(4, 0, math.MaxInt) })
	p.next()
	p.holds()
	for n := range 9 {
		for from := range 300 {
			p.read(n, from*4, 7)
			p.read(n, from*4, 300)
		}
	}
}

// P19.1: a file of holes alone, up to the greatest size, and one whose last bytes stand at the very end.
func TestReadHoles(t *testing.T) {
	p := acting(t, small(t))
	p.create(api.InFile)
	p.are(api.OK, p.resize(0, api.MaxSize))
	if s, e := files.Read(p.x, 0, 0, math.MaxInt); s != nul(api.MaxSize) || e != api.OK {
		t.Error(len(s), e)
	}
	p.are(api.OK, p.write(0, api.MaxSize-2, "yz"))
	for _, from := range []int{api.MaxSize - 4, api.MaxSize - 1, api.MaxSize, api.MaxSize + 1} {
		for _, many := range []int{0, 1, 2, 9, math.MaxInt} {
			p.read(0, from, many)
		}
	}
	if s, e := files.Read(p.x, 0, 200000, 1024); s != nul(1024) || e != api.OK {
		t.Error(s, e)
	}
	p.holds()
}

// P19.1: whatever the bytes behind the end in the last block are, they are not told, and not when the file became longer.
func TestBehindTheEnd(t *testing.T) {
	for _, size := range []int{1, 5, 127, 128, 129, 255, 256, 300} {
		for _, end := range []int{size + 1, 128, 256, 257, 384, 400, 1000} {
			for _, at := range []int{0, 128, 256, 300, 384, 900} {
				if end < size {
					continue
				}
				p := acting(t, small(t))
				n := p.plant(text(1, size), list(0, 200, (size+127)/128))
				p.next()
				p.read(n, 0, 1000)
				p.are(api.OK, p.resize(n, end))
				p.holds()
				p.again()
				p.are(api.OK, p.write(n, max(size, at), "xyz"))
				p.holds()
				p.next()
				p.holds()
			}
		}
	}
}

// P19.4: all pairs of numbers about the edges of files of many kinds.
func TestBlocks(t *testing.T) {
	p := shapes(t)
	for n := range 9 {
		l := edges(len(p.w.inodes[n].text))
		for _, from := range l {
			for _, many := range l {
				if e := p.blocks(n, from, many); (e == api.OK) != (from >= 0 && many >= 0 && from <= api.MaxSize && many <= api.MaxSize-from) {
					t.Error(n, from, many, e)
				}
			}
		}
	}
	p.same(func() { p.are(api.OK, p.blocks(5, 0, api.MaxSize)) })
	if n, e := files.Blocks(p.x, 5, 127, 0); n != 0 || e != api.OK {
		t.Error(n, e)
	}
	if n, e := files.Blocks(p.x, 5, 127, 2); n != 1 || e != api.OK {
		t.Error(n, e)
	}
	if n, e := files.Blocks(p.x, 5, 0, 1024); n != 3 || e != api.OK {
		t.Error(n, e)
	}
	if n, e := files.Blocks(p.x, 0, 0, api.MaxSize); n != 2048 || e != api.OK {
		t.Error(n, e)
	}
}

// P19.4: what Blocks tells is how many blocks a Write there is given; nodes aside, of which there are none here.
func TestBlocksOfWrite(t *testing.T) {
	p := shapes(t)
	for n := range 8 {
		for _, from := range []int{0, 1, 127, 128, 300, 640, 700, 1000, 2000, api.MaxSize - 300} {
			for _, many := range []int{1, 2, 127, 128, 129, 300} {
				k, e := files.Blocks(p.x, n, from, many)
				p.are(api.OK, e)
				free, nodes := p.free(), len(p.nodes(n))
				p.are(api.OK, p.write(n, from, text(n, many)))
				if now := free - p.free() - (len(p.nodes(n)) - nodes); now != k {
					t.Errorf("%d %d %d: %d blocks, not %d", n, from, many, now, k)
				}
				p.are(api.OK, p.blocks(n, from, many))
				if k, e := files.Blocks(p.x, n, from, many); k != 0 || e != api.OK {
					t.Error(k, e)
				}
			}
		}
		p.holds()
		p.next()
		for m := range n + 1 {
			p.are(api.OK, p.resize(m, 0))
		}
		p.next()
	}
}

// What is read is a text of its own, whatever becomes of the file behind that.
func TestReadStays(t *testing.T) {
	p := acting(t, small(t))
	n := p.plant(text(1, 500), list(0, 200, 4))
	s, e := files.Read(p.x, n, 0, 500)
	p.are(api.OK, e, p.write(n, 0, strings.Repeat("x", 500)), p.resize(n, 0))
	if s != text(1, 500) {
		t.Error("what was read is another text now")
	}
}
