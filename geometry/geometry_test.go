package geometry

import (
	"math"
	"slices"
	"testing"

	"glissade/api"
)

// The numbers that the chapter names as edges, their neighbours, an int's ends, and some between.
var (
	someBlocks = []int{math.MinInt, math.MinInt + 1, -256, -1, 0, 1, 255, 256, 257, 300, 1023, 1024, 1025, 2047, 2048, 2049, 3071, 3072, 3073, 4095, 4096, 4097, math.MaxInt - 1, math.MaxInt}
	someLogs   = []int{math.MinInt, -128, -1, 0, 1, 127, 128, 129, 200, 236, 237, 238, 511, 512, 513, math.MaxInt - 1, math.MaxInt}
	someInodes = []int{math.MinInt, -8, -1, 0, 2, 6, 7, 8, 9, 10, 11, 76, 78, 218, 220, 222, 510, 511, 512, 513, 514, math.MaxInt - 1, math.MaxInt}
)

// paint is the device block by block, each told by its region's number; nil if there is no such layout.
func paint(blocks, log, inodes int) []int {
	if blocks < 256 || blocks > 4096 || log < 128 || log > 512 || inodes < 8 || inodes > 512 || inodes&1 == 1 {
		return nil
	}
	device := []int{0}
	for range log {
		device = append(device, 1)
	}
	for bits := 0; bits < blocks; bits += 1024 {
		device = append(device, 2)
	}
	for n := 0; n < inodes; n += 2 {
		device = append(device, 3)
	}
	if blocks-len(device) < 16 {
		return nil
	}
	for len(device) < blocks {
		device = append(device, 4)
	}
	return device
}

// layout is what a painted device says of its regions.
func layout(device []int, log, inodes int) api.Geometry {
	var at, long [5]int
	for i, r := range device {
		if long[r] == 0 {
			at[r] = i
		}
		long[r]++
	}
	return api.Geometry{
		Blocks: len(device), Log: log, Inodes: inodes, LogAt: at[1],
		MapAt: at[2], MapLen: long[2], TableAt: at[3], TableLen: long[3], DataAt: at[4],
	}
}

// eachEdge hands on all threes of the edges.
func eachEdge(do func(blocks, log, inodes int)) {
	for _, b := range someBlocks {
		for _, l := range someLogs {
			for _, n := range someInodes {
				do(b, l, n)
			}
		}
	}
}

// someLayouts are valid layouts: the least and the greatest, and those with 1 to 4 blocks of bitmap.
func someLayouts(t *testing.T) []api.Geometry {
	var l []api.Geometry
	eachEdge(func(blocks, log, inodes int) {
		if g, e := Of(blocks, log, inodes); e == api.OK {
			l = append(l, g)
		}
	})
	if len(l) < 100 {
		t.Fatal("so few layouts:", len(l))
	}
	return l
}

// P5.1, R1, R2, R5.
func TestOf(t *testing.T) {
	eachEdge(func(blocks, log, inodes int) {
		g, e := Of(blocks, log, inodes)
		again, f := Of(blocks, log, inodes)
		if g != again || e != f {
			t.Error(blocks, log, inodes, "answers one way, then another")
		}
		device := paint(blocks, log, inodes)
		if device == nil {
			if e != api.ErrArg || g != (api.Geometry{}) {
				t.Error(blocks, log, inodes, g, e, "wanted ErrArg")
			}
			return
		}
		if want := layout(device, log, inodes); e != api.OK || g != want {
			t.Error(blocks, log, inodes, g, e, "wanted", want)
		}
	})
}

// P5.1: the chapter's examples, number by number.
func TestOfExamples(t *testing.T) {
	for _, x := range []struct {
		blocks, log, inodes int
		g                   api.Geometry
		e                   api.Errno
	}{
		{256, 128, 8, api.Geometry{Blocks: 256, Log: 128, Inodes: 8, LogAt: 1, MapAt: 129, MapLen: 1, TableAt: 130, TableLen: 4, DataAt: 134}, api.OK},
		{4096, 512, 512, api.Geometry{Blocks: 4096, Log: 512, Inodes: 512, LogAt: 1, MapAt: 513, MapLen: 4, TableAt: 517, TableLen: 256, DataAt: 773}, api.OK},
		{255, 128, 8, api.Geometry{}, api.ErrArg},
		{256, 128, 9, api.Geometry{}, api.ErrArg},
		{256, 200, 78, api.Geometry{}, api.ErrArg},
		{256, 200, 76, api.Geometry{Blocks: 256, Log: 200, Inodes: 76, LogAt: 1, MapAt: 201, MapLen: 1, TableAt: 202, TableLen: 38, DataAt: 240}, api.OK},
	} {
		if g, e := Of(x.blocks, x.log, x.inodes); g != x.g || e != x.e {
			t.Error(x.blocks, x.log, x.inodes, g, e)
		}
	}
}

// P5.1: each number by itself, right at, below and above what it may be.
func TestOfLimits(t *testing.T) {
	good := func(blocks, log, inodes int) bool {
		_, e := Of(blocks, log, inodes)
		return e == api.OK
	}
	for n := -10; n <= 5000; n++ {
		if got, want := good(n, 128, 8), n >= 256 && n <= 4096; got != want {
			t.Error("blocks", n, got)
		}
		if got, want := good(4096, n, 8), n >= 128 && n <= 512; got != want {
			t.Error("log", n, got)
		}
		if got, want := good(4096, 512, n), n >= 8 && n <= 512 && n%2 == 0; got != want {
			t.Error("inodes", n, got)
		}
	}
}

// P5.1: a data region of 15, 16 and 17 blocks, with one block of bitmap.
func TestOfLeastData(t *testing.T) {
	for log := 128; log <= 512; log++ {
		for inodes := 8; inodes <= 512; inodes += 2 {
			before := 1 + log + 1 + inodes/2
			for _, data := range []int{15, 16, 17} {
				blocks := before + data
				if blocks < 256 {
					continue
				}
				g, e := Of(blocks, log, inodes)
				if data == 15 {
					if e != api.ErrArg || g != (api.Geometry{}) {
						t.Fatal(blocks, log, inodes, g, e)
					}
					continue
				}
				if e != api.OK || g.DataAt != before || g.Blocks-g.DataAt != data {
					t.Fatal(blocks, log, inodes, g, e)
				}
			}
		}
	}
}

// P5.1: the greatest device that needs so many blocks of bitmap, and the least that needs one more.
func TestOfBitmap(t *testing.T) {
	for blocks := 256; blocks <= 4096; blocks++ {
		want := 1
		for want*1024 < blocks {
			want++
		}
		if g, e := Of(blocks, 128, 8); e != api.OK || g.MapLen != want || g.TableAt != g.MapAt+want {
			t.Error(blocks, g, e, "wanted", want)
		}
	}
}

// P5.2, P5.4, R1: each block's region, and there is none before the first block or behind the last one.
func TestWhere(t *testing.T) {
	for _, g := range someLayouts(t) {
		for block, want := range paint(g.Blocks, g.Log, g.Inodes) {
			if n := Where(g, block); n != want {
				t.Fatal(g, block, n, "wanted", want)
			}
		}
		for _, block := range []int{math.MinInt, math.MinInt + 1, -1024, -1, g.Blocks, g.Blocks + 1, 2 * g.Blocks, math.MaxInt - 1, math.MaxInt} {
			if n := Where(g, block); n != -1 {
				t.Fatal(g, block, n)
			}
		}
	}
}

// P5.2: the first and the last block of each region, told by the layout's own numbers.
func TestWhereEnds(t *testing.T) {
	for _, g := range someLayouts(t) {
		ends := [][3]int{
			{0, 0, 0}, {1, g.LogAt, g.LogAt + g.Log - 1}, {2, g.MapAt, g.MapAt + g.MapLen - 1},
			{3, g.TableAt, g.TableAt + g.TableLen - 1}, {4, g.DataAt, g.Blocks - 1},
		}
		for _, x := range ends {
			if first, last := Where(g, x[1]), Where(g, x[2]); first != x[0] || last != x[0] {
				t.Fatal(g, x, first, last)
			}
		}
	}
}

// P5.2, R4: the one run of all blocks before the data, in new memory.
func TestFixed(t *testing.T) {
	for _, g := range someLayouts(t) {
		want := []api.Run{{Start: 0, Len: g.DataAt}}
		l := Fixed(g)
		if !slices.Equal(l, want) {
			t.Fatal(g, l)
		}
		l[0] = api.Run{Start: 7, Len: 7}
		if again := Fixed(g); !slices.Equal(again, want) {
			t.Fatal(g, again, "is memory that was handed out before")
		}
	}
}

// P5.3, P5.4, R5: each inode's place; there is none before the first inode or behind the last one.
func TestInodeAt(t *testing.T) {
	for _, g := range someLayouts(t) {
		block, offset := g.TableAt, 0
		for n := range g.Inodes {
			if b, at, e := InodeAt(g, n); b != block || at != offset || e != api.OK {
				t.Fatal(g, n, b, at, e, "wanted", block, offset)
			}
			if offset += 64; offset == 128 {
				block, offset = block+1, 0
			}
		}
		for _, n := range []int{math.MinInt, math.MinInt + 1, -2, -1, g.Inodes, g.Inodes + 1, 2 * g.Inodes, math.MaxInt - 1, math.MaxInt} {
			if b, at, e := InodeAt(g, n); b != 0 || at != 0 || e != api.ErrNone {
				t.Fatal(g, n, b, at, e)
			}
		}
	}
}

// P5.2, P5.3: the chapter's examples.
func TestExamples(t *testing.T) {
	g, _ := Of(256, 128, 8)
	for _, x := range [][2]int{{0, 0}, {128, 1}, {129, 2}, {130, 3}, {134, 4}, {256, -1}} {
		if n := Where(g, x[0]); n != x[1] {
			t.Error(x, n)
		}
	}
	if b, at, e := InodeAt(g, 3); b != 131 || at != 64 || e != api.OK {
		t.Error(b, at, e)
	}
	if b, at, e := InodeAt(g, 8); b != 0 || at != 0 || e != api.ErrNone {
		t.Error(b, at, e)
	}
	if l := Fixed(g); !slices.Equal(l, []api.Run{{Start: 0, Len: 134}}) {
		t.Error(l)
	}
}

// refused tells whether g is taken for a layout that is none: by no block, and by no inode, be it one or not.
func refused(g api.Geometry) bool {
	for _, n := range []int{math.MinInt, -1, 0, 1, 7, 8, 130, 255, 256, 4096, math.MaxInt} {
		if b, at, e := InodeAt(g, n); b != 0 || at != 0 || e != api.ErrArg || Where(g, n) != -1 {
			return false
		}
	}
	return len(Fixed(g)) == 0
}

// numbers are all numbers of a layout, to be changed one by one.
func numbers(g *api.Geometry) []*int {
	return []*int{&g.Blocks, &g.Log, &g.Inodes, &g.LogAt, &g.MapAt, &g.MapLen, &g.TableAt, &g.TableLen, &g.DataAt}
}

// P5.2, P5.3, R1, R5: a layout of which one number other than Blocks is another one is not valid; one of which Blocks is another number is valid just if Of returns it.
func TestOneOtherNumber(t *testing.T) {
	for _, g := range someLayouts(t) {
		for i := range numbers(&g) {
			was := *numbers(&g)[i]
			for _, n := range []int{math.MinInt, math.MinInt + 1, -was, -1, 0, 1, was - 2, was - 1, was + 1, was + 2, was ^ 1024, was ^ 256, math.MaxInt - 1, math.MaxInt} {
				if n == was {
					continue
				}
				h := g
				*numbers(&h)[i] = n
				of, e := Of(h.Blocks, h.Log, h.Inodes)
				valid := e == api.OK && of == h
				if valid && i > 0 {
					t.Fatal(g, h, "are two layouts of the same places")
				}
				if refused(h) == valid {
					t.Fatal(g, h, valid)
				}
			}
		}
	}
}

// P5.2, P5.3: with only Blocks changed, the layouts that need as many blocks of bitmap are valid, and no others.
func TestOtherBlocks(t *testing.T) {
	g, _ := Of(1500, 128, 8)
	for blocks := -10; blocks <= 5000; blocks++ {
		h := g
		h.Blocks = blocks
		if valid := blocks > 1024 && blocks <= 2048; refused(h) == valid {
			t.Fatal(h, valid)
		}
	}
}

// P5.2, P5.3: layouts that are none though they look like some.
func TestNoLayouts(t *testing.T) {
	for _, g := range []api.Geometry{
		{},
		// Data regions of 15 blocks and of none.
		{Blocks: 256, Log: 200, Inodes: 78, LogAt: 1, MapAt: 201, MapLen: 1, TableAt: 202, TableLen: 39, DataAt: 241},
		{Blocks: 256, Log: 200, Inodes: 108, LogAt: 1, MapAt: 201, MapLen: 1, TableAt: 202, TableLen: 54, DataAt: 256},
		// A number right beside what it may be.
		{Blocks: 255, Log: 128, Inodes: 8, LogAt: 1, MapAt: 129, MapLen: 1, TableAt: 130, TableLen: 4, DataAt: 134},
		{Blocks: 4097, Log: 128, Inodes: 8, LogAt: 1, MapAt: 129, MapLen: 5, TableAt: 134, TableLen: 4, DataAt: 138},
		{Blocks: 256, Log: 127, Inodes: 8, LogAt: 1, MapAt: 128, MapLen: 1, TableAt: 129, TableLen: 4, DataAt: 133},
		{Blocks: 4096, Log: 513, Inodes: 8, LogAt: 1, MapAt: 514, MapLen: 4, TableAt: 518, TableLen: 4, DataAt: 522},
		{Blocks: 256, Log: 128, Inodes: 6, LogAt: 1, MapAt: 129, MapLen: 1, TableAt: 130, TableLen: 3, DataAt: 133},
		{Blocks: 4096, Log: 512, Inodes: 514, LogAt: 1, MapAt: 513, MapLen: 4, TableAt: 517, TableLen: 257, DataAt: 774},
		{Blocks: 256, Log: 128, Inodes: 9, LogAt: 1, MapAt: 129, MapLen: 1, TableAt: 130, TableLen: 4, DataAt: 134},
		{Blocks: 256, Log: 128, Inodes: 9, LogAt: 1, MapAt: 129, MapLen: 1, TableAt: 130, TableLen: 5, DataAt: 135},
		// Two numbers that go together.
		{Blocks: 256, Log: 128, Inodes: 8, LogAt: 1, MapAt: 129, MapLen: 2, TableAt: 131, TableLen: 4, DataAt: 135},
		{Blocks: 256, Log: 128, Inodes: 8, LogAt: 2, MapAt: 130, MapLen: 1, TableAt: 131, TableLen: 4, DataAt: 135},
	} {
		if !refused(g) {
			t.Error(g, "is taken for a layout")
		}
	}
}

// P5.4: the regions follow one another and fill the device; the inodes' places differ, fit their blocks and lie in the table; each block has its bit.
func TestConsequences(t *testing.T) {
	for _, g := range someLayouts(t) {
		if g.LogAt != 1 || g.MapAt != g.LogAt+g.Log || g.TableAt != g.MapAt+g.MapLen || g.DataAt != g.TableAt+g.TableLen || g.DataAt >= g.Blocks {
			t.Fatal(g, "has a gap")
		}
		last := 0
		for block := range g.Blocks {
			n := Where(g, block)
			if n < last || n > last+1 || n > 4 {
				t.Fatal(g, block, n, "comes behind", last)
			}
			last = n
		}
		if last != 4 || g.MapLen*api.BlockSize*8 < g.Blocks {
			t.Fatal(g, last)
		}
		seen := map[[2]int]bool{}
		for n := range g.Inodes {
			b, at, e := InodeAt(g, n)
			if e != api.OK || Where(g, b) != 3 || at < 0 || at+api.InodeSize > api.BlockSize || at%api.InodeSize != 0 || seen[[2]int{b, at}] {
				t.Fatal(g, n, b, at, e)
			}
			seen[[2]int{b, at}] = true
		}
	}
}
