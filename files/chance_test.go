package files_test

import (
	"math/rand"
	"testing"

	"glissade/api"
	"glissade/table"
)

// walk is what is done by chance with a pair.
type walk struct {
	*pair
	from *rand.Rand
	sure state // what was committed last
}

// pick is an inode, mostly one of a file.
func (k *walk) pick() int {
	if k.from.Intn(12) == 0 {
		return k.from.Intn(k.g.Inodes+2) - 1
	}
	return 1 + k.from.Intn(4)
}

// offset is a number about the bytes of an inode, at times one that may not be.
func (k *walk) offset(n int) int {
	size := 0
	if n >= 0 && n < k.g.Inodes {
		size = len(k.w.inodes[n].text)
	}
	switch k.from.Intn(12) {
	case 0:
		return api.MaxSize - 2000 + k.from.Intn(2010)
	case 1:
		return k.from.Intn(api.MaxSize+10) - 5
	case 2:
		return size + k.from.Intn(3) - 1
	case 3, 4:
		return size/128*128 + k.from.Intn(5)*128 - k.from.Intn(2)*128
	default:
		return k.from.Intn(size + 300)
	}
}

// undone drops the act behind an error that may have left something.
func (k *walk) undone(e api.Errno) {
	if e == api.ErrSpace {
		k.again()
	}
}

func (k *walk) writes() {
	n := k.pick()
	many := k.from.Intn([]int{3, 128, 300, 1100, 6000}[k.from.Intn(5)])
	if k.from.Intn(4) == 0 {
		many = many / 128 * 128
	}
	if n == 3 && k.from.Intn(4) > 0 { // one with many extents
		many = min(many, 20)
	}
	at := k.offset(n)
	many = min(many, max(5, 30000-at))
	k.undone(k.write(n, at, text(k.from.Intn(200), many)))
}

func (k *walk) resizes() {
	n := k.pick()
	end := k.offset(n)
	if k.from.Intn(6) == 0 {
		end = 0
	}
	k.undone(k.resize(n, end))
}

// slides moves some blocks of what is being moved, or of an extent.
func (k *walk) slides() {
	n, logical, many := k.w.super.Inode, k.w.super.Logical+k.w.super.Moved, k.w.super.Len-k.w.super.Moved
	to := k.w.super.To + k.w.super.Moved
	if k.w.super.Len == 0 {
		n = 1 + k.from.Intn(4)
		l := k.w.inodes[n].exts()
		open := k.w.open()
		if len(l) == 0 || len(open) == 0 {
			return
		}
		x := l[k.from.Intn(len(l))]
		logical, many, to = x.Logical, x.Len, open[k.from.Intn(len(open))]
		if to > k.g.Blocks-many {
			return
		}
	}
	room := 0
	for room < many && to+room < k.g.Blocks && !k.w.bits[to+room] && !k.w.waits[to+room] {
		room++
	}
	if room > 0 {
		k.slide(n, logical, to, 1+k.from.Intn(room))
	}
}

func (k *walk) asks() {
	n := k.pick()
	k.read(n, k.offset(n), k.from.Intn(3000)-5)
	k.blocks(n, k.offset(n), k.from.Intn(3000)-5)
}

// acts ends an act or drops it, commits now and then, and begins another one.
func (k *walk) acts() {
	if k.from.Intn(5) == 0 {
		k.again()
		return
	}
	k.end()
	if k.from.Intn(3) > 0 {
		k.commit()
		k.sure = k.w.copied()
	}
	if k.from.Intn(10) == 0 {
		image := leavings(k.from, k.d)
		k.pair = k.left(image[k.from.Intn(len(image))], k.sure)
	}
	k.begin()
}

// P19.1 to P19.5, by chance: each result is that of the chapters told block by block.
func TestByChance(t *testing.T) {
	for i, g := range []api.Geometry{small(t), wide(t), layout(t, 400, 300, 8), layout(t, 1024, 512, 16), whole(t)} {
		k := walk{pair: acting(t, g), from: rand.New(rand.NewSource(int64(i)))}
		k.create(api.InDir)
		for range 4 {
			k.create(api.InFile)
		}
		k.next()
		k.sure = k.w.copied()
		depth, moved := 0, 0
		for step := range 1500 {
			switch d := k.from.Intn(20); {
			case d < 3:
				k.acts()
			case d < 11:
				k.writes()
			case d < 15:
				k.resizes()
			case d < 18:
				k.slides()
			default:
				k.asks()
			}
			if step%10 == 0 {
				k.holds()
			}
			for n := range 5 {
				x, e := table.Get(k.x, n)
				k.are(api.OK, e)
				depth = max(depth, x.Depth)
			}
			if k.w.super.Len > 0 {
				moved++
			}
		}
		k.holds()
		if depth == 0 || moved == 0 {
			t.Error(depth, moved)
		}
	}
}
