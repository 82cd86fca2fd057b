package table_test

import (
	"math/rand"
	"slices"
	"testing"

	"glissade/api"
	"glissade/table"
)

// walk is what is done by chance with a pair.
type walk struct {
	*pair
	from *rand.Rand
	sure state // what was committed last
}

// pick is an inode, mostly one that is used.
func (k *walk) pick() int {
	if used := k.w.used(); len(used) > 0 && k.from.Intn(8) > 0 {
		return used[k.from.Intn(len(used))]
	}
	return k.from.Intn(k.g.Inodes+2) - 1
}

// opens is a run of open blocks, up to so many; its Len is 0 if none was found.
func (k *walk) opens(most int) api.Run {
	l := k.open()
	if len(l) < 60 {
		return api.Run{}
	}
	at := k.from.Intn(len(l))
	n := 1
	for n < most && at+n < len(l) && l[at+n] == l[at]+n {
		n++
	}
	return api.Run{Start: l[at], Len: n}
}

// extents is a list of some extents from one logical block up to another, whose blocks are taken.
func (k *walk) extents(from, to int) []api.Ext {
	var l []api.Ext
	for at := from; at < to && k.from.Intn(7) > 0; {
		at += k.from.Intn(3) / 2
		r := k.opens(min(1+k.from.Intn(4), to-at))
		if at >= to || r.Len == 0 {
			break
		}
		l = append(l, api.Ext{Logical: at, Physical: r.Start, Len: r.Len})
		k.take(l[len(l)-1])
		at += r.Len
	}
	return l
}

// loose frees the blocks that have been mapped and are not any more.
func (k *walk) loose(before []api.Ext, n int) {
	after, _ := k.w.exts(n)
	for _, x := range before {
		for b := x.Physical; b < x.Physical+x.Len; b++ {
			if !hits(after, []int{b}) {
				k.release(api.Ext{Physical: b, Len: 1})
			}
		}
	}
}

func (k *walk) sets() {
	n := k.pick()
	before, e := k.w.exts(n)
	if len(k.open()) < 60 {
		return
	}
	from := k.from.Intn([]int{2048, 60, 12}[k.from.Intn(3)])
	to := min(2048, from+k.from.Intn(30))
	if k.from.Intn(15) == 0 {
		k.set(n, to+k.from.Intn(3)-1, from+k.from.Intn(3), before)
		k.again()
		return
	}
	l := k.extents(from, to)
	if e != api.OK {
		k.are(e, k.set(n, from, to, l))
		k.release(l...)
		return
	}
	k.are(api.OK, k.set(n, from, to, l))
	k.loose(before, n)
}

// again drops the act, as one does behind an error, and begins another one.
func (k *walk) again() {
	k.undo()
	k.begin()
}

// slides moves some blocks of an extent, mostly so that it may be.
func (k *walk) slides() {
	n := k.pick()
	s := k.w.super
	if s.Len > 0 && k.from.Intn(6) > 0 {
		n = s.Inode
	}
	l, e := k.w.exts(n)
	if e != api.OK || len(l) == 0 {
		k.slide(n, 0, 200, 190, 1)
		return
	}
	x := l[k.from.Intn(len(l))]
	to := k.opens(x.Len)
	if s.Len > 0 && s.Inode == n && k.from.Intn(6) > 0 {
		x = api.Ext{Logical: s.Logical + s.Moved, Physical: s.From + s.Moved, Len: s.Len - s.Moved}
		to = api.Run{Start: s.To + s.Moved, Len: x.Len}
	}
	if to.Len < x.Len {
		k.are(api.ErrArg, k.slide(n, x.Logical+1, x.Physical, to.Start, x.Len))
		return
	}
	m := 1 + k.from.Intn(x.Len)
	for b := to.Start; b < to.Start+m; b++ {
		if k.w.bits[b] || k.w.waits[b] {
			return
		}
	}
	if k.slide(n, x.Logical, x.Physical, to.Start, m) != api.OK {
		return
	}
	k.take(api.Ext{Physical: to.Start, Len: m})
	k.release(api.Ext{Physical: x.Physical, Len: m})
}

func (k *walk) leads() {
	n := k.pick()
	nodes, r := k.nodes(n), k.opens(1)
	if len(nodes) == 0 || r.Len == 0 {
		k.lead(n, 200, 201)
		return
	}
	from := nodes[k.from.Intn(len(nodes))]
	switch k.from.Intn(6) {
	case 0:
		k.lead(n, from, from)
	case 1:
		k.lead(n, from, nodes[0])
	default:
		k.take(api.Ext{Physical: r.Start, Len: 1})
		k.are(api.OK, k.lead(n, from, r.Start))
	}
}

// puts lays down an inode anew, with its tree as it is.
func (k *walk) puts() {
	n := k.pick()
	if n < 0 || n >= k.g.Inodes || k.w.inodes[n].kind == api.InFree {
		return
	}
	x, e := table.Get(k.x, n)
	k.are(api.OK, e)
	x.Pinned, x.Links, x.Size = k.from.Intn(2) == 0, k.from.Intn(101), k.from.Intn(262145)
	k.are(api.OK, table.Put(k.x, n, x))
	y := &k.w.inodes[n]
	y.pinned, y.links, y.size = x.Pinned, x.Links, x.Size
}

func (k *walk) changes() {
	switch k.from.Intn(20) {
	case 0, 1:
		k.create(k.from.Intn(4), k.from.Intn(103)-1)
	case 2:
		k.drop(k.pick())
	case 3:
		k.aim(k.from.Intn(k.g.Blocks+3) - 1)
	case 4:
		if len(k.open()) > 20 && k.from.Intn(3) == 0 {
			k.settle()
		}
	case 5, 6, 7, 8:
		k.slides()
	case 9, 10:
		k.leads()
	case 11:
		k.puts()
	default:
		k.sets()
	}
}

// acts ends an act or drops it, commits now and then, and begins another one.
func (k *walk) acts() {
	if k.from.Intn(4) == 0 {
		k.again()
		return
	}
	k.end()
	if k.from.Intn(3) > 0 {
		k.commit()
		k.sure = k.w.copied()
	}
	if k.from.Intn(10) == 0 {
		image := leavings(k.from, k.d)
		k.pair = k.left(image[k.from.Intn(len(image))], k.sure)
	}
	k.begin()
}

// P18.1 to P18.8, by chance: each result is that of the chapters told inode by inode and block by block.
func TestByChance(t *testing.T) {
	for i, g := range []api.Geometry{small(t), wide(t), layout(t, 400, 300, 8), layout(t, 1024, 512, 64), whole(t)} {
		k := walk{pair: acting(t, g), from: rand.New(rand.NewSource(int64(i)))}
		k.undo()
		k.sure = k.w.copied()
		k.begin()
		depths := make([]int, 5)
		for step := range 1500 {
			if k.from.Intn(7) == 0 {
				k.acts()
			} else {
				k.changes()
			}
			if g.Blocks < 300 || step%20 == 0 {
				k.holds()
			}
			for n := range min(g.Inodes, 8) {
				depths[k.raw(n).Depth]++
			}
		}
		k.holds()
		if slices.Contains(depths[:2], 0) {
			t.Error(depths)
		}
	}
}
