package alloc_test

import (
	"math"
	"math/rand"
	"testing"

	"glissade/api"
)

// walk is what is done by chance with a pair.
type walk struct {
	*pair
	from  *rand.Rand
	since []int // how often a block was given out since the last commit behind which it was not used
	had   []int // the same, when the act in progress began
	sure  string
}

// number is one of a layout's blocks, mostly, or one at its bounds, or none.
func (k *walk) number() int {
	switch k.from.Intn(12) {
	case 0:
		l := numbers(k.g)
		return l[k.from.Intn(len(l))]
	case 1:
		return k.from.Intn(k.g.MapLen)*1024 + k.from.Intn(9) - 4
	case 2:
		return k.g.Blocks - k.from.Intn(6)
	}
	return k.g.DataAt + k.from.Intn(k.g.Blocks-k.g.DataAt)
}

func (k *walk) length() int {
	switch k.from.Intn(40) {
	case 0:
		return k.from.Intn(3) - 2
	case 1:
		return []int{math.MaxInt, math.MinInt, math.MaxInt - k.g.Blocks, k.g.Blocks}[k.from.Intn(4)]
	case 2, 3, 4:
		return k.from.Intn(k.g.Blocks)
	}
	return 1 + k.from.Intn(12)
}

// usedRun is a run of used blocks, mostly.
func (k *walk) usedRun() api.Run {
	r := run(k.number(), 1)
	for range 50 {
		if r.Start >= k.g.DataAt && r.Start < k.g.Blocks && k.w.bits[r.Start] {
			break
		}
		r.Start = k.number()
	}
	if r.Start < 0 || r.Start >= k.g.Blocks {
		return r
	}
	for most := k.length(); r.Len < most && r.Start+r.Len < k.g.Blocks && k.w.bits[r.Start+r.Len]; {
		r.Len++
	}
	return r
}

// given holds that no block is given out that was given out before, unless it was freed and a commit took place in between.
func (k *walk) given(r api.Run) {
	for b := r.Start; b < r.Start+r.Len; b++ {
		if k.since[b] > 0 {
			k.t.Fatal("given out twice:", b)
		}
		k.since[b]++
	}
}

// committed is what a commit leaves of what was given out.
func (k *walk) committed() {
	k.sure = k.w.image()
	for b := range k.since {
		if !k.w.bits[b] {
			k.since[b] = 0
		}
	}
}

func (k *walk) changes() {
	switch k.from.Intn(9) {
	case 0, 1, 2:
		if r, e := k.run(k.number(), k.length()); e == api.OK {
			k.given(r)
		}
	case 3, 4:
		r := run(k.number(), k.length())
		if k.from.Intn(3) > 0 {
			r.Len = 1
		}
		if k.take(r) == api.OK {
			k.given(r)
		}
	case 5, 6, 7:
		k.free(k.usedRun(), k.from.Intn(2) == 0)
	case 8:
		if r := k.usedRun(); k.w.acting && k.w.blocks(r) != nil && k.w.bits[r.Start] && !k.w.waits[r.Start] {
			k.write(r.Start)
		}
	}
}

func (k *walk) acts() {
	if !k.w.acting {
		if k.from.Intn(3) == 0 {
			k.commit()
			k.committed()
			return
		}
		k.begin()
		k.had = append([]int(nil), k.since...)
		return
	}
	if k.from.Intn(3) == 0 {
		k.drop()
		k.since = k.had
		return
	}
	k.end()
}

// crash goes on with what a crash has left: the last commit.
func (k *walk) crash() {
	image := leavings(k.from, k.d)
	k.pair = k.left(image[k.from.Intn(len(image))], k.sure)
	for b := range k.since {
		k.since[b] = 0
		if k.w.bits[b] {
			k.since[b] = 1
		}
	}
}

// P17.1 to P17.5, by chance: each result is that of the chapters told block by block.
func TestByChance(t *testing.T) {
	for i, g := range []api.Geometry{small(t), narrow(t), wide(t), layout(t, 1024, 200, 16), layout(t, 2060, 300, 64), whole(t)} {
		k := walk{pair: begun(t, g, fixed(g)), from: rand.New(rand.NewSource(int64(i))), since: make([]int, g.Blocks)}
		k.committed()
		for step := range 4000 {
			switch {
			case k.from.Intn(6) == 0:
				k.acts()
			case k.from.Intn(100) == 0:
				k.crash()
			default:
				k.changes()
			}
			if g.Blocks < 300 || step%25 == 0 {
				k.holds()
			}
		}
		k.drop()
		k.commit()
		k.holds()
	}
}
