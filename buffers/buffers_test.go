package buffers

import (
	"math"
	"math/rand"
	"slices"
	"strings"
	"testing"

	"glissade/api"
	"glissade/device"
)

// full is a block of 128 of one letter.
func full(letter string) string { return strings.Repeat(letter, 128) }

var zero = full("\x00")

// some is a block whose bytes differ from their neighbours, another one for each n below 2^16.
func some(n int) string {
	b := make([]byte, 128)
	for i := range b {
		b[i] = byte(i*7 + n)
	}
	b[3], b[127] = byte(n>>8), byte(n)
	return string(b)
}

// entry is a buffer as the chapter tells it.
type entry struct {
	b             int
	data          string
	dirty, pinned bool
}

// story is a cache as the chapter tells it, over a device of its own: its buffers, from the least recently used one on.
type story struct {
	d        *device.Device
	capacity int
	l        []entry
}

func (s *story) exists(b int) bool { return 0 <= b && b < s.d.Blocks() }

func (s *story) at(b int) int {
	return slices.IndexFunc(s.l, func(x entry) bool { return x.b == b })
}

func (s *story) makeRoom() api.Errno {
	if len(s.l) < s.capacity {
		return api.OK
	}
	for i, x := range s.l {
		if x.pinned {
			continue
		}
		if x.dirty {
			if e := s.d.Write(x.b, x.data); e != api.OK {
				return e
			}
		}
		s.l = slices.Delete(s.l, i, i+1)
		return api.OK
	}
	return api.ErrPinned
}

// last puts buffer i behind all others.
func (s *story) last(i int) *entry {
	x := s.l[i]
	s.l = append(slices.Delete(s.l, i, i+1), x)
	return &s.l[len(s.l)-1]
}

func (s *story) get(b int) (string, api.Errno) {
	if !s.exists(b) {
		return "", api.ErrBlock
	}
	if i := s.at(b); i >= 0 {
		return s.last(i).data, api.OK
	}
	if e := s.makeRoom(); e != api.OK {
		return "", e
	}
	data, _ := s.d.Read(b)
	s.l = append(s.l, entry{b: b, data: data})
	return data, api.OK
}

func (s *story) put(b int, data string, pin bool) api.Errno {
	if !s.exists(b) {
		return api.ErrBlock
	}
	if len(data) != 128 {
		return api.ErrArg
	}
	if s.at(b) < 0 {
		if e := s.makeRoom(); e != api.OK {
			return e
		}
		s.l = append(s.l, entry{b: b})
	}
	x := s.last(s.at(b))
	x.data, x.dirty, x.pinned = data, true, x.pinned || pin
	return api.OK
}

func (s *story) unpin(b int) {
	if i := s.at(b); i >= 0 {
		s.l[i].pinned = false
	}
}

func (s *story) forget(b int) {
	s.l = slices.DeleteFunc(s.l, func(x entry) bool { return x.b == b })
}

func (s *story) out(b int) api.Errno {
	i := s.at(b)
	if i < 0 || !s.l[i].dirty || s.l[i].pinned {
		return api.OK
	}
	e := s.d.Write(b, s.l[i].data)
	s.l[i].dirty = e != api.OK
	return e
}

func (s *story) sync() api.Errno {
	for b := range s.d.Blocks() {
		if e := s.out(b); e != api.OK {
			return e
		}
	}
	return api.OK
}

func (s *story) having(has func(entry) bool) []int {
	var l []int
	for _, x := range s.l {
		if has(x) {
			l = append(l, x.b)
		}
	}
	slices.Sort(l)
	return l
}

func (s *story) dirty() []int  { return s.having(func(x entry) bool { return x.dirty }) }
func (s *story) pinned() []int { return s.having(func(x entry) bool { return x.pinned }) }

// pair is a cache with its device, and its story.
type pair struct {
	t *testing.T
	d *device.Device
	c *Cache
	s *story
}

func disk(t *testing.T, image string) *device.Device {
	t.Helper()
	d, e := device.Open(image)
	if e != api.OK {
		t.Fatal(len(image), e)
	}
	return d
}

func cacheOf(t *testing.T, d *device.Device, capacity int) *Cache {
	t.Helper()
	c, e := New(d, capacity)
	if c == nil || e != api.OK {
		t.Fatal(capacity, e)
	}
	return c
}

// begun is a cache of a device whose block b begins with some(1000 + b).
func begun(t *testing.T, blocks, capacity int) *pair {
	t.Helper()
	var image strings.Builder
	for b := range blocks {
		image.WriteString(some(1000 + b))
	}
	d := disk(t, image.String())
	p := &pair{t, d, cacheOf(t, d, capacity), &story{d: disk(t, image.String()), capacity: capacity}}
	p.same()
	return p
}

// same holds everything that can be asked without using a buffer against the story.
func (p *pair) same() {
	p.t.Helper()
	there := 0
	for b := -2; b < p.d.Blocks()+3; b++ {
		if p.c.Has(b) != (p.s.at(b) >= 0) {
			p.t.Fatal("block", b, "has a buffer:", p.c.Has(b))
		}
		if p.c.Has(b) {
			there++
		}
	}
	if there > p.s.capacity {
		p.t.Fatal(there, "buffers of", p.s.capacity)
	}
	if l := p.c.Dirty(); !slices.Equal(l, p.s.dirty()) {
		p.t.Fatal("dirty:", l, "wanted", p.s.dirty())
	}
	if l := p.c.Pinned(); !slices.Equal(l, p.s.pinned()) {
		p.t.Fatal("pinned:", l, "wanted", p.s.pinned())
	}
	every := slices.Repeat([]bool{true}, p.d.Blocks())
	if p.d.Crash(every) != p.s.d.Crash(every) || p.d.Kept() != p.s.d.Kept() || !slices.Equal(p.d.Pending(), p.s.d.Pending()) {
		p.t.Fatal("the device has other contents")
	}
	if p.d.Acts() != p.s.d.Acts() {
		p.t.Fatal(p.d.Acts(), "acts, wanted", p.s.d.Acts())
	}
}

// whichever is wanted where the story alone tells which error there is.
const whichever api.Errno = -1

// told holds an error against the one that the story came to, and against the one that the test tells.
func (p *pair) told(e, said, want api.Errno) {
	p.t.Helper()
	if e != said || want != whichever && e != want {
		p.t.Fatal(e, "the story says", said, "wanted", want)
	}
	p.same()
}

func (p *pair) get(want api.Errno, blocks ...int) {
	p.t.Helper()
	for _, b := range blocks {
		data, e := p.c.Get(b)
		wanted, said := p.s.get(b)
		if data != wanted {
			p.t.Fatalf("block %d: %.5q, wanted %.5q", b, data, wanted)
		}
		p.told(e, said, want)
	}
}

func (p *pair) put(want api.Errno, b int, data string, pin bool) {
	p.t.Helper()
	p.told(p.c.Put(b, data, pin), p.s.put(b, data, pin), want)
}

func (p *pair) unpin(b int) {
	p.t.Helper()
	p.c.Unpin(b)
	p.s.unpin(b)
	p.same()
}

func (p *pair) forget(b int) {
	p.t.Helper()
	p.c.Forget(b)
	p.s.forget(b)
	p.same()
}

func (p *pair) out(want api.Errno, b int) {
	p.t.Helper()
	p.told(p.c.Out(b), p.s.out(b), want)
}

func (p *pair) sync(want api.Errno) {
	p.t.Helper()
	p.told(p.c.Sync(), p.s.sync(), want)
}

func (p *pair) arm(n int) {
	p.d.Arm(n)
	p.s.d.Arm(n)
}

// has holds the blocks that have buffers against those that the test tells.
func (p *pair) has(want ...int) {
	p.t.Helper()
	var l []int
	for b := range p.d.Blocks() {
		if p.c.Has(b) {
			l = append(l, b)
		}
	}
	if !slices.Equal(l, want) {
		p.t.Fatal("buffers:", l, "wanted", want)
	}
}

// onDisk holds a block of the device against a content.
func (p *pair) onDisk(b int, want string) {
	p.t.Helper()
	if data, e := p.d.Read(b); data != want || e != api.OK {
		p.t.Fatalf("block %d of the device: %.5q, %v, wanted %.5q", b, data, e, want)
	}
}

// wrongBlocks are numbers of no block of a device of n blocks.
func wrongBlocks(n int) []int {
	return []int{math.MinInt, math.MinInt + 1, -n - 1, -n, -2, -1, n, n + 1, 2 * n, 1 << 32, 1<<57 + 1, math.MaxInt - 1, math.MaxInt}
}

// P7.1, R1, R5: capacities from 1 to 256 and no others; a device that is none is named first.
func TestNew(t *testing.T) {
	d := disk(t, full("a"))
	copied := *d
	for n := -3; n < 600; n++ {
		c, e := New(d, n)
		if ok := 1 <= n && n <= 256; (c != nil) != ok || (e == api.OK) != ok || !ok && e != api.ErrArg {
			t.Error(n, c != nil, e)
		}
	}
	for _, n := range []int{math.MinInt, math.MinInt + 1, -256, -1, 0, 257, 1<<32 + 1, math.MaxInt - 1, math.MaxInt} {
		if c, e := New(d, n); c != nil || e != api.ErrArg {
			t.Error(n, c != nil, e)
		}
	}
	for _, none := range []*device.Device{nil, {}, new(device.Device), &copied} {
		for _, n := range []int{math.MinInt, -1, 0, 1, 2, 256, 257, math.MaxInt} {
			if c, e := New(none, n); c != nil || e != api.ErrNil {
				t.Error(n, c != nil, e)
			}
		}
	}
}

// P7.1: a cache begins without buffers, and has just as many of them as its capacity; making it is no act of the device.
func TestCapacities(t *testing.T) {
	for _, capacity := range []int{1, 2, 3, 7, 255, 256} {
		p := begun(t, 300, capacity)
		p.has()
		for b := range 300 {
			p.get(api.OK, b)
			if !p.c.Has(b) || b >= capacity && p.c.Has(b-capacity) || b+1 >= capacity && !p.c.Has(b-capacity+1) {
				t.Fatal(capacity, b)
			}
		}
		if p.d.Acts() != 0 {
			t.Error(capacity, p.d.Acts())
		}
	}
}

// P7.1: a device may be dead, or die, and a cache be made of it all the same; the device is the one that was told, not a copy.
func TestNewOfDead(t *testing.T) {
	d := disk(t, some(1)+some(2))
	d.Arm(0)
	c := cacheOf(t, d, 1)
	if data, e := c.Get(1); data != some(2) || e != api.OK {
		t.Error(e)
	}
	d.Arm(-1)
	if e := d.Write(0, some(3)); e != api.OK {
		t.Fatal(e)
	}
	if data, e := c.Get(0); data != some(3) || e != api.OK {
		t.Error(e)
	}
}

// P7.1: others' writes do not touch a buffer that is there, and are seen where there is none.
func TestOthersWrite(t *testing.T) {
	p := begun(t, 4, 3)
	p.get(api.OK, 0)
	p.put(api.OK, 1, full("p"), false)
	for b := range 4 {
		for _, d := range []*device.Device{p.d, p.s.d} {
			if e := d.Write(b, full("o")); e != api.OK {
				t.Fatal(e)
			}
		}
	}
	for b, want := range []string{some(1000), full("p"), full("o"), full("o")} {
		if data, e := p.c.Get(b); data != want || e != api.OK {
			t.Errorf("block %d: %.3q, %v", b, data, e)
		}
		p.s.get(b)
		p.same()
	}
	p.forget(1)
	p.get(api.OK, 1)
	p.get(api.OK, 0)
	p.onDisk(0, full("o"))
}

// P7.1: two caches of one device have buffers of their own, and meet at the device alone.
func TestTwoCaches(t *testing.T) {
	d := disk(t, zero+zero)
	a, b := cacheOf(t, d, 2), cacheOf(t, d, 1)
	if e := a.Put(0, full("a"), true); e != api.OK {
		t.Fatal(e)
	}
	if b.Has(0) || b.Dirty() != nil || b.Pinned() != nil {
		t.Error("the other one has it too")
	}
	if data, e := b.Get(0); data != zero || e != api.OK {
		t.Error(e)
	}
	if e := b.Put(0, full("b"), false); e != api.OK {
		t.Error(e)
	}
	b.Unpin(0)
	if e := b.Sync(); e != api.OK || !slices.Equal(a.Pinned(), []int{0}) || !slices.Equal(a.Dirty(), []int{0}) {
		t.Error(e, a.Pinned(), a.Dirty())
	}
	b.Forget(0)
	if data, e := a.Get(0); data != full("a") || e != api.OK {
		t.Error(e)
	}
	a.Unpin(0)
	if e := a.Sync(); e != api.OK {
		t.Error(e)
	}
	if data, e := b.Get(0); data != full("a") || e != api.OK {
		t.Error(e)
	}
}

// P7.2, P7.3, R1: the first and the last block, and no block beside them; a device of one block.
func TestBlocks(t *testing.T) {
	for _, n := range []int{1, 2, 256, 4096} {
		p := begun(t, n, 2)
		for _, b := range wrongBlocks(n) {
			p.get(api.ErrBlock, b)
			p.put(api.ErrBlock, b, full("x"), false)
			p.put(api.ErrBlock, b, full("x"), true)
		}
		p.has()
		p.get(api.OK, 0, n-1, n/2)
		p.put(api.OK, n-1, full("l"), false)
		p.put(api.OK, 0, full("f"), false)
		p.get(api.OK, n-1, 0)
		for _, b := range wrongBlocks(n) {
			p.get(api.ErrBlock, b)
			p.put(api.ErrBlock, b, full("x"), false)
			p.out(api.OK, b)
			p.unpin(b)
			p.forget(b)
			if p.c.Has(b) {
				t.Error(n, b)
			}
		}
		p.sync(api.OK)
		p.onDisk(0, full("f"))
	}
}

// P7.2: what is got is the device's first, and then the buffer's; it is neither dirty nor pinned, and getting is no act.
func TestGet(t *testing.T) {
	p := begun(t, 3, 2)
	for range 3 {
		if data, e := p.c.Get(1); data != some(1001) || e != api.OK {
			t.Fatal(e)
		}
		p.s.get(1)
		p.same()
	}
	p.has(1)
	if p.c.Dirty() != nil || p.c.Pinned() != nil || p.d.Acts() != 0 {
		t.Error(p.c.Dirty(), p.c.Pinned(), p.d.Acts())
	}
	p.put(api.OK, 1, full("a"), true)
	p.get(api.OK, 1)
	if !slices.Equal(p.c.Dirty(), []int{1}) || !slices.Equal(p.c.Pinned(), []int{1}) {
		t.Error("getting it has changed it:", p.c.Dirty(), p.c.Pinned())
	}
}

// P7.2, P7.3: of the buffers that are not pinned the one gives way that was used the longest ago, by a Get or by a Put.
func TestLeastRecentlyUsed(t *testing.T) {
	p := begun(t, 9, 3)
	p.put(api.OK, 0, full("a"), false)
	p.get(api.OK, 1)
	p.put(api.OK, 2, full("c"), false)
	p.get(api.OK, 0)
	p.get(api.OK, 3)
	p.has(0, 2, 3)
	p.put(api.OK, 2, full("d"), false)
	p.put(api.OK, 4, full("e"), false)
	p.has(2, 3, 4)
	p.onDisk(0, full("a"))
	p.get(api.OK, 3, 5)
	p.has(3, 4, 5)
	p.onDisk(2, full("d"))
	p.get(api.OK, 4, 3, 4, 6)
	p.has(3, 4, 6)
	p.get(api.OK, 7)
	p.has(4, 6, 7)
}

// P7.2, P7.3, R2: a Get or a Put that fails uses nothing, and changes nothing.
func TestFailuresUseNothing(t *testing.T) {
	for _, fail := range []func(p *pair){
		func(p *pair) { p.get(api.ErrBlock, -1, 4) },
		func(p *pair) { p.put(api.ErrBlock, 4, full("x"), true) },
		func(p *pair) { p.put(api.ErrArg, 0, full("x")[1:], true) },
		func(p *pair) { p.put(api.ErrArg, 0, "", false) },
		func(p *pair) { p.arm(0); p.get(api.ErrDead, 3); p.arm(-1) },
		func(p *pair) { p.arm(0); p.put(api.ErrDead, 3, full("x"), true); p.arm(-1) },
	} {
		p := begun(t, 4, 2)
		p.put(api.OK, 0, full("a"), false)
		p.put(api.OK, 1, full("b"), false)
		fail(p)
		p.has(0, 1)
		p.get(api.OK, 2)
		p.has(1, 2)
		p.onDisk(0, full("a"))
		fail(p)
		p.get(api.OK, 1)
	}
}

// P7.4, P7.5, P7.6: what is neither a Get nor a Put uses nothing, so that the order stays.
func TestOthersUseNothing(t *testing.T) {
	for _, ask := range []func(p *pair){
		func(p *pair) { p.c.Has(0) },
		func(p *pair) { p.c.Dirty() },
		func(p *pair) { p.c.Pinned() },
		func(p *pair) { p.out(api.OK, 0) },
		func(p *pair) { p.sync(api.OK) },
		func(p *pair) { p.unpin(0) },
		func(p *pair) { p.forget(3) },
	} {
		for _, pin := range []bool{false, true} {
			p := begun(t, 4, 3)
			for b := range 3 {
				p.put(api.OK, b, full("a"), pin && b == 0)
			}
			ask(p)
			p.unpin(0)
			p.get(api.OK, 3)
			p.has(1, 2, 3)
			p.onDisk(0, full("a"))
		}
	}
}

// P7.4: a buffer that was pinned and is not any more has its old place in the order, in the middle as at the ends.
func TestUnpinnedKeepsItsPlace(t *testing.T) {
	for first := range 5 {
		for second := range 5 {
			p := begun(t, 12, 5)
			for b := range 5 {
				p.put(api.OK, b, some(b), true)
			}
			p.unpin(first)
			p.unpin(second)
			p.get(api.OK, 6)
			if p.c.Has(min(first, second)) {
				t.Fatal(first, second)
			}
			for b := range 5 {
				p.unpin(b)
			}
			p.get(api.OK, 7, 8, 9, 10)
		}
	}
}

// P7.2, P7.3: where all buffers are pinned there is no room, but those that are there are got and put all the same.
func TestAllPinned(t *testing.T) {
	for _, capacity := range []int{1, 2, 5, 256} {
		p := begun(t, 300, capacity)
		for b := range capacity {
			p.put(api.OK, b, some(b), true)
		}
		for _, dead := range []int{-1, 0} {
			p.arm(dead)
			p.get(api.ErrPinned, capacity, 299)
			p.put(api.ErrPinned, capacity, full("x"), false)
			p.put(api.ErrPinned, 299, full("x"), true)
			p.get(api.OK, 0, capacity-1)
			p.put(api.OK, 0, some(7), false)
			p.put(api.OK, capacity-1, some(8), true)
			p.get(api.ErrPinned, capacity)
		}
		p.arm(-1)
		if len(p.c.Pinned()) != capacity || p.d.Acts() != 0 {
			t.Error(capacity, p.c.Pinned(), p.d.Acts())
		}
		p.unpin(capacity / 2)
		p.get(api.OK, 299)
		if p.c.Has(capacity / 2) {
			t.Error(capacity)
		}
	}
}

// P7.2, P7.3: a pinned buffer that was used the longest ago stays, and the next one gives way.
func TestPinnedStays(t *testing.T) {
	for _, put := range []bool{false, true} {
		p := begun(t, 6, 3)
		p.put(api.OK, 0, full("a"), true)
		p.put(api.OK, 1, full("b"), false)
		p.put(api.OK, 2, full("c"), false)
		if put {
			p.put(api.OK, 3, full("d"), false)
		} else {
			p.get(api.OK, 3)
		}
		p.has(0, 2, 3)
		p.onDisk(0, some(1000))
		p.onDisk(1, full("b"))
		p.get(api.OK, 4, 5)
		p.has(0, 4, 5)
		p.onDisk(2, full("c"))
		p.unpin(0)
		p.get(api.OK, 3)
		p.has(3, 4, 5)
		p.onDisk(0, full("a"))
	}
}

// P7.2, P7.3, R2: on a dead device no dirty buffer gives way: it stays as it was, to give way once the device lives.
func TestNoRoomOnDead(t *testing.T) {
	for _, put := range []bool{false, true} {
		p := begun(t, 6, 3)
		p.put(api.OK, 4, full("e"), true)
		p.put(api.OK, 0, full("a"), false)
		p.get(api.OK, 1)
		p.arm(0)
		for range 3 {
			if put {
				p.put(api.ErrDead, 2, full("c"), true)
			} else {
				p.get(api.ErrDead, 2)
			}
			p.has(0, 1, 4)
			if !slices.Equal(p.c.Dirty(), []int{0, 4}) || !slices.Equal(p.c.Pinned(), []int{4}) {
				t.Error(p.c.Dirty(), p.c.Pinned())
			}
		}
		p.onDisk(0, some(1000))
		p.arm(1)
		p.get(api.OK, 2)
		p.has(1, 2, 4)
		p.onDisk(0, full("a"))
		p.get(api.OK, 3)
		p.has(2, 3, 4)
	}
}

// P7.2: what a buffer had that could not give way is still there to be got.
func TestStaysWithItsContent(t *testing.T) {
	p := begun(t, 3, 1)
	p.put(api.OK, 0, full("a"), false)
	p.arm(0)
	p.get(api.ErrDead, 1)
	p.get(api.OK, 0)
	p.arm(-1)
	p.get(api.OK, 1, 0)
	p.onDisk(0, full("a"))
}

// P7.2, P7.3: a buffer that is not dirty gives way on a dead device too, whether it never was or was written.
func TestCleanGivesWayOnDead(t *testing.T) {
	p := begun(t, 6, 2)
	p.get(api.OK, 0)
	p.put(api.OK, 1, full("b"), false)
	p.out(api.OK, 1)
	p.arm(0)
	p.get(api.OK, 2)
	p.has(1, 2)
	p.put(api.OK, 3, full("d"), false)
	p.has(2, 3)
	p.get(api.OK, 4)
	p.has(3, 4)
	p.get(api.ErrDead, 5)
	p.get(api.OK, 1+3)
	p.onDisk(1, full("b"))
}

// P7.2: what gives way is written only if it is dirty: an unchanged buffer costs no act, and leaves others' writes alone.
func TestCleanIsNotWritten(t *testing.T) {
	p := begun(t, 3, 1)
	p.get(api.OK, 0)
	for _, d := range []*device.Device{p.d, p.s.d} {
		if e := d.Write(0, full("o")); e != api.OK {
			t.Fatal(e)
		}
	}
	p.get(api.OK, 1)
	p.onDisk(0, full("o"))
	p.put(api.OK, 1, full("b"), false)
	p.sync(api.OK)
	p.get(api.OK, 2)
	if p.d.Acts() != 2 {
		t.Error(p.d.Acts())
	}
}

// P7.3, R1: data of all lengths but 128 are refused, where there is a buffer and where there is none.
func TestLengths(t *testing.T) {
	p := begun(t, 3, 2)
	p.get(api.OK, 0)
	long := full("x") + full("y")
	for n := range 257 {
		if n == 128 {
			continue
		}
		p.put(api.ErrArg, 0, long[:n], true)
		p.put(api.ErrArg, 1, long[:n], false)
	}
	p.put(api.ErrArg, 0, strings.Repeat("x", 1<<20), false)
	p.has(0)
	p.put(api.OK, 0, long[1:129], false)
	p.put(api.OK, 1, long[128:], false)
	p.get(api.OK, 0, 1)
}

// P7.2, P7.3, R5, R2: no such block ahead of a wrong length, that ahead of what making room says.
func TestErrorsInOrder(t *testing.T) {
	for _, last := range []api.Errno{api.ErrPinned, api.ErrDead, api.OK} {
		p := begun(t, 3, 1)
		p.put(api.OK, 0, full("a"), last == api.ErrPinned)
		if last != api.OK {
			p.arm(0)
		}
		p.get(api.ErrBlock, -1, 3, math.MaxInt, math.MinInt)
		for _, pin := range []bool{false, true} {
			for _, data := range []string{"", full("x")[1:], full("x"), full("x") + "x"} {
				p.put(api.ErrBlock, -1, data, pin)
				p.put(api.ErrBlock, 3, data, pin)
			}
			for _, data := range []string{"", full("x")[1:], full("x") + "x"} {
				p.put(api.ErrArg, 1, data, pin)
				p.put(api.ErrArg, 0, data, pin)
			}
		}
		p.put(last, 1, full("x"), false)
		if last != api.OK {
			p.get(last, 2)
			p.get(api.OK, 0)
		}
	}
}

// P7.3: a Put does not read: it makes no difference what the device had, nor whether it is dead.
func TestPut(t *testing.T) {
	p := begun(t, 3, 2)
	p.arm(0)
	p.put(api.OK, 2, full("c"), false)
	p.put(api.OK, 2, full("d"), false)
	p.put(api.OK, 0, some(1000), false)
	p.get(api.OK, 2, 0)
	if !slices.Equal(p.c.Dirty(), []int{0, 2}) || p.c.Pinned() != nil {
		t.Error(p.c.Dirty(), p.c.Pinned())
	}
	p.onDisk(2, some(1002))
	p.arm(-1)
	p.sync(api.OK)
	p.onDisk(2, full("d"))
	p.put(api.OK, 2, full("d"), false)
	if !slices.Equal(p.c.Dirty(), []int{2}) {
		t.Error("put with what it had, it is not dirty:", p.c.Dirty())
	}
}

// P7.3: a Put pins, and a later one without a pin leaves it pinned; Unpin alone takes the pin away.
func TestPins(t *testing.T) {
	p := begun(t, 3, 2)
	p.get(api.OK, 0)
	for i, x := range []struct{ pin, unpin, want bool }{
		{false, false, false}, {true, false, true}, {false, false, true}, {true, false, true}, {false, true, false}, {false, false, false}, {true, true, false},
	} {
		p.put(api.OK, 0, some(i), x.pin)
		if x.unpin {
			p.unpin(0)
		}
		if slices.Contains(p.c.Pinned(), 0) != x.want || !slices.Equal(p.c.Dirty(), []int{0}) {
			t.Error(i, p.c.Pinned(), p.c.Dirty())
		}
		p.get(api.OK, 0)
	}
}

// P7.4: Unpin takes a pin away and nothing else; where there is no buffer, or none that is pinned, it does nothing.
func TestUnpin(t *testing.T) {
	p := begun(t, 4, 3)
	p.put(api.OK, 0, full("a"), true)
	p.put(api.OK, 1, full("b"), true)
	p.get(api.OK, 2)
	for _, b := range append(wrongBlocks(4), 2, 3) {
		p.unpin(b)
		if !slices.Equal(p.c.Pinned(), []int{0, 1}) {
			t.Fatal(b, p.c.Pinned())
		}
	}
	p.unpin(0)
	p.unpin(0)
	if !slices.Equal(p.c.Pinned(), []int{1}) || !slices.Equal(p.c.Dirty(), []int{0, 1}) || p.d.Acts() != 0 {
		t.Error(p.c.Pinned(), p.c.Dirty(), p.d.Acts())
	}
	p.has(0, 1, 2)
	p.out(api.OK, 0)
	p.onDisk(0, full("a"))
}

// P7.4: Forget removes a buffer without writing it, whatever its marks, and on a dead device too.
func TestForget(t *testing.T) {
	for _, dead := range []int{-1, 0} {
		p := begun(t, 5, 4)
		p.put(api.OK, 0, full("a"), true)
		p.put(api.OK, 1, full("b"), false)
		p.get(api.OK, 2)
		p.put(api.OK, 3, full("d"), true)
		p.sync(api.OK)
		p.put(api.OK, 1, full("c"), false)
		p.arm(dead)
		for _, b := range append(wrongBlocks(5), 4) {
			p.forget(b)
			p.has(0, 1, 2, 3)
		}
		for _, b := range []int{2, 0, 1, 3, 3} {
			p.forget(b)
			if p.c.Has(b) {
				t.Fatal(b)
			}
		}
		if p.c.Dirty() != nil || p.c.Pinned() != nil || p.d.Acts() != 1 {
			t.Error(p.c.Dirty(), p.c.Pinned(), p.d.Acts())
		}
		p.get(api.OK, 0, 1, 2, 3)
		p.onDisk(1, full("b"))
		if p.c.Dirty() != nil || p.c.Pinned() != nil {
			t.Error("the marks came back:", p.c.Dirty(), p.c.Pinned())
		}
	}
}

// P7.4: a forgotten buffer makes room for one more, and the others keep their order, whichever it was.
func TestForgetMakesRoom(t *testing.T) {
	for gone := range 6 {
		p := begun(t, 20, 6)
		for b := range 6 {
			p.put(api.OK, b, some(b), b%4 == 1)
		}
		p.forget(gone)
		p.get(api.OK, 10)
		if p.d.Acts() != 0 {
			t.Error(gone, p.d.Acts())
		}
		p.get(api.OK, 11, 12, 13, 14, 15, 16)
	}
}

// P7.5: Out writes one buffer, dirty and not pinned; others it leaves, and so it does with what is not there.
func TestOut(t *testing.T) {
	p := begun(t, 5, 4)
	p.put(api.OK, 0, full("a"), false)
	p.put(api.OK, 1, full("b"), true)
	p.get(api.OK, 2)
	p.put(api.OK, 3, full("d"), false)
	for _, b := range append(wrongBlocks(5), 1, 2, 4) {
		p.out(api.OK, b)
		if p.d.Acts() != 0 {
			t.Fatal(b, p.d.Acts())
		}
	}
	p.out(api.OK, 3)
	p.out(api.OK, 3)
	p.onDisk(3, full("d"))
	p.onDisk(0, some(1000))
	p.has(0, 1, 2, 3)
	if !slices.Equal(p.c.Dirty(), []int{0, 1}) || p.d.Acts() != 1 || !slices.Equal(p.d.Pending(), []int{3}) {
		t.Error(p.c.Dirty(), p.d.Acts(), p.d.Pending())
	}
	p.get(api.OK, 3)
	p.arm(0)
	for range 2 {
		p.out(api.ErrDead, 0)
		if !slices.Equal(p.c.Dirty(), []int{0, 1}) {
			t.Error(p.c.Dirty())
		}
	}
	for _, b := range []int{1, 2, 3, 4, -1, 5} {
		p.out(api.OK, b)
	}
	p.arm(-1)
	p.out(api.OK, 0)
	p.onDisk(0, full("a"))
}

// P7.5: Sync writes by ascending blocks, whatever the order of use, until the device is dead, and goes on from there; it does not flush.
func TestSync(t *testing.T) {
	order := []int{5, 1, 7, 3, 0, 6}
	for acts := -1; acts < 7; acts++ {
		p := begun(t, 9, 8)
		for _, b := range order {
			p.put(api.OK, b, some(b), b == 3)
		}
		p.get(api.OK, 8, 1)
		p.arm(acts)
		want, written := api.OK, []int{0, 1, 5, 6, 7}
		if 0 <= acts && acts < 5 {
			want, written = api.ErrDead, written[:acts]
		}
		p.sync(want)
		if !slices.Equal(p.d.Pending(), written) || p.d.Acts() != len(written) {
			t.Error(acts, p.d.Pending(), p.d.Acts(), "wanted", written)
		}
		p.sync(want)
		p.arm(-1)
		p.sync(api.OK)
		if !slices.Equal(p.c.Dirty(), []int{3}) || !slices.Equal(p.c.Pinned(), []int{3}) || !slices.Equal(p.d.Pending(), []int{0, 1, 5, 6, 7}) {
			t.Error(acts, p.c.Dirty(), p.c.Pinned(), p.d.Pending())
		}
		p.has(0, 1, 3, 5, 6, 7, 8)
		p.unpin(3)
		p.sync(api.OK)
		p.onDisk(3, some(3))
	}
}

// P7.5: with nothing to write, a Sync succeeds on a dead device.
func TestSyncOfNothing(t *testing.T) {
	p := begun(t, 3, 2)
	p.arm(0)
	p.sync(api.OK)
	p.get(api.OK, 0)
	p.put(api.OK, 1, full("a"), true)
	p.sync(api.OK)
	p.unpin(1)
	p.sync(api.ErrDead)
}

// P7.6: the lists ascend, whatever the order of use, and tell each block once.
func TestLists(t *testing.T) {
	p := begun(t, 100, 50)
	for i := range 200 {
		b := i * 37 % 100
		p.put(api.OK, b, some(i), b%3 == 0 && len(p.c.Pinned()) < 20)
	}
	l := p.c.Dirty()
	if len(l) != 50 || !slices.IsSorted(l) || len(slices.Compact(slices.Clone(l))) != 50 {
		t.Error(l)
	}
	l = p.c.Pinned()
	if len(l) != 20 || !slices.IsSorted(l) || len(slices.Compact(slices.Clone(l))) != 20 {
		t.Error(l)
	}
	if l := append(p.c.Dirty(), p.c.Pinned()...); !slices.ContainsFunc(l, p.c.Has) {
		t.Error(l)
	}
}

// P7.6, R4: lists are new memory: what is done with one changes nothing, and what is done with the cache does not change one.
func TestListsAreNew(t *testing.T) {
	p := begun(t, 6, 4)
	for b := range 4 {
		p.put(api.OK, b, some(b), b > 1)
	}
	for _, list := range []func() []int{p.c.Dirty, p.c.Pinned} {
		l, m := list(), list()
		want := slices.Clone(l)
		for i := range l {
			l[i] = -9
		}
		_ = append(l[:1], 5)
		if !slices.Equal(m, want) || !slices.Equal(list(), want) {
			t.Error(m, list(), "wanted", want)
		}
		p.same()
	}
	dirty, pinned := p.c.Dirty(), p.c.Pinned()
	p.forget(3)
	p.unpin(2)
	p.sync(api.OK)
	if !slices.Equal(dirty, []int{0, 1, 2, 3}) || !slices.Equal(pinned, []int{2, 3}) {
		t.Error(dirty, pinned)
	}
}

// P7.7: what is got is what was put last, or what the device has, however few buffers there are; and the blocks used last are there.
func TestConsequences(t *testing.T) {
	r := rand.New(rand.NewSource(7))
	for _, capacity := range []int{1, 2, 3, 10, 256} {
		d := disk(t, strings.Repeat(zero, 20))
		c := cacheOf(t, d, capacity)
		want := slices.Repeat([]string{zero}, 20)
		var used []int // by use, each block once
		for i := range 2000 {
			b := r.Intn(20)
			switch r.Intn(3) {
			case 0:
				want[b] = some(i)
				if e := c.Put(b, want[b], false); e != api.OK {
					t.Fatal(e)
				}
			case 1:
				if e := c.Out(b); e != api.OK {
					t.Fatal(e)
				}
				continue
			default:
				if data, e := c.Get(b); data != want[b] || e != api.OK {
					t.Fatal(capacity, i, b, e)
				}
			}
			used = append(slices.DeleteFunc(used, func(u int) bool { return u == b }), b)
			for k, u := range used {
				if c.Has(u) != (k >= len(used)-capacity) {
					t.Fatal(capacity, i, u)
				}
			}
		}
		if e := c.Sync(); e != api.OK || d.Crash(slices.Repeat([]bool{true}, 20)) != strings.Join(want, "") {
			t.Error(capacity, e)
		}
	}
}

// P7.7: a pinned buffer is not written, whatever is done beside it.
func TestPinnedIsNotWritten(t *testing.T) {
	p := begun(t, 8, 3)
	p.put(api.OK, 4, full("p"), true)
	for i := range 50 {
		p.put(api.OK, i%8, some(i), false)
		p.out(api.OK, 4)
		p.sync(api.OK)
		p.onDisk(4, some(1004))
	}
	if !slices.Equal(p.c.Pinned(), []int{4}) {
		t.Error(p.c.Pinned())
	}
}

// P7.1 to P7.7, R1, R2: many things done in a row, right ones and wrong ones, the device armed now and then.
func TestManyCalls(t *testing.T) {
	r := rand.New(rand.NewSource(77))
	for n := range 200 {
		blocks := 1 + r.Intn(12)
		p := begun(t, blocks, 1+r.Intn(6))
		for i := range 150 {
			b := r.Intn(blocks+4) - 2
			data := some(150*n + i)
			switch r.Intn(14) {
			case 0:
				p.arm(r.Intn(6) - 2)
			case 1, 2:
				p.unpin(b)
			case 3:
				p.forget(b)
			case 4:
				p.out(whichever, b)
			case 5:
				p.sync(whichever)
			case 6:
				p.put(whichever, b, data[:127], true)
			case 7, 8, 9:
				p.put(whichever, b, data, r.Intn(3) == 0)
			default:
				p.get(whichever, b)
			}
		}
	}
}

// The chapter's examples, in a row.
func TestExamples(t *testing.T) {
	d := disk(t, strings.Repeat(zero, 4))
	p := &pair{t, d, cacheOf(t, d, 2), &story{d: disk(t, strings.Repeat(zero, 4)), capacity: 2}}
	p.put(api.OK, 0, full("a"), false)
	p.get(api.OK, 1, 0, 2)
	p.has(0, 2)
	p.onDisk(0, zero)
	p.get(api.OK, 3)
	p.has(2, 3)
	p.onDisk(0, full("a"))
	p.put(api.OK, 1, full("b"), true)
	p.put(api.OK, 2, full("a"), true)
	p.get(api.ErrPinned, 0)
	p.out(api.OK, 1)
	if !slices.Equal(p.c.Dirty(), []int{1, 2}) || !slices.Equal(p.c.Pinned(), []int{1, 2}) {
		t.Error(p.c.Dirty(), p.c.Pinned())
	}
	p.unpin(1)
	p.get(api.OK, 0)
	p.has(0, 2)
	p.onDisk(1, full("b"))
	p.sync(api.OK)
	if !slices.Equal(p.c.Dirty(), []int{2}) {
		t.Error(p.c.Dirty())
	}
}

// R3, R1: a cache that is nil or was not made by New, a copy of one among them, has no buffers; each error is ErrNil, whatever else is wrong.
func TestMissing(t *testing.T) {
	p := begun(t, 4, 2)
	p.put(api.OK, 0, full("a"), false)
	p.put(api.OK, 1, full("b"), true)
	copied := *p.c
	for i, c := range []*Cache{nil, {}, new(Cache), &copied} {
		for _, b := range append(wrongBlocks(4), 0, 1, 2, 3) {
			if data, e := c.Get(b); data != "" || e != api.ErrNil {
				t.Error(i, b, len(data), e)
			}
			for _, data := range []string{"", "x", full("x"), full("x") + "x"} {
				if e := c.Put(b, data, b%2 == 0); e != api.ErrNil {
					t.Error(i, b, len(data), e)
				}
			}
			c.Unpin(b)
			c.Forget(b)
			if e := c.Out(b); e != api.ErrNil {
				t.Error(i, b, e)
			}
			if c.Has(b) {
				t.Error(i, b)
			}
		}
		if e := c.Sync(); e != api.ErrNil {
			t.Error(i, e)
		}
		if len(c.Dirty()) != 0 || len(c.Pinned()) != 0 {
			t.Error(i, c.Dirty(), c.Pinned())
		}
		p.same()
	}
}
