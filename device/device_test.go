package device

import (
	"math"
	"math/rand"
	"slices"
	"strings"
	"testing"

	"glissade/api"
)

// full is a block of 128 of one letter; block 0 of the examples, all zeros, is full("\x00").
func full(letter string) string { return strings.Repeat(letter, 128) }

// some is a block whose bytes differ from their neighbours, another one for each n below 2^16.
func some(n int) string {
	b := make([]byte, 128)
	for i := range b {
		b[i] = byte(i*7 + n)
	}
	b[3], b[127] = byte(n>>8), byte(n)
	return string(b)
}

// act is a write or a flush that was carried out.
type act struct {
	flush bool
	b     int
	data  string
}

// story is a device as the chapter tells it: how it began, each act since, and where among them it was armed last.
type story struct {
	first []string
	acts  []act
	armed int // what Arm was given last
	at    int // how many acts there were then
}

func begun(first ...string) *story { return &story{first: first, armed: -1} }

// zeros are n blocks as New makes them.
func zeros(n int) []string { return slices.Repeat([]string{full("\x00")}, n) }

// after is what the blocks have behind the first n acts.
func (s *story) after(n int) []string {
	l := slices.Clone(s.first)
	for _, a := range s.acts[:n] {
		if !a.flush {
			l[a.b] = a.data
		}
	}
	return l
}

// flushed is how many acts there are up to the last flush, with it.
func (s *story) flushed() int {
	for n := len(s.acts); n > 0; n-- {
		if s.acts[n-1].flush {
			return n
		}
	}
	return 0
}

func (s *story) current() []string { return s.after(len(s.acts)) }
func (s *story) durable() []string { return s.after(s.flushed()) }

func (s *story) pending() []int {
	var l []int
	for b := range s.first {
		if slices.ContainsFunc(s.acts[s.flushed():], func(a act) bool { return a.b == b }) {
			l = append(l, b)
		}
	}
	return l
}

func (s *story) crash(keep []bool) string {
	l := s.durable()
	for i, b := range s.pending() {
		if i < len(keep) && keep[i] {
			l[b] = s.current()[b]
		}
	}
	return strings.Join(l, "")
}

func (s *story) dead() bool { return s.armed >= 0 && len(s.acts)-s.at == s.armed }

func (s *story) arm(n int) { s.armed, s.at = n, len(s.acts) }

func (s *story) act(a act) api.Errno {
	if s.dead() {
		return api.ErrDead
	}
	s.acts = append(s.acts, a)
	return api.OK
}

func (s *story) write(b int, data string) api.Errno {
	if b < 0 || b >= len(s.first) {
		return api.ErrBlock
	}
	if len(data) != 128 {
		return api.ErrArg
	}
	return s.act(act{b: b, data: data})
}

func (s *story) flush() api.Errno { return s.act(act{flush: true, b: -1}) }

// fresh is a device of n zero blocks.
func fresh(t *testing.T, n int) *Device {
	t.Helper()
	d, e := New(n)
	if d == nil || e != api.OK {
		t.Fatal(n, e)
	}
	return d
}

// opened is a device that begins with these blocks.
func opened(t *testing.T, blocks ...string) *Device {
	t.Helper()
	d, e := Open(strings.Join(blocks, ""))
	if d == nil || e != api.OK {
		t.Fatal(len(blocks), e)
	}
	return d
}

// wrongBlocks are numbers of no block of a device of n blocks.
func wrongBlocks(n int) []int {
	return []int{math.MinInt, math.MinInt + 1, -n - 1, -n, -2, -1, n, n + 1, 2 * n, 1 << 57, 1<<57 + 1, math.MaxInt - 1, math.MaxInt}
}

// same holds everything that a device tells of itself against a story.
func same(t *testing.T, d *Device, s *story) {
	t.Helper()
	n := len(s.first)
	if d.Blocks() != n || d.Dead() != s.dead() || d.Acts() != len(s.acts) {
		t.Fatal(d.Blocks(), d.Dead(), d.Acts(), "wanted", n, s.dead(), len(s.acts))
	}
	if l := d.Pending(); !slices.Equal(l, s.pending()) {
		t.Fatal("pending:", l, "wanted", s.pending())
	}
	for b, want := range s.current() {
		if data, e := d.Read(b); data != want || e != api.OK {
			t.Fatal("block", b, "is another:", e)
		}
	}
	if d.Kept() != strings.Join(s.durable(), "") {
		t.Fatal("other contents are kept")
	}
	if d.Crash(slices.Repeat([]bool{true}, n)) != strings.Join(s.current(), "") {
		t.Fatal("a crash that keeps everything leaves something else")
	}
}

// P6.1, R1, R5: numbers of blocks that may be and that may not, and zeros everywhere.
func TestNew(t *testing.T) {
	for n := 1; n <= 4096; n += 13 {
		d, e := New(n)
		if d == nil || e != api.OK || d.Blocks() != n {
			t.Fatal(n, e)
		}
	}
	for _, n := range []int{math.MinInt, math.MinInt + 1, -4096, -128, -1, 0, 4097, 4098, 8192, 1 << 32, 1<<57 + 1, math.MaxInt - 1, math.MaxInt} {
		if d, e := New(n); d != nil || e != api.ErrArg {
			t.Error(n, d != nil, e)
		}
	}
	for _, n := range []int{1, 2, 3, 256, 4095, 4096} {
		same(t, fresh(t, n), begun(zeros(n)...))
	}
}

// P6.1, R1, R5: images of each length around the edges, and the contents are the image's.
func TestOpen(t *testing.T) {
	image := strings.Repeat("z", 4098*128)
	for _, n := range []int{0, 1, 2, 127, 129, 130, 255, 257, 4096, 4095*128 - 1, 4095*128 + 1, 4096*128 - 1, 4096*128 + 1, 4097*128 - 1, 4097 * 128, 4097*128 + 1, 4098 * 128} {
		want := api.ErrArg
		if n == 4096 {
			want = api.OK
		}
		if d, e := Open(image[:n]); e != want || (d == nil) != (want == api.ErrArg) {
			t.Error(n, d != nil, e)
		}
	}
	for n := 1; n <= 4096; n += 13 {
		if d, e := Open(image[:n*128]); d == nil || e != api.OK || d.Blocks() != n {
			t.Fatal(n, e)
		}
	}
	for _, n := range []int{1, 2, 3, 256, 4095, 4096} {
		var l []string
		for b := range n {
			l = append(l, some(b))
		}
		same(t, opened(t, l...), begun(l...))
	}
}

// P6.1: a device that was opened takes writes as one that was made anew does.
func TestOpenedIsWritten(t *testing.T) {
	d, s := opened(t, some(1), some(2), some(3)), begun(some(1), some(2), some(3))
	for _, a := range []act{{b: 2, data: some(9)}, {flush: true}, {b: 0, data: full("\x00")}} {
		do(t, d, s, a)
		same(t, d, s)
	}
}

// do does the same with a device and with its story, and holds the errors against each other.
func do(t *testing.T, d *Device, s *story, a act) {
	t.Helper()
	got, want := api.OK, api.OK
	if a.flush {
		got, want = d.Flush(), s.flush()
	} else {
		got, want = d.Write(a.b, a.data), s.write(a.b, a.data)
	}
	if got != want {
		t.Fatal(a.flush, a.b, len(a.data), got, "wanted", want)
	}
}

// arm arms a device and its story.
func arm(d *Device, s *story, n int) {
	d.Arm(n)
	s.arm(n)
}

// P6.2, R1: the first and the last block, and no block beside them.
func TestBlocks(t *testing.T) {
	for _, n := range []int{1, 2, 256, 4096} {
		d, s := fresh(t, n), begun(zeros(n)...)
		for i, b := range []int{0, n - 1, n / 2} {
			do(t, d, s, act{b: b, data: some(i)})
			same(t, d, s)
		}
		for _, b := range wrongBlocks(n) {
			if data, e := d.Read(b); data != "" || e != api.ErrBlock {
				t.Error(n, b, len(data), e)
			}
			if e := d.Write(b, full("x")); e != api.ErrBlock {
				t.Error(n, b, e)
			}
		}
		same(t, d, s)
	}
}

// P6.2: each block has what was written to it, and no other one.
func TestEachBlock(t *testing.T) {
	d, s := fresh(t, 300), begun(zeros(300)...)
	for b := range 300 {
		do(t, d, s, act{b: 299 - b, data: some(b)})
	}
	same(t, d, s)
	do(t, d, s, act{flush: true})
	same(t, d, s)
}

// P6.2, R1: data of all lengths but 128 are refused, and change nothing.
func TestLengths(t *testing.T) {
	d, s := opened(t, some(1), some(2)), begun(some(1), some(2))
	long := full("x") + full("x")
	for n := range 257 {
		do(t, d, s, act{b: 0, data: long[:n]})
		do(t, d, s, act{b: 1, data: long[:n]})
		if n == 127 && len(d.Pending()) != 0 || n > 127 && len(d.Pending()) != 2 {
			t.Fatal(n, d.Pending())
		}
	}
	do(t, d, s, act{b: 1, data: strings.Repeat("x", 1<<20)})
	same(t, d, s)
}

// P6.2, R5, R2: no such block ahead of a wrong length, that ahead of a dead device; whatever is refused changes nothing.
func TestErrorsInOrder(t *testing.T) {
	for _, dead := range []bool{false, true} {
		d, s := fresh(t, 2), begun(zeros(2)...)
		do(t, d, s, act{b: 1, data: some(5)})
		last := api.OK
		if dead {
			arm(d, s, 0)
			last = api.ErrDead
		}
		for _, x := range []struct {
			b    int
			data string
			want api.Errno
		}{
			{-1, "", api.ErrBlock}, {2, full("x") + "x", api.ErrBlock}, {2, full("x"), api.ErrBlock}, {math.MaxInt, "x", api.ErrBlock}, {math.MinInt, full("x"), api.ErrBlock},
			{0, "", api.ErrArg}, {0, full("x")[1:], api.ErrArg}, {1, full("x") + "x", api.ErrArg},
			{0, full("x"), last}, {1, full("y"), last},
		} {
			if e := d.Write(x.b, x.data); e != x.want {
				t.Error(dead, x.b, len(x.data), e, "wanted", x.want)
			}
			s.write(x.b, x.data)
			same(t, d, s)
		}
	}
}

// P6.2: a dead device is read like any other.
func TestDeadIsRead(t *testing.T) {
	d, s := fresh(t, 3), begun(zeros(3)...)
	do(t, d, s, act{b: 1, data: some(1)})
	do(t, d, s, act{flush: true})
	arm(d, s, 1)
	do(t, d, s, act{b: 2, data: some(2)})
	same(t, d, s)
	for b, want := range []string{full("\x00"), some(1), some(2)} {
		if data, e := d.Read(b); !d.Dead() || data != want || e != api.OK {
			t.Error(b, e)
		}
	}
	for _, b := range wrongBlocks(3) {
		if data, e := d.Read(b); data != "" || e != api.ErrBlock {
			t.Error(b, len(data), e)
		}
	}
}

// P6.2: a flush makes all current contents durable, again and again, and one with nothing pending is an act too.
func TestFlush(t *testing.T) {
	d, s := fresh(t, 4), begun(zeros(4)...)
	for i, a := range []act{{flush: true}, {flush: true}, {b: 1, data: some(1)}, {b: 3, data: some(2)}, {flush: true}, {b: 1, data: some(3)}, {flush: true}, {flush: true}, {b: 0, data: some(4)}} {
		do(t, d, s, a)
		same(t, d, s)
		if d.Acts() != i+1 {
			t.Error(i, d.Acts())
		}
	}
}

// P6.3, P6.5: exactly as many acts are carried out as were armed, be they writes or flushes, and what is refused changes nothing.
func TestArm(t *testing.T) {
	for n := range 8 {
		d, s := fresh(t, 3), begun(zeros(3)...)
		do(t, d, s, act{b: 0, data: some(7)})
		arm(d, s, n)
		for i := range 12 {
			if d.Dead() != (i >= n) {
				t.Fatal(n, i, d.Dead())
			}
			do(t, d, s, act{flush: i%3 == 2, b: i % 3, data: some(i)})
			same(t, d, s)
			if d.Acts() != 1+min(n, i+1) {
				t.Fatal(n, i, d.Acts())
			}
		}
	}
}

// P6.3: the last act that was armed is a write, or a flush; the act behind it is refused, be it the one or the other.
func TestArmedEnds(t *testing.T) {
	for _, lastFlushes := range []bool{false, true} {
		for _, nextFlushes := range []bool{false, true} {
			d, s := fresh(t, 2), begun(zeros(2)...)
			arm(d, s, 2)
			do(t, d, s, act{b: 0, data: some(1)})
			do(t, d, s, act{flush: lastFlushes, b: 1, data: some(2)})
			want := d.Crash([]bool{true, true})
			do(t, d, s, act{flush: nextFlushes, b: 1, data: some(3)})
			same(t, d, s)
			if !d.Dead() || d.Acts() != 2 || d.Crash([]bool{true, true}) != want {
				t.Error(lastFlushes, nextFlushes, d.Dead(), d.Acts())
			}
		}
	}
}

// P6.3, R1: below 0 there is no end to the acts, whatever the number; and the greatest number never comes to its end.
func TestArmWithoutEnd(t *testing.T) {
	for _, n := range []int{-1, -2, -12, math.MinInt, math.MinInt + 1, math.MaxInt, math.MaxInt - 1} {
		d, s := fresh(t, 2), begun(zeros(2)...)
		arm(d, s, n)
		for i := range 100 {
			do(t, d, s, act{flush: i%5 == 4, b: i % 2, data: some(i)})
		}
		same(t, d, s)
		if d.Dead() || d.Acts() != 100 {
			t.Error(n, d.Dead(), d.Acts())
		}
	}
}

// P6.3: a device that was never armed carries out whatever comes.
func TestNeverArmed(t *testing.T) {
	d := fresh(t, 1)
	for i := range 100000 {
		e := d.Write(0, full("x"))
		if i%2 == 1 {
			e = d.Flush()
		}
		if e != api.OK || d.Dead() {
			t.Fatal(i, e, d.Dead())
		}
	}
	if d.Acts() != 150000 {
		t.Error(d.Acts())
	}
}

// P6.3: arming counts from the last time, be the device dead or alive then; Acts counts from the beginning.
func TestArmAnew(t *testing.T) {
	for _, first := range []int{-1, 0, 1, 2, 3, 9} {
		for _, second := range []int{-1, 0, 1, 2, 3, 9} {
			d, s := fresh(t, 2), begun(zeros(2)...)
			arm(d, s, first)
			for i := range 3 {
				do(t, d, s, act{flush: i == 1, data: some(i)})
			}
			arm(d, s, second)
			same(t, d, s)
			if d.Dead() != (second == 0) {
				t.Error(first, second, d.Dead())
			}
			for i := range 4 {
				do(t, d, s, act{flush: i == 2, b: 1, data: some(10 + i)})
				same(t, d, s)
			}
		}
	}
}

// P6.3: arming does not add to what was armed before, and is no act itself.
func TestArmReplaces(t *testing.T) {
	d, s := fresh(t, 1), begun(zeros(1)...)
	for range 3 {
		arm(d, s, 2)
	}
	for i := range 4 {
		do(t, d, s, act{data: some(i)})
	}
	if !d.Dead() || d.Acts() != 2 {
		t.Error(d.Dead(), d.Acts())
	}
	arm(d, s, 0)
	arm(d, s, -3)
	do(t, d, s, act{flush: true})
	same(t, d, s)
	if d.Dead() || d.Acts() != 3 {
		t.Error(d.Dead(), d.Acts())
	}
}

// P6.3: what is refused for its arguments uses up none of what was armed, nor does reading or asking.
func TestRefusedCountsForNothing(t *testing.T) {
	d, s := fresh(t, 2), begun(zeros(2)...)
	arm(d, s, 1)
	for range 3 {
		do(t, d, s, act{b: 2, data: full("x")})
		do(t, d, s, act{b: 0, data: "x"})
		same(t, d, s)
	}
	if d.Dead() || d.Acts() != 0 {
		t.Error(d.Dead(), d.Acts())
	}
	do(t, d, s, act{b: 0, data: full("x")})
	do(t, d, s, act{b: 0, data: full("y")})
	same(t, d, s)
}

// P6.4: pending is what was written, be it twice, or with what it had; in ascending order, however it was written.
func TestPending(t *testing.T) {
	d, s := opened(t, some(0), some(1), some(2), some(3)), begun(some(0), some(1), some(2), some(3))
	for _, x := range []struct {
		a    act
		want []int
	}{
		{act{b: 2, data: some(2)}, []int{2}},
		{act{b: 2, data: some(9)}, []int{2}},
		{act{b: 2, data: some(2)}, []int{2}},
		{act{b: 0, data: some(8)}, []int{0, 2}},
		{act{b: 3, data: some(7)}, []int{0, 2, 3}},
		{act{flush: true}, nil},
		{act{b: 3, data: some(7)}, []int{3}},
		{act{b: 1, data: some(1)}, []int{1, 3}},
		{act{flush: true}, nil},
		{act{flush: true}, nil},
	} {
		do(t, d, s, x.a)
		same(t, d, s)
		if l := d.Pending(); !slices.Equal(l, x.want) {
			t.Error(x.a.b, l, "wanted", x.want)
		}
	}
}

// P6.4: of a block that was written twice, the first content is gone.
func TestWrittenTwice(t *testing.T) {
	d := fresh(t, 1)
	for _, data := range []string{full("a"), full("b")} {
		if e := d.Write(0, data); e != api.OK {
			t.Fatal(e)
		}
	}
	if d.Kept() != full("\x00") || d.Crash(nil) != full("\x00") || d.Crash([]bool{true}) != full("b") {
		t.Error("something else is left")
	}
}

// keeps are all lists of n choices.
func keeps(n int) [][]bool {
	l := [][]bool{{}}
	for range n {
		var longer [][]bool
		for _, k := range l {
			longer = append(longer, append(slices.Clone(k), false), append(slices.Clone(k), true))
		}
		l = longer
	}
	return l
}

// P6.4, R4, R1: all choices of what survives, in lists shorter, as long as, and longer than what is pending; nothing is changed by any of them, the list neither.
func TestCrash(t *testing.T) {
	d, s := opened(t, some(0), some(1), some(2), some(3), some(4), some(5)), begun(some(0), some(1), some(2), some(3), some(4), some(5))
	do(t, d, s, act{b: 1, data: some(10)})
	do(t, d, s, act{flush: true})
	for _, b := range []int{4, 0, 3, 1} {
		do(t, d, s, act{b: b, data: some(20 + b)})
	}
	if d.Crash(nil) != s.crash(nil) {
		t.Error("nil")
	}
	for n := range 8 {
		for _, keep := range keeps(n) {
			handed := slices.Clone(keep)
			if d.Crash(handed) != s.crash(keep) {
				t.Error(keep)
			}
			if !slices.Equal(handed, keep) {
				t.Error(keep, "became", handed)
			}
		}
	}
	if d.Crash(slices.Repeat([]bool{true}, 10000)) != strings.Join(s.current(), "") {
		t.Error("a long list")
	}
	same(t, d, s)
}

// P6.4: a crash of a dead device is that of what was carried out.
func TestCrashOfDead(t *testing.T) {
	d, s := fresh(t, 2), begun(zeros(2)...)
	arm(d, s, 2)
	for b := range 2 {
		do(t, d, s, act{b: b, data: some(b)})
	}
	do(t, d, s, act{b: 1, data: some(5)})
	do(t, d, s, act{flush: true})
	for _, keep := range keeps(2) {
		if d.Crash(keep) != s.crash(keep) {
			t.Error(keep)
		}
	}
	same(t, d, s)
}

// P6.1 to P6.5, R1, R2: many things done in a row, right ones and wrong ones, the device armed now and then.
func TestManyActs(t *testing.T) {
	r := rand.New(rand.NewSource(6))
	for n := range 60 {
		size := 1 + r.Intn(7)
		d, s := fresh(t, size), begun(zeros(size)...)
		for i := range 60 {
			switch r.Intn(12) {
			case 0:
				arm(d, s, r.Intn(9)-2)
			case 1, 2:
				do(t, d, s, act{flush: true})
			case 3:
				do(t, d, s, act{b: r.Intn(3*size) - size, data: full("x")[:126+r.Intn(3)]})
			default:
				do(t, d, s, act{b: r.Intn(size), data: some(60*n + i)})
			}
			same(t, d, s)
			keep := make([]bool, r.Intn(size+3))
			for k := range keep {
				keep[k] = r.Intn(2) == 0
			}
			if d.Crash(keep) != s.crash(keep) {
				t.Fatal(n, i, keep)
			}
		}
	}
}

// P6.5: keeping everything yields the current contents, keeping nothing the durable ones; behind a flush all crashes are one.
func TestConsequences(t *testing.T) {
	d := fresh(t, 4)
	for _, b := range []int{3, 1} {
		if e := d.Write(b, some(b)); e != api.OK {
			t.Fatal(e)
		}
	}
	z := full("\x00")
	if d.Crash([]bool{true, true}) != z+some(1)+z+some(3) || d.Crash([]bool{false, false}) != z+z+z+z || d.Kept() != z+z+z+z {
		t.Error("ahead of a flush")
	}
	if e := d.Flush(); e != api.OK {
		t.Fatal(e)
	}
	for _, keep := range keeps(4) {
		if d.Crash(keep) != z+some(1)+z+some(3) || len(d.Pending()) != 0 {
			t.Error("behind a flush", keep)
		}
	}
}

// P6.5: what is done with one device is not to be seen in another, though both began with one image.
func TestTwoDevices(t *testing.T) {
	image := []string{some(1), some(2)}
	a, s := opened(t, image...), begun(image...)
	b, other := opened(t, image...), begun(image...)
	do(t, a, s, act{b: 0, data: some(3)})
	arm(a, s, 2)
	same(t, b, other)
	do(t, b, other, act{b: 1, data: some(4)})
	do(t, a, s, act{flush: true})
	do(t, a, s, act{b: 1, data: some(5)})
	same(t, a, s)
	same(t, b, other)
	do(t, a, s, act{flush: true})
	do(t, b, other, act{flush: true})
	same(t, a, s)
	same(t, b, other)
}

// P6.5: a device made of what a crash left is none of the one that crashed.
func TestMadeOfACrash(t *testing.T) {
	d, s := fresh(t, 2), begun(zeros(2)...)
	do(t, d, s, act{b: 0, data: some(1)})
	do(t, d, s, act{b: 1, data: some(2)})
	left := []string{full("\x00"), some(2)}
	after, told := opened(t, d.Crash([]bool{false, true})), begun(left...)
	same(t, after, told)
	do(t, after, told, act{b: 0, data: some(3)})
	same(t, d, s)
	do(t, d, s, act{flush: true})
	same(t, after, told)
}

// R4: Pending hands out new memory, each time.
func TestNewMemory(t *testing.T) {
	d, s := fresh(t, 3), begun(zeros(3)...)
	do(t, d, s, act{b: 1, data: some(1)})
	do(t, d, s, act{b: 2, data: some(2)})
	l := d.Pending()
	l[0], l[1] = 0, 7
	same(t, d, s)
	l, again := d.Pending(), d.Pending()
	l[0] = 9
	if !slices.Equal(again, []int{1, 2}) {
		t.Error(again)
	}
}

// empty asks a device that is none for everything.
func empty(t *testing.T, d *Device) {
	t.Helper()
	for _, b := range []int{math.MinInt, -1, 0, 1, 4096, math.MaxInt} {
		if data, e := d.Read(b); data != "" || e != api.ErrNil {
			t.Error(b, len(data), e)
		}
		for _, data := range []string{"", "x", full("x"), full("x") + "x"} {
			if e := d.Write(b, data); e != api.ErrNil {
				t.Error(b, len(data), e)
			}
		}
	}
	if e := d.Flush(); e != api.ErrNil {
		t.Error(e)
	}
	if d.Blocks() != 0 || d.Dead() || d.Acts() != 0 || len(d.Pending()) != 0 || d.Kept() != "" {
		t.Error(d.Blocks(), d.Dead(), d.Acts(), d.Pending(), len(d.Kept()))
	}
	for _, keep := range [][]bool{nil, {}, {true}, {false, true, true}} {
		if d.Crash(keep) != "" {
			t.Error(keep)
		}
	}
}

// R1, R3, R5: a device that is nil or the zero value has nothing and does nothing, armed or not.
func TestMissing(t *testing.T) {
	for _, d := range []*Device{nil, {}, new(Device)} {
		empty(t, d)
		for _, n := range []int{0, 1, -1, math.MinInt, math.MaxInt} {
			d.Arm(n)
			empty(t, d)
		}
	}
}

// R3, P6.5: nor has or does a copy of a device, which neither New nor Open made; and the device stays as it was.
func TestCopy(t *testing.T) {
	d, s := fresh(t, 2), begun(zeros(2)...)
	do(t, d, s, act{b: 0, data: some(1)})
	c := *d
	c.Arm(0)
	empty(t, &c)
	same(t, d, s)
}

// P6.1 to P6.4: the chapter's examples.
func TestExamples(t *testing.T) {
	d, z := fresh(t, 3), full("\x00")
	for i, e := range []api.Errno{d.Write(1, full("a")), d.Flush(), d.Write(1, full("b")), d.Write(0, full("c"))} {
		if e != api.OK {
			t.Error(i, e)
		}
	}
	if data, e := d.Read(1); data != full("b") || e != api.OK || !slices.Equal(d.Pending(), []int{0, 1}) {
		t.Error(e, d.Pending())
	}
	if d.Kept() != z+full("a")+z || d.Crash([]bool{true}) != full("c")+full("a")+z ||
		d.Crash([]bool{false, true}) != z+full("b")+z || d.Crash([]bool{true, true, true}) != full("c")+full("b")+z {
		t.Error("another image is left")
	}
	d.Arm(1)
	for i, x := range [][2]api.Errno{
		{d.Write(2, full("a")), api.OK}, {d.Write(2, full("b")), api.ErrDead}, {d.Flush(), api.ErrDead},
		{d.Write(3, full("a")), api.ErrBlock}, {d.Write(0, "ab"), api.ErrArg},
	} {
		if x[0] != x[1] {
			t.Error(i, x)
		}
	}
	if !d.Dead() || d.Acts() != 5 {
		t.Error(d.Dead(), d.Acts())
	}
	if data, e := d.Read(-1); data != "" || e != api.ErrBlock {
		t.Error(e)
	}
	if none, e := Open(strings.Repeat("x", 100)); none != nil || e != api.ErrArg {
		t.Error(e)
	}
}
