package exts

import (
	"math"
	"math/rand"
	"slices"
	"testing"

	"glissade/api"
)

// list is extents, each told by Logical, Physical and Len.
func list(n ...int) []api.Ext {
	var l []api.Ext
	for i := 0; i < len(n); i += 3 {
		l = append(l, api.Ext{Logical: n[i], Physical: n[i+1], Len: n[i+2]})
	}
	return l
}

// rows is runs, each told by Start and Len.
func rows(n ...int) []api.Run {
	var l []api.Run
	for i := 0; i < len(n); i += 2 {
		l = append(l, api.Run{Start: n[i], Len: n[i+1]})
	}
	return l
}

// may tells whether the chapter calls an extent valid, block by block.
func may(x api.Ext) bool {
	if x.Len < 1 {
		return false
	}
	for k := range x.Len {
		if x.Logical+k < 0 || x.Logical+k > 2047 || x.Physical+k < 1 || x.Physical+k > 4095 {
			return false
		}
	}
	return true
}

// mayList tells whether the chapter calls a list in order: no extent begins at or below a block of the one before it.
func mayList(l []api.Ext) bool {
	last := -1
	for _, x := range l {
		if !may(x) || x.Logical <= last {
			return false
		}
		last = x.Logical
		for range x.Len - 1 {
			last++
		}
	}
	return true
}

// place is where one logical block is mapped to, and how many there are from it to the end of its extent.
type place struct {
	physical, left int
}

// told is what a list that is in order maps, block by block.
func told(l []api.Ext) [2048]place {
	var places [2048]place
	for _, x := range l {
		for k := range x.Len {
			places[x.Logical+k] = place{x.Physical + k, x.Len - k}
		}
	}
	return places
}

// mapping is the physical block of each logical one, whichever extents map them; those behind are put over those ahead.
func mapping(l ...api.Ext) [2048]int {
	var m [2048]int
	for _, x := range l {
		for k := range x.Len {
			m[x.Logical+k] = x.Physical + k
		}
	}
	return m
}

// plain is the normal form of the physical blocks of a list that others do not map to, block by block.
func plain(l []api.Ext, others ...api.Ext) []api.Run {
	var had [4098]bool
	for _, x := range l {
		for k := range x.Len {
			had[x.Physical+k] = true
		}
	}
	for _, x := range others {
		for k := range x.Len {
			had[x.Physical+k] = false
		}
	}
	var normal []api.Run
	for i, is := range had {
		switch {
		case is && had[i-1]:
			normal[len(normal)-1].Len++
		case is:
			normal = append(normal, api.Run{Start: i, Len: 1})
		}
	}
	return normal
}

// without is what is left of a list when the logical blocks are taken off that gone tells, block by block.
func without(l []api.Ext, gone func(logical int) bool) []api.Ext {
	var out []api.Ext
	for _, x := range l {
		joined := false
		for k := range x.Len {
			switch {
			case gone(x.Logical + k):
				joined = false
			case joined:
				out[len(out)-1].Len++
			default:
				out = append(out, api.Ext{Logical: x.Logical + k, Physical: x.Physical + k, Len: 1})
				joined = true
			}
		}
	}
	return out
}

// with is a list that has nothing at an extent's logical blocks, and that extent in its place.
func with(l []api.Ext, x api.Ext) []api.Ext {
	at := 0
	for at < len(l) && l[at].Logical < x.Logical {
		at++
	}
	return slices.Insert(slices.Clone(l), at, x)
}

// inside tells whether a logical block is one of n from from on, for numbers that may be as great as they like.
func inside(logical, from, n int) bool {
	return logical >= from && logical-from < n
}

// far are the numbers at every bound and beyond it, and those that wrap round.
func far() []int {
	return []int{
		math.MinInt, math.MinInt + 1, math.MinInt + 2048, math.MinInt + 4096, -1 << 32, -4097, -2049, -2048, -2047, -2, -1,
		0, 1, 2, 3, 1023, 1024, 2046, 2047, 2048, 2049, 4094, 4095, 4096, 4097, 1 << 31, 1 << 32, 1<<32 + 1,
		math.MaxInt - 4096, math.MaxInt - 2048, math.MaxInt - 2047, math.MaxInt - 1, math.MaxInt,
	}
}

// some are lists in order: those of the chapter, the ends of what there is, and such as were made up.
func some() [][]api.Ext {
	l := [][]api.Ext{
		nil,
		{},
		list(0, 100, 4, 6, 200, 2),
		list(0, 100, 1, 1, 101, 1),
		list(0, 100, 4, 4, 104, 2, 6, 200, 2),
		list(0, 1, 1),
		list(0, 4095, 1),
		list(2047, 1, 1),
		list(2047, 4095, 1),
		list(0, 1, 2048),
		list(0, 2048, 2048),
		list(0, 1, 2047),
		list(1, 2049, 2047),
		list(0, 1, 1024, 1024, 1025, 1024),
		list(0, 1025, 1024, 1024, 1, 1024),
		list(0, 300, 5, 5, 300, 5, 10, 300, 5),
		list(0, 300, 5, 10, 303, 5, 20, 299, 3),
		list(3, 50, 4, 9, 54, 4, 20, 46, 4),
		list(5, 9, 1, 7, 8, 1, 9, 7, 1, 11, 6, 1),
		list(0, 1, 1, 2047, 4095, 1),
		list(1, 4, 2046),
		list(2040, 9, 8),
	}
	var each, odd []api.Ext
	for i := range 2048 {
		each = append(each, api.Ext{Logical: i, Physical: 1 + i*7%4095, Len: 1})
		if i%2 == 1 {
			odd = append(odd, api.Ext{Logical: i, Physical: 4095 - i, Len: 1})
		}
	}
	l = append(l, each, odd)
	from := rand.New(rand.NewSource(14))
	for n := range 60 {
		l = append(l, madeUp(from, 1+n%12))
	}
	return l
}

// madeUp is a list in order that is made up, of at most so many extents.
func madeUp(from *rand.Rand, n int) []api.Ext {
	var l []api.Ext
	at := 0
	for range n {
		if from.Intn(3) > 0 {
			at += from.Intn(1 + 2048/n)
		}
		if at > 2047 {
			break
		}
		x := madeUpExt(from)
		x.Logical = at
		x.Len = min(x.Len, 2048-at, 1+2048/n)
		// Now and then such as goes on where the last one ends, or begins where the last one begins.
		if len(l) > 0 && from.Intn(3) == 0 {
			last := l[len(l)-1]
			x.Physical = last.Physical
			if from.Intn(2) == 0 {
				x.Physical = min(last.Physical+last.Len, 4096-x.Len)
			}
			x.Len = min(x.Len, 4096-x.Physical)
		}
		l = append(l, x)
		at += x.Len
	}
	return l
}

// madeUpExt is a valid extent that is made up.
func madeUpExt(from *rand.Rand) api.Ext {
	n := 1 + from.Intn(2048)>>from.Intn(12)
	physical := 1 + from.Intn(4096-n)
	if from.Intn(2) == 0 {
		physical = 1 + from.Intn(min(4096-n, 40))
	}
	return api.Ext{Logical: from.Intn(2049 - n), Physical: physical, Len: n}
}

// wrong are lists that are not in order, each for one thing only, with what is in order before and behind that.
func wrong() [][]api.Ext {
	l := [][]api.Ext{
		list(0, 100, 2, 1, 200, 1),
		list(1, 200, 1, 0, 100, 1),
		list(6, 200, 2, 0, 100, 4),
		list(0, 100, 4, 0, 100, 4),
		list(0, 100, 1, 0, 200, 1),
		list(0, 100, 4, 3, 103, 1),
		list(0, 100, 4, 3, 200, 9),
		list(5, 100, 4, 4, 200, 1),
		list(5, 100, 4, 4, 200, 2),
		list(5, 100, 4, 0, 200, 2000),
		list(0, 1, 2048, 2047, 4095, 1),
		list(0, 100, 4, 6, 200, 2, 7, 300, 1),
		list(0, 100, 4, 6, 200, 2, 5, 300, 1),
		list(0, 100, 4, 6, 200, 2, 0, 100, 4),
		list(2047, 1, 1, 0, 2, 1),
	}
	for _, x := range invalid() {
		l = append(l, []api.Ext{x}, append(list(0, 100, 4, 6, 200, 2), x), append([]api.Ext{x}, list(0, 100, 4, 6, 200, 2)...))
		l = append(l, []api.Ext{{Logical: 0, Physical: 1, Len: 1}, x, {Logical: 2047, Physical: 9, Len: 1}}, []api.Ext{x, x})
	}
	return l
}

// invalid are extents that are not valid, each of them beyond one bound, and such as are beyond several.
func invalid() []api.Ext {
	l := list(
		0, 0, 1, 0, 0, 2047, 0, -1, 1, 9, 4096, 1, 9, 4095, 2, 9, 4093, 4, 0, 2049, 2048,
		-1, 5, 1, -1, 5, 2, -5, 5, 9, 2048, 5, 1, 2047, 5, 2, 2044, 5, 5, 1, 5, 2048, 0, 5, 2049, 0, 1, 4095,
		9, 5, 0, 9, 5, -1, 0, 0, 0, 2048, 4096, 0, 2048, 4096, -1, 9, 5, math.MinInt, 9, 5, math.MaxInt,
	)
	for _, n := range far() {
		if n < 0 || n > 2047 {
			l = append(l, list(n, 5, 1, n, 5, 2, n, n, n)...)
		}
		if n < 1 || n > 4095 {
			l = append(l, list(9, n, 1, 9, n, 2, 9, n, math.MaxInt-n)...)
		}
		if n < 1 || n > 2048 {
			l = append(l, list(0, 1, n, 9, 5, n, math.MaxInt, math.MaxInt, n, math.MinInt, math.MinInt, n)...)
		}
	}
	return l
}

// kept hands a list with something behind it to a call, and holds that neither was changed.
func kept(t *testing.T, l []api.Ext, call func(l []api.Ext)) {
	t.Helper()
	room := append(slices.Clone(l), list(7, 7, 7, 2000, 2, 2, -8, -8, -8)...)
	whole := slices.Clone(room)
	call(room[:len(l)])
	if !slices.Equal(room, whole) {
		t.Fatalf("%v was changed to %v", whole, room)
	}
}

// change is a call that makes another list of one.
type change func(l []api.Ext) (out []api.Ext, freed []api.Run, e api.Errno)

// comes holds that a call comes to that list, and to what it frees by that, or, where it may not be called so, to ErrArg and nothing beside it; and tells the error.
func comes(t *testing.T, l []api.Ext, may bool, want func() []api.Ext, call change) api.Errno {
	t.Helper()
	var e api.Errno
	kept(t, l, func(l []api.Ext) {
		var out []api.Ext
		var freed []api.Run
		out, freed, e = call(l)
		if !may {
			if e != api.ErrArg || out != nil || freed != nil {
				t.Fatalf("%v: %v, %v, %v, wanted an error alone", l, out, freed, e)
			}
			return
		}
		want := want()
		if e != api.OK || !slices.Equal(out, want) {
			t.Fatalf("%v: %v, %v, wanted %v", l, out, e, want)
		}
		if gone := plain(l, want...); !slices.Equal(freed, gone) {
			t.Fatalf("%v, changed to %v: freed %v, wanted %v", l, out, freed, gone)
		}
		if !mayList(out) || !Check(out) {
			t.Fatalf("%v, made of %v, is not in order", out, l)
		}
	})
	return e
}

// asks holds all that can be asked of a list against what the chapter says of it.
func asks(t *testing.T, l []api.Ext, at ...int) {
	t.Helper()
	in := mayList(l)
	if Check(l) != in {
		t.Fatalf("Check(%v) = %v", l, !in)
	}
	var blocks []api.Run
	end, count := 0, 0
	var places [2048]place
	if in {
		blocks = plain(l)
		places = told(l)
	}
	for logical, x := range places {
		if x.left > 0 {
			end = logical + 1
			count++
		}
	}
	kept(t, l, func(l []api.Ext) {
		if got := Blocks(l); !slices.Equal(got, blocks) || !in && got != nil {
			t.Fatalf("Blocks(%v) = %v, wanted %v", l, got, blocks)
		}
		if End(l) != end || Count(l) != count {
			t.Fatalf("%v: End is %d, wanted %d; Count is %d, wanted %d", l, End(l), end, Count(l), count)
		}
		for _, logical := range at {
			var want place
			if inside(logical, 0, 2048) {
				want = places[logical]
			}
			physical, left, ok := Find(l, logical)
			if physical != want.physical || left != want.left || ok != (want.left > 0) {
				t.Fatalf("Find(%v, %d) = %d, %d, %v, wanted %v", l, logical, physical, left, ok, want)
			}
		}
	})
}

// putting, punching and cutting are the calls with all but the list.
func putting(x api.Ext) change {
	return func(l []api.Ext) ([]api.Ext, []api.Run, api.Errno) { return Put(l, x) }
}

func punching(from, n int) change {
	return func(l []api.Ext) ([]api.Ext, []api.Run, api.Errno) { return Punch(l, from, n) }
}

func cutting(from int) change {
	return func(l []api.Ext) ([]api.Ext, []api.Run, api.Errno) { return Cut(l, from) }
}

// puts holds Put against what the chapter says of it, and tells the error.
func puts(t *testing.T, l []api.Ext, x api.Ext) api.Errno {
	t.Helper()
	want := func() []api.Ext {
		return with(without(l, func(logical int) bool { return inside(logical, x.Logical, x.Len) }), x)
	}
	return comes(t, l, mayList(l) && may(x), want, putting(x))
}

// punches holds Punch against what the chapter says of it, and tells the error.
func punches(t *testing.T, l []api.Ext, from, n int) api.Errno {
	t.Helper()
	may := mayList(l) && from >= 0 && n >= 0 && from <= 2048 && n <= 2048 && from+n <= 2048
	want := func() []api.Ext {
		return without(l, func(logical int) bool { return inside(logical, from, n) })
	}
	return comes(t, l, may, want, punching(from, n))
}

// cuts holds Cut against what the chapter says of it, and tells the error.
func cuts(t *testing.T, l []api.Ext, from int) api.Errno {
	t.Helper()
	want := func() []api.Ext {
		return without(l, func(logical int) bool { return logical >= from })
	}
	return comes(t, l, mayList(l) && from >= 0, want, cutting(from))
}

// story holds that a call comes to that list and frees those blocks.
func story(t *testing.T, l, want []api.Ext, gone []api.Run, call change) {
	t.Helper()
	out, freed, e := call(l)
	if e != api.OK || !slices.Equal(out, want) || !slices.Equal(freed, gone) {
		t.Errorf("%v: %v, %v, %v, wanted %v, %v", l, out, freed, e, want, gone)
	}
}

// put holds that Put comes to that list and frees those blocks.
func put(t *testing.T, l []api.Ext, x api.Ext, want []api.Ext, gone []api.Run) {
	t.Helper()
	puts(t, l, x)
	story(t, l, want, gone, putting(x))
}

// punch holds that Punch comes to that list and frees those blocks.
func punch(t *testing.T, l []api.Ext, from, n int, want []api.Ext, gone []api.Run) {
	t.Helper()
	punches(t, l, from, n)
	story(t, l, want, gone, punching(from, n))
}

// cut holds that Cut comes to that list and frees those blocks.
func cut(t *testing.T, l []api.Ext, from int, want []api.Ext, gone []api.Run) {
	t.Helper()
	cuts(t, l, from)
	story(t, l, want, gone, cutting(from))
}
