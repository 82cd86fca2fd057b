package exts

import (
	"math"
	"math/rand"
	"slices"
	"testing"

	"glissade/api"
)

// example is the list of the chapter's table.
func example() []api.Ext { return list(0, 100, 4, 6, 200, 2) }

// P14.1, P14.2, P14.3: the chapter's table.
func TestTable(t *testing.T) {
	l := example()
	asks(t, l, 2, 4)
	if physical, left, ok := Find(l, 2); physical != 102 || left != 2 || !ok {
		t.Error(physical, left, ok)
	}
	if physical, left, ok := Find(l, 4); physical != 0 || left != 0 || ok {
		t.Error(physical, left, ok)
	}
	if !slices.Equal(Blocks(l), rows(100, 4, 200, 2)) || End(l) != 8 || Count(l) != 6 {
		t.Error(Blocks(l), End(l), Count(l))
	}
	put(t, l, list(2, 300, 1)[0], list(0, 100, 2, 2, 300, 1, 3, 103, 1, 6, 200, 2), rows(102, 1))
	put(t, l, list(4, 104, 2)[0], list(0, 100, 4, 4, 104, 2, 6, 200, 2), nil)
	put(t, l, list(2, 50, 6)[0], list(0, 100, 2, 2, 50, 6), rows(102, 2, 200, 2))
	punch(t, l, 1, 6, list(0, 100, 1, 7, 201, 1), rows(101, 3, 200, 1))
	cut(t, l, 7, list(0, 100, 4, 6, 200, 1), rows(201, 1))
	if e := puts(t, l, list(0, 0, 1)[0]); e != api.ErrArg {
		t.Error(e)
	}
	if e := punches(t, l, -1, 1); e != api.ErrArg {
		t.Error(e)
	}
	if !Check(list(0, 100, 1, 1, 101, 1)) || Check(list(0, 100, 2, 1, 200, 1)) {
		t.Error("Check")
	}
}

// P14.1: extents of every length that matters, at each bound of Logical and Physical and one beyond it, on either side.
func TestBounds(t *testing.T) {
	for _, x := range []struct {
		ext  []api.Ext
		want bool
	}{
		{list(0, 1, 0), false}, {list(0, 1, 1), true}, {list(0, 1, 2047), true}, {list(0, 1, 2048), true}, {list(0, 1, 2049), false},
		{list(0, 1, -1), false}, {list(0, 1, math.MaxInt), false}, {list(0, 1, math.MinInt), false},
		{list(-1, 1, 1), false}, {list(2047, 1, 1), true}, {list(2048, 1, 1), false},
		{list(2046, 1, 2), true}, {list(2047, 1, 2), false}, {list(1, 1, 2047), true}, {list(2, 1, 2047), false}, {list(1, 1, 2048), false}, {list(-1, 1, 2048), false},
		{list(0, 0, 1), false}, {list(0, -1, 1), false}, {list(0, 4095, 1), true}, {list(0, 4096, 1), false},
		{list(0, 4094, 2), true}, {list(0, 4095, 2), false}, {list(0, 2049, 2047), true}, {list(0, 2050, 2047), false}, {list(0, 2048, 2048), true}, {list(0, 2049, 2048), false}, {list(0, 0, 2048), false},
		{list(math.MinInt, 1, 1), false}, {list(math.MaxInt, 1, 1), false}, {list(0, math.MinInt, 1), false}, {list(0, math.MaxInt, 1), false},
		{list(math.MaxInt, 1, math.MaxInt), false}, {list(0, math.MaxInt, math.MaxInt), false}, {list(math.MinInt, 1, math.MinInt), false}, {list(0, math.MinInt, math.MinInt), false},
		{list(math.MinInt+2048, 1, math.MinInt), false}, {list(0, math.MinInt+4096, math.MinInt), false}, {list(1, 1, math.MaxInt), false}, {list(2, 2, math.MaxInt-1), false},
	} {
		if may(x.ext[0]) != x.want {
			t.Fatalf("the story says otherwise of %v", x.ext)
		}
		asks(t, x.ext, -1, 0, 1, 2047, 2048)
	}
	for n := range 2051 {
		for _, at := range []int{-1, 0, 1, 2046 - n, 2047 - n, 2048 - n, 2049 - n, 2050 - n, 2048} {
			for _, physical := range []int{0, 1, 2, 4095 - n, 4096 - n, 4097 - n, 4096} {
				l := list(at, physical, n)
				if Check(l) != mayList(l) {
					t.Fatalf("Check(%v) = %v", l, Check(l))
				}
			}
		}
	}
}

// P14.1, R1: an extent of any three numbers, alone, in a list, and put into one.
func TestAnyNumbers(t *testing.T) {
	good := 0
	for _, logical := range far() {
		for _, physical := range far() {
			for _, n := range far() {
				l := list(logical, physical, n)
				if may(l[0]) {
					good++
				}
				asks(t, l, 0, logical)
				puts(t, nil, l[0])
				puts(t, example(), l[0])
				puts(t, l, list(1, 1, 1)[0])
				punches(t, l, 0, 1)
				cuts(t, l, 1)
			}
		}
	}
	if good < 300 {
		t.Error("so few are valid:", good)
	}
}

// P14.1: two extents, one behind the other, touching, one block too early, and the other way round.
func TestPairs(t *testing.T) {
	for _, n := range []int{1, 2, 3, 500, 1000, 1023} {
		for _, m := range []int{1, 2, 3, 500, 1000, 1023} {
			for _, at := range []int{0, 1, 2, 10, 24, 25} {
				for _, gap := range []int{-n - 1, -n, 1 - n, -m - n, -2, -1, 0, 1, 2, 2048 - m - n - at, 2049 - m - n - at} {
					l := list(at, 100, n, at+n+gap, 2000, m)
					in := mayList(l)
					if in != (gap >= 0 && at+n+gap+m <= 2048) {
						t.Fatalf("the story says otherwise of %v", l)
					}
					asks(t, l, at, at+n-1, at+n, at+n+gap)
					slices.Reverse(l)
					asks(t, l, at, at+n-1, at+n, at+n+gap)
				}
			}
		}
	}
	// Neighbours may go on where the other ends, and have the same blocks.
	for _, l := range [][]api.Ext{
		list(0, 100, 1, 1, 101, 1), list(0, 100, 2, 2, 102, 3, 5, 105, 1), list(0, 100, 2, 2, 100, 2), list(0, 100, 3, 3, 101, 1),
		list(0, 102, 1, 1, 101, 1, 2, 100, 1), list(0, 1, 1024, 1024, 1025, 1024),
	} {
		if !Check(l) {
			t.Errorf("Check(%v)", l)
		}
		asks(t, l, 0, 1, 2, 3)
	}
	if !Check(nil) || !Check([]api.Ext{}) {
		t.Error("the empty list")
	}
}

// P14.1: lists that are not in order have nothing: Find, Blocks, End and Count tell of none, and nothing can be done with them.
func TestWrong(t *testing.T) {
	for _, x := range invalid() {
		if may(x) {
			t.Fatalf("%v is valid", x)
		}
		if e := puts(t, example(), x); e != api.ErrArg {
			t.Errorf("%v: %v", x, e)
		}
		if e := puts(t, nil, x); e != api.ErrArg {
			t.Errorf("%v: %v", x, e)
		}
	}
	for _, l := range wrong() {
		if mayList(l) {
			t.Fatalf("%v is in order", l)
		}
		asks(t, l, far()...)
		asks(t, l, 3, 4, 5, 6, 7, 8, 9, 10)
		for _, x := range append(list(0, 1, 1, 0, 1, 2048, 2047, 1, 1, 4, 9, 2, 0, 0, 1), l...) {
			if e := puts(t, l, x); e != api.ErrArg {
				t.Errorf("%v, %v: %v", l, x, e)
			}
		}
		for _, n := range []int{-1, 0, 1, 2047, 2048, 2049} {
			for _, from := range []int{-1, 0, 1, 2047, 2048, 2049} {
				if e := punches(t, l, from, n); e != api.ErrArg {
					t.Errorf("%v, %d, %d: %v", l, from, n, e)
				}
			}
		}
		for _, from := range far() {
			if e := cuts(t, l, from); e != api.ErrArg {
				t.Errorf("%v, %d: %v", l, from, e)
			}
		}
	}
}

// P14.2: Find at every logical block there is, and at those there are not.
func TestFind(t *testing.T) {
	var all []int
	for at := -3; at < 2055; at++ {
		all = append(all, at)
	}
	all = append(all, far()...)
	for _, l := range some() {
		asks(t, l, all...)
	}
	for _, x := range []struct {
		at, physical, left int
		ok                 bool
	}{
		{-1, 0, 0, false}, {0, 0, 0, false}, {2, 0, 0, false}, {3, 50, 3, true}, {4, 51, 2, true}, {5, 52, 1, true}, {6, 53, 2, true}, {7, 54, 1, true}, {8, 0, 0, false},
		{9, 50, 1, true}, {10, 0, 0, false}, {2045, 0, 0, false}, {2046, 4094, 2, true}, {2047, 4095, 1, true}, {2048, 0, 0, false},
		{math.MinInt, 0, 0, false}, {math.MaxInt, 0, 0, false},
	} {
		l := list(3, 50, 3, 6, 53, 2, 9, 50, 1, 2046, 4094, 2)
		if physical, left, ok := Find(l, x.at); physical != x.physical || left != x.left || ok != x.ok {
			t.Errorf("Find %d: %d, %d, %v", x.at, physical, left, ok)
		}
	}
}

// P14.2: Blocks, End and Count of lists whose extents have blocks in common, touch on the disk, or lie there in another order.
func TestBlocks(t *testing.T) {
	for _, x := range []struct {
		l          []api.Ext
		blocks     []api.Run
		end, count int
	}{
		{nil, nil, 0, 0},
		{[]api.Ext{}, nil, 0, 0},
		{list(0, 300, 5, 5, 300, 5), rows(300, 5), 10, 10},
		{list(0, 300, 5, 9, 302, 5), rows(300, 7), 14, 10},
		{list(0, 300, 5, 9, 305, 5), rows(300, 10), 14, 10},
		{list(0, 300, 5, 9, 306, 5), rows(300, 5, 306, 5), 14, 10},
		{list(0, 300, 5, 9, 290, 10), rows(290, 15), 19, 15},
		{list(0, 300, 9, 9, 302, 3), rows(300, 9), 12, 12},
		{list(5, 9, 1, 7, 8, 1, 9, 7, 1, 11, 5, 1), rows(5, 1, 7, 3), 12, 4},
		{list(0, 1, 2048), rows(1, 2048), 2048, 2048},
		{list(0, 2049, 1024, 1024, 1025, 1024), rows(1025, 2048), 2048, 2048},
		{list(2047, 4095, 1), rows(4095, 1), 2048, 1},
		{list(0, 1, 1, 2046, 3, 1), rows(1, 1, 3, 1), 2047, 2},
	} {
		asks(t, x.l)
		if got := Blocks(x.l); !slices.Equal(got, x.blocks) || End(x.l) != x.end || Count(x.l) != x.count {
			t.Errorf("%v: %v, %d, %d", x.l, got, End(x.l), Count(x.l))
		}
	}
}

// P14.3: Put into a hole, ahead of all, behind all, over parts of extents, whole ones and many, and over the same blocks again.
func TestPut(t *testing.T) {
	l := list(4, 100, 4, 8, 104, 2, 12, 200, 3)
	for _, x := range []struct {
		ext   []api.Ext
		want  []api.Ext
		freed []api.Run
	}{
		// Into a hole, with and without room around it, and merged with nothing.
		{list(10, 106, 2), list(4, 100, 4, 8, 104, 2, 10, 106, 2, 12, 200, 3), nil},
		{list(10, 9, 1), list(4, 100, 4, 8, 104, 2, 10, 9, 1, 12, 200, 3), nil},
		{list(11, 199, 1), list(4, 100, 4, 8, 104, 2, 11, 199, 1, 12, 200, 3), nil},
		{list(10, 100, 2), list(4, 100, 4, 8, 104, 2, 10, 100, 2, 12, 200, 3), nil},
		// Ahead of all and behind all.
		{list(0, 96, 4), list(0, 96, 4, 4, 100, 4, 8, 104, 2, 12, 200, 3), nil},
		{list(0, 9, 1), list(0, 9, 1, 4, 100, 4, 8, 104, 2, 12, 200, 3), nil},
		{list(15, 203, 9), list(4, 100, 4, 8, 104, 2, 12, 200, 3, 15, 203, 9), nil},
		{list(2047, 4095, 1), list(4, 100, 4, 8, 104, 2, 12, 200, 3, 2047, 4095, 1), nil},
		// Over the beginning, the end and the midst of an extent, and over all of it.
		{list(4, 9, 1), list(4, 9, 1, 5, 101, 3, 8, 104, 2, 12, 200, 3), rows(100, 1)},
		{list(3, 9, 2), list(3, 9, 2, 5, 101, 3, 8, 104, 2, 12, 200, 3), rows(100, 1)},
		{list(7, 9, 1), list(4, 100, 3, 7, 9, 1, 8, 104, 2, 12, 200, 3), rows(103, 1)},
		{list(14, 9, 3), list(4, 100, 4, 8, 104, 2, 12, 200, 2, 14, 9, 3), rows(202, 1)},
		{list(5, 9, 2), list(4, 100, 1, 5, 9, 2, 7, 103, 1, 8, 104, 2, 12, 200, 3), rows(101, 2)},
		{list(8, 9, 2), list(4, 100, 4, 8, 9, 2, 12, 200, 3), rows(104, 2)},
		{list(8, 9, 4), list(4, 100, 4, 8, 9, 4, 12, 200, 3), rows(104, 2)},
		// Over two, and over many.
		{list(7, 9, 2), list(4, 100, 3, 7, 9, 2, 9, 105, 1, 12, 200, 3), rows(103, 2)},
		{list(6, 9, 7), list(4, 100, 2, 6, 9, 7, 13, 201, 2), rows(102, 4, 200, 1)},
		{list(4, 9, 11), list(4, 9, 11), rows(100, 6, 200, 3)},
		{list(0, 1, 2048), list(0, 1, 2048), nil},
		{list(0, 201, 2048), list(0, 201, 2048), rows(100, 6, 200, 1)},
		// The same logical blocks again, with the same blocks, with some of them, with others, and with those of another extent.
		{list(8, 104, 2), l, nil},
		{list(4, 100, 6), list(4, 100, 6, 12, 200, 3), nil},
		{list(5, 101, 2), list(4, 100, 1, 5, 101, 2, 7, 103, 1, 8, 104, 2, 12, 200, 3), nil},
		{list(8, 105, 2), list(4, 100, 4, 8, 105, 2, 12, 200, 3), rows(104, 1)},
		{list(8, 103, 2), list(4, 100, 4, 8, 103, 2, 12, 200, 3), rows(105, 1)},
		{list(12, 202, 3), list(4, 100, 4, 8, 104, 2, 12, 202, 3), rows(200, 2)},
		{list(8, 200, 2), list(4, 100, 4, 8, 200, 2, 12, 200, 3), rows(104, 2)},
		{list(4, 104, 2), list(4, 104, 2, 6, 102, 2, 8, 104, 2, 12, 200, 3), rows(100, 2)},
	} {
		put(t, l, x.ext[0], x.want, x.freed)
		put(t, nil, x.ext[0], x.ext, nil)
		put(t, x.ext, x.ext[0], x.ext, nil)
	}
}

// P14.3: Punch of nothing, of all, of one block, at the edges of extents and in their midst.
func TestPunch(t *testing.T) {
	l := list(4, 100, 4, 8, 104, 2, 12, 200, 3)
	for _, x := range []struct {
		from, n int
		want    []api.Ext
		freed   []api.Run
	}{
		{0, 0, l, nil}, {4, 0, l, nil}, {6, 0, l, nil}, {8, 0, l, nil}, {13, 0, l, nil}, {2048, 0, l, nil}, {2047, 0, l, nil},
		{0, 4, l, nil}, {10, 2, l, nil}, {15, 2033, l, nil}, {2047, 1, l, nil},
		{0, 2048, nil, rows(100, 6, 200, 3)}, {4, 11, nil, rows(100, 6, 200, 3)}, {5, 2043, list(4, 100, 1), rows(101, 5, 200, 3)},
		{4, 1, list(5, 101, 3, 8, 104, 2, 12, 200, 3), rows(100, 1)},
		{7, 1, list(4, 100, 3, 8, 104, 2, 12, 200, 3), rows(103, 1)},
		{6, 1, list(4, 100, 2, 7, 103, 1, 8, 104, 2, 12, 200, 3), rows(102, 1)},
		{4, 4, list(8, 104, 2, 12, 200, 3), rows(100, 4)},
		{3, 6, list(9, 105, 1, 12, 200, 3), rows(100, 5)},
		{7, 2, list(4, 100, 3, 9, 105, 1, 12, 200, 3), rows(103, 2)},
		{9, 4, list(4, 100, 4, 8, 104, 1, 13, 201, 2), rows(105, 1, 200, 1)},
		{14, 1, list(4, 100, 4, 8, 104, 2, 12, 200, 2), rows(202, 1)},
		{14, 2034, list(4, 100, 4, 8, 104, 2, 12, 200, 2), rows(202, 1)},
	} {
		punch(t, l, x.from, x.n, x.want, x.freed)
		punch(t, nil, x.from, x.n, nil, nil)
	}
	whole := list(0, 2048, 2048)
	punch(t, whole, 0, 0, whole, nil)
	punch(t, whole, 1000, 0, whole, nil)
	punch(t, whole, 2048, 0, whole, nil)
	punch(t, whole, 0, 2047, list(2047, 4095, 1), rows(2048, 2047))
	punch(t, whole, 1, 2047, list(0, 2048, 1), rows(2049, 2047))
	punch(t, whole, 1, 2046, list(0, 2048, 1, 2047, 4095, 1), rows(2049, 2046))
	punch(t, whole, 0, 2048, nil, rows(2048, 2048))
	punch(t, whole, 2047, 1, list(0, 2048, 2047), rows(4095, 1))
}

// P14.3: from and n at their bounds and beyond, and both so that their sum is at its bound and beyond, or wraps round.
func TestPunchBounds(t *testing.T) {
	numbers := append(far(), 5, 7, 8, 2040, 2041, 2042)
	for _, n := range far() {
		numbers = append(numbers, math.MaxInt-n, 2048-n, 2049-n, -n)
	}
	lists := [][]api.Ext{nil, example(), list(0, 2048, 2048), list(2047, 1, 1), list(0, 1, 1, 2047, 4095, 1)}
	seen := map[api.Errno]int{}
	for _, from := range numbers {
		for _, n := range numbers {
			for _, l := range lists {
				seen[punches(t, l, from, n)]++
			}
		}
	}
	if seen[api.OK] < 100 || seen[api.ErrArg] < 1000 || len(seen) != 2 {
		t.Error("so many of each:", seen)
	}
	for _, x := range []struct {
		from, n int
		want    api.Errno
	}{
		{-1, 0, 2}, {-1, 1, 2}, {-1, 2048, 2}, {-1, 2049, 2}, {0, -1, 2}, {1, -1, 2}, {2048, -1, 2}, {2049, -1, 2}, {0, 0, 0}, {0, 2047, 0}, {0, 2048, 0}, {0, 2049, 2},
		{1, 2047, 0}, {1, 2048, 2}, {1024, 1024, 0}, {1024, 1025, 2}, {2047, 0, 0}, {2047, 1, 0}, {2047, 2, 2}, {2048, 0, 0}, {2048, 1, 2}, {2049, 0, 2}, {2049, 1, 2},
		{math.MaxInt, 0, 2}, {math.MaxInt, 1, 2}, {0, math.MaxInt, 2}, {1, math.MaxInt, 2}, {2048, math.MaxInt, 2}, {math.MaxInt, math.MaxInt, 2},
		{math.MaxInt, math.MinInt, 2}, {math.MinInt, math.MaxInt, 2}, {math.MinInt, math.MinInt, 2}, {math.MinInt, 0, 2}, {0, math.MinInt, 2},
	} {
		for _, l := range lists {
			if e := punches(t, l, x.from, x.n); e != x.want {
				t.Errorf("%v, %d, %d: %v", l, x.from, x.n, e)
			}
		}
	}
}

// P14.3: Cut of nothing, of all, of one block, at the edges of extents and in their midst, and from anywhere.
func TestCut(t *testing.T) {
	l := list(4, 100, 4, 8, 104, 2, 12, 200, 3)
	for _, x := range []struct {
		from  int
		want  []api.Ext
		freed []api.Run
	}{
		{0, nil, rows(100, 6, 200, 3)}, {3, nil, rows(100, 6, 200, 3)}, {4, nil, rows(100, 6, 200, 3)},
		{5, list(4, 100, 1), rows(101, 5, 200, 3)}, {7, list(4, 100, 3), rows(103, 3, 200, 3)}, {8, list(4, 100, 4), rows(104, 2, 200, 3)},
		{9, list(4, 100, 4, 8, 104, 1), rows(105, 1, 200, 3)}, {10, list(4, 100, 4, 8, 104, 2), rows(200, 3)}, {12, list(4, 100, 4, 8, 104, 2), rows(200, 3)},
		{14, list(4, 100, 4, 8, 104, 2, 12, 200, 2), rows(202, 1)}, {15, l, nil}, {2047, l, nil}, {2048, l, nil}, {2049, l, nil}, {math.MaxInt, l, nil},
	} {
		cut(t, l, x.from, x.want, x.freed)
		cut(t, nil, x.from, nil, nil)
	}
	whole := list(0, 2048, 2048)
	cut(t, whole, 0, nil, rows(2048, 2048))
	cut(t, whole, 1, list(0, 2048, 1), rows(2049, 2047))
	cut(t, whole, 2047, list(0, 2048, 2047), rows(4095, 1))
	cut(t, whole, 2048, whole, nil)
	for _, l := range some() {
		for _, from := range append(far(), End(l)-1, End(l), End(l)+1) {
			want := api.OK
			if from < 0 {
				want = api.ErrArg
			}
			if e := cuts(t, l, from); e != want {
				t.Errorf("%v, %d: %v", l, from, e)
			}
		}
	}
}

// P14.3: of a list of which several extents have the same blocks, only those are freed that none maps to any more.
func TestShared(t *testing.T) {
	l := list(0, 300, 5, 5, 300, 5, 12, 302, 6)
	put(t, l, list(0, 9, 5)[0], list(0, 9, 5, 5, 300, 5, 12, 302, 6), nil)
	put(t, l, list(0, 9, 10)[0], list(0, 9, 10, 12, 302, 6), rows(300, 2))
	put(t, l, list(12, 300, 6)[0], list(0, 300, 5, 5, 300, 5, 12, 300, 6), rows(306, 2))
	put(t, l, list(0, 305, 5)[0], list(0, 305, 5, 5, 300, 5, 12, 302, 6), nil)
	punch(t, l, 0, 5, list(5, 300, 5, 12, 302, 6), nil)
	punch(t, l, 2, 5, list(0, 300, 2, 7, 302, 3, 12, 302, 6), nil)
	punch(t, l, 1, 5, list(0, 300, 1, 6, 301, 4, 12, 302, 6), nil)
	punch(t, l, 1, 6, list(0, 300, 1, 7, 302, 3, 12, 302, 6), rows(301, 1))
	punch(t, l, 12, 6, list(0, 300, 5, 5, 300, 5), rows(305, 3))
	punch(t, l, 0, 18, nil, rows(300, 8))
	cut(t, l, 5, list(0, 300, 5), rows(305, 3))
	cut(t, l, 2, list(0, 300, 2), rows(302, 6))
	cut(t, l, 16, list(0, 300, 5, 5, 300, 5, 12, 302, 4), rows(306, 2))
}

// mappings are all lists that a few logical blocks from one on can have, in so many ways of laying them on the disk.
func mappings(at, n int) [][]api.Ext {
	shapes := [][]api.Ext{nil}
	for logical := at; logical < at+n; logical++ {
		var longer [][]api.Ext
		for _, l := range shapes {
			longer = append(longer, l, append(slices.Clone(l), api.Ext{Logical: logical, Len: 1}))
			if last := len(l) - 1; last >= 0 && l[last].Logical+l[last].Len == logical {
				l = slices.Clone(l)
				l[last].Len++
				longer = append(longer, l)
			}
		}
		shapes = longer
	}
	var all [][]api.Ext
	for _, l := range shapes {
		for _, lay := range []func(x api.Ext) int{
			func(x api.Ext) int { return x.Logical - at + 1 },
			func(x api.Ext) int { return 9 },
			func(x api.Ext) int { return 4095 - x.Len - 3*(x.Logical-at) },
		} {
			laid := slices.Clone(l)
			for i, x := range laid {
				laid[i].Physical = lay(x)
			}
			all = append(all, laid)
		}
	}
	return all
}

// P14.1, P14.2, P14.3, P14.4: all lists of a few logical blocks, and all that can be put into them, punched out of them and cut off them.
func TestAllSmall(t *testing.T) {
	const n = 5
	for _, at := range []int{0, 1000, 2048 - n} {
		for _, l := range mappings(at, n) {
			asks(t, l, at-1, at, at+1, at+2, at+3, at+4, at+5)
			for from := max(at-1, 0); from <= at+n && from <= 2048; from++ {
				cuts(t, l, from)
				for to := from; to <= at+n+1 && to <= 2048; to++ {
					if e := punches(t, l, from, to-from); e != api.OK {
						t.Fatalf("%v, %d, %d: %v", l, from, to, e)
					}
					if from == to {
						continue
					}
					for _, physical := range []int{1, from - at + 2, 10, 3000, 4096 - to + from} {
						x := api.Ext{Logical: from, Physical: physical, Len: to - from}
						if e := puts(t, l, x); e != api.OK {
							t.Fatalf("%v, %v: %v", l, x, e)
						}
						pieces(t, l, x)
					}
				}
			}
		}
	}
}

// pieces holds what follows of Put: twice is once, in two pieces in either order is the same mapping, and punched out again it leaves what Punch alone leaves.
func pieces(t *testing.T, l []api.Ext, x api.Ext) {
	t.Helper()
	once, freed, _ := Put(l, x)
	twice, none, e := Put(once, x)
	if e != api.OK || !slices.Equal(twice, once) || len(none) != 0 {
		t.Fatalf("%v, %v put twice: %v, %v, %v", l, x, twice, none, e)
	}
	want := mapping(append(slices.Clone(l), x)...)
	if mapping(once...) != want {
		t.Fatalf("%v, %v: %v is another mapping", l, x, once)
	}
	for k := 1; k < x.Len; k += 1 + x.Len/4 {
		left, right := x, x
		left.Len = k
		right.Logical, right.Physical, right.Len = x.Logical+k, x.Physical+k, x.Len-k
		for _, both := range [][]api.Ext{{left, right}, {right, left}} {
			half, _, _ := Put(l, both[0])
			out, _, e := Put(half, both[1])
			if e != api.OK || mapping(out...) != want {
				t.Fatalf("%v, %v by %v: %v, %v", l, x, both, out, e)
			}
		}
	}
	out, _, e := Punch(once, x.Logical, x.Len)
	alone, _, _ := Punch(l, x.Logical, x.Len)
	if e != api.OK || !slices.Equal(out, alone) {
		t.Fatalf("%v, %v put and punched: %v, %v, wanted %v", l, x, out, e, alone)
	}
	if all := plain(append(slices.Clone(l), x)); !slices.Equal(all, joined(freed, once)) {
		t.Fatalf("%v, %v: what is freed, %v, and what %v maps to are not %v", l, x, freed, once, all)
	}
}

// joined is the normal form of runs and of what a list maps to.
func joined(l []api.Run, of []api.Ext) []api.Run {
	all := slices.Clone(of)
	for _, r := range l {
		all = append(all, api.Ext{Physical: r.Start, Len: r.Len})
	}
	return plain(all)
}

// P14.4: Punch and Cut leave all other logical blocks as they were, and Cut is Punch of all that is left.
func taken(t *testing.T, l []api.Ext, from, n int) {
	t.Helper()
	out, freed, e := Punch(l, from, n)
	want := mapping(l...)
	clear(want[from : from+n])
	if e != api.OK || mapping(out...) != want {
		t.Fatalf("%v, %d, %d: %v, %v", l, from, n, out, e)
	}
	if all := plain(l); !slices.Equal(all, joined(freed, out)) {
		t.Fatalf("%v, %d, %d: what is freed, %v, and what %v maps to are not %v", l, from, n, freed, out, all)
	}
	if again, none, e := Punch(out, from, n); e != api.OK || !slices.Equal(again, out) || len(none) != 0 {
		t.Fatalf("%v, %d, %d punched twice: %v, %v, %v", l, from, n, again, none, e)
	}
	for at := from; at < from+n; at += 1 + n/5 {
		if physical, left, ok := Find(out, at); physical != 0 || left != 0 || ok {
			t.Fatalf("%v, %d, %d: %d is mapped to %d, %d", l, from, n, at, physical, left)
		}
	}
	rest, gone, _ := Punch(l, from, 2048-from)
	short, lost, e := Cut(l, from)
	if e != api.OK || !slices.Equal(short, rest) || !slices.Equal(lost, gone) || End(short) > from {
		t.Fatalf("%v cut from %d: %v, %v, %v, wanted %v, %v", l, from, short, lost, e, rest, gone)
	}
}

// P14.3, P14.4: lists and what is done with them, made up, one behind the other.
func TestMadeUp(t *testing.T) {
	from := rand.New(rand.NewSource(140))
	for _, l := range some() {
		for range 25 {
			x := madeUpExt(from)
			if e := puts(t, l, x); e != api.OK {
				t.Fatalf("%v, %v: %v", l, x, e)
			}
			pieces(t, l, x)
			punches(t, l, x.Logical, x.Len)
			taken(t, l, x.Logical, x.Len)
		}
		taken(t, l, 0, 2048)
		taken(t, l, 0, 0)
		taken(t, l, 2048, 0)
	}
	for range 60 {
		l := madeUp(from, 6)
		for range 60 {
			x := madeUpExt(from)
			switch from.Intn(5) {
			case 0:
				punches(t, l, x.Logical, x.Len)
				l, _, _ = Punch(l, x.Logical, x.Len)
			case 1:
				cuts(t, l, 1024+x.Logical)
				l, _, _ = Cut(l, 1024+x.Logical)
			default:
				puts(t, l, x)
				l, _, _ = Put(l, x)
			}
			asks(t, l, x.Logical, x.Logical+x.Len-1, x.Logical+x.Len)
		}
	}
}

// P14.4: a list put extent by extent onto nothing, or onto another, is that list again, in whichever order.
func TestOneByOne(t *testing.T) {
	from := rand.New(rand.NewSource(141))
	for _, l := range some() {
		shuffled := slices.Clone(l)
		from.Shuffle(len(l), func(i, j int) { shuffled[i], shuffled[j] = shuffled[j], shuffled[i] })
		backward := slices.Clone(l)
		slices.Reverse(backward)
		for _, order := range [][]api.Ext{l, backward, shuffled} {
			var out []api.Ext
			for _, x := range order {
				var freed []api.Run
				var e api.Errno
				out, freed, e = Put(out, x)
				if e != api.OK || len(freed) != 0 {
					t.Fatalf("%v, %v: %v, %v", l, x, freed, e)
				}
			}
			if !slices.Equal(out, l) {
				t.Fatalf("%v came to %v", order, out)
			}
		}
		over := madeUp(from, 4)
		want := mapping(slices.Concat(over, l)...)
		for _, x := range l {
			over, _, _ = Put(over, x)
		}
		if mapping(over...) != want {
			t.Fatalf("%v came to %v", l, over)
		}
	}
}

// alone holds that lists that were answered are new: what is done to them is seen neither in what was passed nor in another answer.
func alone(t *testing.T, l []api.Ext, call change) {
	t.Helper()
	whole := slices.Clone(l)
	out, freed, _ := call(l)
	again, too, _ := call(l)
	for i := range out {
		out[i] = api.Ext{Logical: -7, Physical: -7, Len: -7}
	}
	for i := range freed {
		freed[i] = api.Run{Start: -7, Len: -7}
	}
	for range 9 {
		out = append(out, api.Ext{Logical: -8})
		freed = append(freed, api.Run{Start: -8})
	}
	third, last, _ := call(l)
	if !slices.Equal(l, whole) || !slices.Equal(third, again) || !slices.Equal(last, too) {
		t.Fatalf("%v shares its memory: %v, %v, %v, %v, %v", whole, l, again, third, too, last)
	}
}

// R4: lists that are answered are new each time, also where nothing was removed.
func TestNew(t *testing.T) {
	for _, l := range some() {
		x := api.Ext{Logical: End(l) / 2, Physical: 4095, Len: 1}
		same := x
		if len(l) > 0 {
			same = l[len(l)/2]
		}
		for _, x := range []api.Ext{x, same, {Logical: 0, Physical: 1, Len: 2048}} {
			alone(t, l, putting(x))
		}
		for _, x := range [][2]int{{0, 0}, {2048, 0}, {End(l), 2048 - End(l)}, {0, 1}, {0, 2048}, {End(l) / 2, 1}, {End(l) / 2, 0}} {
			alone(t, l, punching(x[0], x[1]))
		}
		for _, from := range []int{0, End(l) / 2, End(l), 2048, math.MaxInt} {
			alone(t, l, cutting(from))
		}
		alone(t, l, func(l []api.Ext) ([]api.Ext, []api.Run, api.Errno) { return nil, Blocks(l), api.OK })
	}
}

// R4: a list that was passed is not kept: what is done to it later is not seen in what was answered.
func TestNotKept(t *testing.T) {
	for _, l := range some() {
		l = slices.Clone(l)
		x := api.Ext{Logical: 3, Physical: 77, Len: 1}
		out, freed, _ := Put(l, x)
		same, none, _ := Punch(l, 5, 0)
		all, nothing, _ := Cut(l, 2048)
		blocks := Blocks(l)
		kept, gone, normal, before := slices.Clone(out), slices.Clone(freed), slices.Clone(blocks), slices.Clone(l)
		clear(l)
		if !slices.Equal(out, kept) || !slices.Equal(freed, gone) || !slices.Equal(blocks, normal) {
			t.Fatalf("%v is kept: %v, %v, %v", before, out, freed, blocks)
		}
		if !slices.Equal(same, before) || !slices.Equal(all, before) || len(none) != 0 || len(nothing) != 0 {
			t.Fatalf("%v is kept: %v, %v", before, same, all)
		}
	}
}

// R1, R2: lists that are far longer than any in order, and calls that were refused, of which the next ones know nothing.
func TestLong(t *testing.T) {
	for _, n := range []int{2049, 1 << 16, 1 << 20} {
		l := slices.Repeat(list(0, 1, 1), n)
		asks(t, l, 0, 1)
		puts(t, l, l[0])
		punches(t, l, 0, 1)
		cuts(t, l, 0)
	}
	var each []api.Ext
	for i := range 2049 {
		each = append(each, api.Ext{Logical: i, Physical: i + 1, Len: 1})
	}
	asks(t, each, 0, 2047, 2048)
	asks(t, each[:2048], 0, 2047, 2048)
	if Check(each) || !Check(each[:2048]) {
		t.Error("2048 extents are in order, and no more")
	}
	put(t, example(), list(2, 300, 1)[0], list(0, 100, 2, 2, 300, 1, 3, 103, 1, 6, 200, 2), rows(102, 1))
}
