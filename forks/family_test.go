package forks

import (
	"math/rand"
	"slices"
	"testing"

	"glissade/api"
)

// family is a tree that comes of Replace, Move and Lead alone, the disk that holds its nodes and nothing else, and the list that it should have.
type family struct {
	tree Tree
	d    *disk
	list []api.Ext
}

func newFamily() *family { return &family{d: newDisk()} }

// spring tells the lowest blocks from 2100 on that neither a node nor an extent has.
func (f *family) spring(l []api.Ext) *spring {
	return pool(2100, 4096, 1, func(b int) bool {
		_, node := f.d.blocks[b]
		return node || covers(f.list, []int{b}) || covers(l, []int{b})
	})
}

// try is what a Replace comes to, held against the chapter's terms and against the limits of what becomes of such a tree.
func (f *family) try(t *testing.T, from, to int, l []api.Ext) Set {
	t.Helper()
	s := f.spring(l)
	x, e := replaces(t, f.tree, f.d, from, to, l, s)
	if e != api.OK {
		t.Fatalf("%v, %d, %d, %v: %v", f.tree, from, to, l, e)
	}
	f.limits(t, x, s, replacedTold(f.list, from, to, l), l)
	return x
}

// limits are those of P15.5.
func (f *family) limits(t *testing.T, x Set, s *spring, want, l []api.Ext) {
	t.Helper()
	if slices.Equal(want, f.list) {
		if !equal(x, Set{f.tree, nil, nil}) || len(s.told) > 0 {
			t.Fatalf("nothing changes in %v, but %v", f.tree, x)
		}
		return
	}
	if most := 3*max(f.tree.Depth, x.Tree.Depth) + len(l); len(x.Changes) > most {
		t.Fatalf("%v with %d more to %v: %d changes, not %d", f.tree, len(l), x.Tree, len(x.Changes), most)
	}
	if x.Tree.Depth > 4 || len(want) <= 4 && x.Tree.Depth > 0 {
		t.Fatalf("%v for %d extents", x.Tree, len(want))
	}
	// Half-full nodes are what these limits rest on: a tree of emptier ones could come to need a fifth level.
	for _, c := range x.Changes {
		if l, _, _ := unlay(c.Data); len(l) < 5 {
			t.Fatalf("of %v: block %d has no more than %v", f.tree, c.Block, l)
		}
	}
}

// replace is a Replace that is taken, and a Walk behind it.
func (f *family) replace(t *testing.T, from, to int, l []api.Ext) {
	t.Helper()
	x := f.try(t, from, to, l)
	f.tree, f.list = f.d.take(x), replacedTold(f.list, from, to, l)
	list, nodes, e := walks(t, f.tree, f.d)
	if e != api.OK || !slices.Equal(list, f.list) || len(nodes) != len(f.d.blocks) {
		t.Fatalf("%v has %v, %d nodes on %d blocks, %v", f.tree, list, len(nodes), len(f.d.blocks), e)
	}
}

// quick is replace, held against the list and the limits alone.
func (f *family) quick(t *testing.T, from, to int, l []api.Ext) {
	t.Helper()
	s := f.spring(nil)
	x, e := Replace(f.tree, f.d.read, from, to, l, s.fresh)
	want := replacedTold(f.list, from, to, l)
	if e != api.OK {
		t.Fatalf("%v, %d, %d, %v: %v", f.tree, from, to, l, e)
	}
	f.limits(t, x, s, want, l)
	f.tree, f.list = f.d.take(x), want
	list, nodes, e := Walk(f.tree, f.d.read)
	if e != api.OK || !slices.Equal(list, want) || len(nodes) != len(f.d.blocks) {
		t.Fatalf("%v has %v, %d nodes on %d blocks, %v", f.tree, list, len(nodes), len(f.d.blocks), e)
	}
}

// move and lead are Moves and Leads that are taken if they may be.
func (f *family) move(t *testing.T, x api.Ext, to int) {
	t.Helper()
	s, e := moves(t, f.tree, f.d, x.Logical, x.Len, to)
	if e == api.OK {
		f.tree = f.d.take(s)
		f.list, _, _, _ = walked(t, f.tree, f.d)
	}
}

func (f *family) lead(t *testing.T, from, to int) {
	t.Helper()
	if s, e := leadsOn(t, f.tree, f.d, from, to); e == api.OK {
		f.tree = f.d.take(s)
	}
}

// orders are orders in which n things are taken: from the front, from behind, from the midst outward, mixed up, and at random.
func orders(n int) [][]int {
	all := make([][]int, 5)
	for i := range n {
		all[0] = append(all[0], i)
		all[1] = append(all[1], n-1-i)
		all[3] = append(all[3], i*7%n)
	}
	for i := range n {
		at := n/2 + (i+1)/2
		if i%2 == 1 {
			at = n/2 - (i+1)/2
		}
		if at >= 0 && at < n {
			all[2] = append(all[2], at)
		}
	}
	for i := range n {
		if !slices.Contains(all[2], i) {
			all[2] = append(all[2], i)
		}
	}
	// Where 7 divides n, not all come by.
	if n%7 == 0 {
		all[3] = slices.Clone(all[2])
		slices.Reverse(all[3])
	}
	all[4] = rand.New(rand.NewSource(int64(n))).Perm(n)
	return all
}

// P15.3, P15.5: lists built up extent by extent and taken away again, in all orders, with a Walk behind each step.
func TestBuildUp(t *testing.T) {
	for _, n := range []int{1, 4, 5, 10, 11, 40, 41} {
		for i, up := range orders(n) {
			for k, down := range orders(n) {
				if n > 11 && (i+k)%2 == 1 {
					continue
				}
				f := newFamily()
				for _, at := range up {
					f.replace(t, 2*at, 2*at+1, list(2*at, 1+at, 1))
				}
				if len(f.list) != n {
					t.Fatal(len(f.list))
				}
				for _, at := range down {
					f.replace(t, 2*at, 2*at+1, nil)
				}
				if !equal(Set{Tree: f.tree}, Set{}) || len(f.d.blocks) > 0 {
					t.Fatalf("%v, %d blocks", f.tree, len(f.d.blocks))
				}
			}
		}
	}
}

// chunks are the logical blocks of the greatest file, by rows of 1, 2 and so on up to most of them: where each begins and ends.
func chunks(most int) [][2]int {
	var all [][2]int
	for at, n := 0, 1; at < 2048; n = n%most + 1 {
		all = append(all, [2]int{at, min(at+n, 2048)})
		at += n
	}
	return all
}

// P15.5: as many extents as there may be, built up by a few at once and taken away again, in all orders.
func TestMany(t *testing.T) {
	t.Parallel()
	up, down := chunks(10), chunks(15)
	downs := orders(len(down))
	for i, order := range orders(len(up)) {
		f := newFamily()
		for _, k := range order {
			var l []api.Ext
			for at := up[k][0]; at < up[k][1]; at++ {
				l = append(l, api.Ext{Logical: at, Physical: 2048 - at, Len: 1})
			}
			f.quick(t, up[k][0], up[k][1], l)
		}
		if len(f.list) != 2048 {
			t.Fatal(len(f.list))
		}
		walks(t, f.tree, f.d)
		for _, k := range downs[(i+2)%5] {
			f.quick(t, down[k][0], down[k][1], nil)
		}
		if !equal(Set{Tree: f.tree}, Set{}) || len(f.d.blocks) > 0 {
			t.Fatalf("%v, %d blocks", f.tree, len(f.d.blocks))
		}
	}
	// And one by one, from the front.
	f := newFamily()
	for at := range 2048 {
		x, e := Replace(f.tree, f.d.read, at, at+1, list(at, 1+at%9, 1), f.spring(nil).fresh)
		if e != api.OK || x.Tree.Depth > 4 || len(x.Changes) > 3*x.Tree.Depth+1 {
			t.Fatalf("%d: %v, %v", at, x, e)
		}
		f.tree = f.d.take(x)
	}
	if l, _, e := walks(t, f.tree, f.d); e != api.OK || len(l) != 2048 {
		t.Fatal(len(l), e)
	}
}

// P15.3, P15.5: lists of all sizes in one call, in place of lists of all others.
func TestAtOnce(t *testing.T) {
	sizes := []int{0, 1, 4, 5, 6, 10, 11, 20, 21, 40, 41, 49, 50, 51, 100, 101, 109, 400, 401, 1023}
	for _, n := range sizes {
		for _, m := range sizes {
			f := newFamily()
			f.replace(t, 0, 2048, every(n, 2, 1))
			f.replace(t, 0, 2048, every(m, 2, 1000))
		}
	}
	f := newFamily()
	f.replace(t, 0, 2048, every(2048, 1, 1))
	f.replace(t, 0, 2048, every(2048, 1, 52))
	f.replace(t, 0, 2048, list(0, 1, 2048))
	f.replace(t, 0, 2048, nil)
}

// packed is a family whose nodes are all full: each place in it has no room for one more.
func packed(t *testing.T, n, gap, length int) *family {
	t.Helper()
	f := newFamily()
	var l []api.Ext
	for i := range n {
		l = append(l, api.Ext{Logical: i * gap, Physical: 1 + i*length, Len: length})
	}
	f.replace(t, 0, 2048, l)
	return f
}

// P15.5: how many nodes change where each one on the way up has to be parted, by what is laid in between and by an extent that is parted; and where each is as empty as can be.
func TestLimits(t *testing.T) {
	t.Parallel()
	for _, x := range [][3]int{{400, 5, 3}, {1000, 2, 1}, {600, 3, 3}, {40, 50, 3}, {10, 100, 40}, {100, 10, 9}, {101, 20, 3}, {500, 4, 3}, {51, 40, 3}, {26, 40, 3}} {
		f := packed(t, x[0], x[1], x[2])
		step := max(1, x[0]/9)
		for i := 0; i < x[0]; i += step {
			at := i * x[1]
			// The midst of an extent is taken out, or an end, or the extent, or it and others behind it.
			for _, to := range [][2]int{{at + 1, at + 2}, {at, at + 1}, {at + x[2] - 1, at + x[2]}, {at, at + x[2]}, {at, at + 5*x[1]}, {at + 1, at + 9*x[1] + 1}, {at + 1, at + 50*x[1] + 1}, {0, at + 1}, {at + 1, 2048}} {
				if to[1] <= 2048 {
					f.try(t, to[0], to[1], nil)
				}
			}
			// And others are laid in its place, or in between.
			for n := range 14 {
				for _, from := range []int{at, at + 1, at + x[2], at + x[2] + 1} {
					var l []api.Ext
					for k := range n {
						l = append(l, api.Ext{Logical: from + k, Physical: 4000 - k, Len: 1})
					}
					if from+n <= 2048 {
						f.try(t, from, from+n, l)
					}
				}
			}
		}
	}
}

// P15.3 to P15.5: Replaces, Moves and Leads at random, one behind the other.
func TestRandomFamily(t *testing.T) {
	for seed := range int64(40) {
		r := rand.New(rand.NewSource(seed))
		f := newFamily()
		reach := []int{30, 200, 700, 2048}[seed%4]
		wide := []int{3, 20, 100}[seed%3]
		for range 150 {
			switch r.Intn(8) {
			case 0:
				if len(f.list) > 0 {
					f.move(t, f.list[r.Intn(len(f.list))], r.Intn(2100))
				}
			case 1:
				_, nodes, _, _ := walked(t, f.tree, f.d)
				if len(nodes) > 0 {
					f.lead(t, nodes[r.Intn(len(nodes))], 2100+r.Intn(1996))
				}
			default:
				from := r.Intn(reach)
				to := min(from+r.Intn(wide), 2048)
				var l []api.Ext
				for at := from; r.Intn(5) > 0; {
					x := api.Ext{Logical: at + r.Intn(3)/2, Physical: 1 + r.Intn(2000), Len: 1 + r.Intn(3)}
					if at = x.Logical + x.Len; at > to {
						break
					}
					l = append(l, x)
				}
				f.replace(t, from, to, l)
			}
		}
	}
}

// P15.5: all that can be done to a tree of few extents, from each tree that can come of it: from and to at each edge, with nothing, one or some laid between.
func TestAllSmall(t *testing.T) {
	t.Parallel()
	for _, n := range []int{4, 5, 6, 10, 11, 12, 15, 20, 21} {
		for _, full := range []bool{false, true} {
			f := newFamily()
			if full {
				f.replace(t, 0, 2048, every(n, 2, 1))
			} else {
				for i := range n {
					f.replace(t, 2*i, 2*i+1, list(2*i, 1+i, 1))
				}
			}
			for from := range 2*n + 2 {
				for to := from; to < 2*n+3; to++ {
					f.try(t, from, to, nil)
					if to > from {
						f.try(t, from, to, list(from, 700, 1))
						f.try(t, from, to, list(to-1, 700, 1))
						f.try(t, from, to, list(from, 700, to-from))
						var l []api.Ext
						for at := from; at < to; at++ {
							l = append(l, api.Ext{Logical: at, Physical: 900 - at, Len: 1})
						}
						f.try(t, from, to, l)
					}
				}
			}
		}
	}
}
