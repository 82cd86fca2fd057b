package forks

import (
	"slices"
	"strings"
	"testing"

	"glissade/api"
)

// five is the list of the chapter's table.
func five() []api.Ext {
	return list(0, 10, 1, 2, 12, 1, 4, 14, 1, 6, 16, 1, 8, 18, 1)
}

// fifty is the tree of the chapter's table: a root that leads to block 50.
func fifty(t *testing.T) (Tree, *disk) {
	t.Helper()
	d := newDisk()
	s, e := Replace(Tree{}, d.read, 0, 9, five(), func() (int, api.Errno) { return 50, api.OK })
	if e != api.OK {
		t.Fatal(e)
	}
	return d.take(s), d
}

// P15.1, P15.2, P15.3, P15.4: the chapter's table.
func TestTable(t *testing.T) {
	s, e := Encode(row(0, 100, 3), true)
	if e != api.OK || s != "\x46\x01\x01"+"\x00\x00\x00\x00"+"\x64\x00\x00\x00"+"\x03\x00\x00\x00"+strings.Repeat("\x00", 113) {
		t.Errorf("%q, %v", s, e)
	}
	if l, nodes, e := Walk(Tree{Root: row(0, 100, 3)}, nil); e != api.OK || !slices.Equal(l, list(0, 100, 3)) || len(nodes) > 0 {
		t.Error(l, nodes, e)
	}
	d := newDisk()
	asked := 0
	x, e := Replace(Tree{}, d.read, 0, 9, five(), func() (int, api.Errno) { asked++; return 50, api.OK })
	leaf := lay(row(0, 10, 1, 2, 12, 1, 4, 14, 1, 6, 16, 1, 8, 18, 1), true)
	if e != api.OK || asked != 1 || !equal(x, Set{Tree{1, row(0, 50, 0)}, []api.Change{{Block: 50, Data: leaf}}, nil}) {
		t.Error(x, e, asked)
	}
	tree := d.take(x)
	if l, nodes, e := Walk(tree, d.read); e != api.OK || !slices.Equal(l, five()) || !slices.Equal(nodes, []int{50}) {
		t.Error(l, nodes, e)
	}
	if x, e := Replace(tree, d.read, 2, 7, nil, nil); e != api.OK || !equal(x, Set{Tree{0, row(0, 10, 1, 8, 18, 1)}, nil, []int{50}}) {
		t.Error(x, e)
	}
	moved := lay(row(0, 10, 1, 2, 12, 1, 4, 99, 1, 6, 16, 1, 8, 18, 1), true)
	if x, e := Move(tree, d.read, 4, 1, 99); e != api.OK || !equal(x, Set{tree, []api.Change{{Block: 50, Data: moved}}, nil}) {
		t.Error(x, e)
	}
	if x, e := Lead(tree, d.read, 50, 60); e != api.OK || !equal(x, Set{Tree{1, row(0, 60, 0)}, []api.Change{{Block: 60, Data: leaf}}, []int{50}}) {
		t.Error(x, e)
	}
	if x, e := Move(tree, d.read, 4, 2, 99); e != api.ErrNone {
		t.Error(x, e)
	}
	d.blocks[51] = strings.Repeat("F", 128)
	for i, x := range []Tree{{Depth: 1}, {Depth: 5, Root: row(0, 50, 0)}, {Depth: 1, Root: row(0, 51, 0)}} {
		if l, nodes, e := Walk(x, d.read); e != api.ErrForm || len(l)+len(nodes) > 0 {
			t.Error(i, l, nodes, e)
		}
	}
}

// Ways: parts follow one on the other, and each ends where its capacity does, so that what is appended to one is not written to the next.
func TestSplit(t *testing.T) {
	for n := range 60 {
		for most := 1; most < 14; most++ {
			var whole, laid []int
			for i := range n {
				whole = append(whole, 100+i)
			}
			parts := split(whole, most)
			for _, part := range parts {
				laid = append(laid, part...)
				if len(part) != cap(part) || len(part) < 1 || len(part) > most || len(part) < n/len(parts) || len(part) > n/len(parts)+1 {
					t.Fatalf("%d by %d: a part of %d, %d", n, most, len(part), cap(part))
				}
				_ = append(part, -1)
			}
			if !slices.Equal(laid, whole) || len(parts) != (n+most-1)/most {
				t.Fatalf("%d by %d: %v", n, most, parts)
			}
		}
	}
	if parts := split([]string{"a", "b", "c"}, 2); len(parts) != 2 || len(parts[0]) != 1 || !slices.Equal(parts[1], []string{"b", "c"}) {
		t.Error(parts)
	}
}
