package forks

import (
	"cmp"
	"slices"

	"glissade/api"
	"glissade/exts"
)

// shape is a tree with all its nodes: row h has the entries of each node of height h + 1, from left to right, and the last row those of the root alone. The block of a node stands in the row above its own, whose k-th entry leads to the k-th node.
type shape [][][]api.Entry

// reader reads the nodes of a tree.
type reader struct {
	read  Read
	seen  [api.MaxBlocks]bool
	shape shape
}

// load is the shape of a tree that is consistent.
func load(t Tree, read Read) (shape, api.Errno) {
	if !rooted(t) || t.Depth > 0 && read == nil {
		return nil, api.ErrForm
	}
	r := reader{read: read, shape: make(shape, t.Depth+1)}
	if e := r.take(t.Root, t.Depth); e != api.OK {
		return nil, e
	}
	// That each entry points correctly to a node of the height it should have, and no two to one, was seen on the way.
	if l := r.shape.list(); !exts.Check(l) || hit(l, r.shape.nodes()) {
		return nil, api.ErrForm
	}
	return r.shape, api.OK
}

// take lays down the entries of a row's next node, and then all that they lead to.
func (r *reader) take(l []api.Entry, row int) api.Errno {
	r.shape[row] = append(r.shape[row], l)
	if row == 0 {
		return api.OK
	}
	for _, x := range l {
		below, e := r.node(x, row == 1)
		if e != api.OK {
			return e
		}
		if e := r.take(below, row-1); e != api.OK {
			return e
		}
	}
	return api.OK
}

// node is the entries of the node to which an entry leads.
func (r *reader) node(x api.Entry, leaf bool) ([]api.Entry, api.Errno) {
	if r.seen[x.Physical] {
		return nil, api.ErrForm
	}
	r.seen[x.Physical] = true
	block, e := r.read(x.Physical)
	if e != api.OK {
		return nil, e
	}
	l, is, e := Decode(block)
	if e != api.OK || is != leaf || l[0].Logical != x.Logical {
		return nil, api.ErrForm
	}
	return l, api.OK
}

// list is the extent list of a tree.
func (s shape) list() []api.Ext {
	leaves := slices.Concat(s[0]...)
	l := make([]api.Ext, 0, len(leaves))
	for _, x := range leaves {
		l = append(l, api.Ext(x))
	}
	return l
}

// tree is a tree as its inode has it.
func (s shape) tree() Tree {
	depth := len(s) - 1
	return Tree{Depth: depth, Root: s[depth][0]}
}

// heads is the entries that lead to the nodes of a row, and none if there is no such row of nodes.
func (s shape) heads(row int) []api.Entry {
	if row+1 >= len(s) {
		return nil
	}
	return slices.Concat(s[row+1]...)
}

// nodes is the blocks of the nodes, rising.
func (s shape) nodes() []int {
	var l []int
	for row := range s {
		for _, x := range s.heads(row) {
			l = append(l, x.Physical)
		}
	}
	slices.Sort(l)
	return l
}

// blocks is the nodes as they are encoded, by rising blocks.
func (s shape) blocks() []api.Change {
	var l []api.Change
	for row := range s {
		for k, x := range s.heads(row) {
			data, _ := Encode(s[row][k], row == 0)
			l = append(l, api.Change{Block: x.Physical, Data: data})
		}
	}
	slices.SortFunc(l, func(a, b api.Change) int { return cmp.Compare(a.Block, b.Block) })
	return l
}

// find is what stands in a block, by a list of rising blocks.
func find(l []api.Change, block int) (api.Change, bool) {
	i, ok := slices.BinarySearchFunc(l, block, func(c api.Change, block int) int { return cmp.Compare(c.Block, block) })
	if !ok {
		return api.Change{}, false
	}
	return l[i], true
}

// with is a shape of its own, with what change makes of each entry.
func (s shape) with(change func(api.Entry) api.Entry) shape {
	out := make(shape, len(s))
	for row, nodes := range s {
		for _, l := range nodes {
			changed := make([]api.Entry, 0, len(l))
			for _, x := range l {
				changed = append(changed, change(x))
			}
			out[row] = append(out[row], changed)
		}
	}
	return out
}
