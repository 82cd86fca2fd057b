package table

import (
	"slices"

	"glissade/alloc"
	"glissade/api"
	"glissade/exts"
	"glissade/forks"
	"glissade/trans"
)

// owner is an inode that is not free, with all that it has.
type owner struct {
	inode api.Inode
	super api.Super // which may say that an extent of the inode is being moved
	list  []api.Ext
	nodes []int
}

// Exts is the extents of inode n, of which the one that is being moved stands as its two parts, and the blocks of its nodes, ascending.
func Exts(t *trans.Trans, n int) (l []api.Ext, nodes []int, e api.Errno) {
	o, e := find(t, n)
	return o.list, o.nodes, e
}

// Set lays extents in the place of what inode n has from one logical block up to another, but without that.
func Set(t *trans.Trans, n, from, to int, l []api.Ext) api.Errno {
	x, s, e := opened(t, n)
	if e != api.OK {
		return e
	}
	if concerns(s, n) {
		if e := Settle(t); e != api.OK {
			return e
		}
		// Its tree is another one now.
		if x, e = Get(t, n); e != api.OK {
			return e
		}
	}
	return replace(t, n, x, from, to, l)
}

// Drop frees inode n, with all blocks that it has.
func Drop(t *trans.Trans, n int) api.Errno {
	o, e := find(t, n)
	if e != api.OK {
		return e
	}
	if !exts.Check(o.list) { // only an extent that is being moved to block 0, which cannot be freed
		return api.ErrArg
	}
	for _, r := range exts.Blocks(o.list) {
		if e := alloc.Free(t, r, o.inode.Kind == api.InDir); e != api.OK {
			return e
		}
	}
	if e := freeNodes(t, o.nodes); e != api.OK {
		return e
	}
	if e := Put(t, n, api.Inode{}); e != api.OK || !concerns(o.super, n) {
		return e
	}
	return store(t, still(o.super))
}

// Lead lets the tree of inode n know that a node lies at another block now, and frees the block where it lay.
func Lead(t *trans.Trans, n, from, to int) api.Errno {
	x, e := occupied(t, n)
	if e != api.OK {
		return e
	}
	set, e := forks.Lead(tree(x), t.Read, from, to)
	if e != api.OK || from == to {
		return e
	}
	return lay(t, n, x, set)
}

// opened is inode n, which must not be free, and the superblock, which may say that an extent of it is being moved.
func opened(t *trans.Trans, n int) (api.Inode, api.Super, api.Errno) {
	x, e := occupied(t, n)
	if e != api.OK {
		return api.Inode{}, api.Super{}, e
	}
	s, e := Super(t)
	if e != api.OK {
		return api.Inode{}, api.Super{}, e
	}
	return x, s, api.OK
}

// find is inode n, which must not be free, with all that it has.
func find(t *trans.Trans, n int) (owner, api.Errno) {
	x, s, e := opened(t, n)
	if e != api.OK {
		return owner{}, e
	}
	l, nodes, e := forks.Walk(tree(x), t.Read)
	if e != api.OK {
		return owner{}, e
	}
	if concerns(s, n) {
		i := slices.Index(l, moving(s))
		if i < 0 {
			return owner{}, api.ErrForm
		}
		l = slices.Replace(l, i, i+1, parts(s)...)
	}
	return owner{x, s, l, nodes}, api.OK
}

// tree is the extent tree of an inode.
func tree(x api.Inode) forks.Tree {
	return forks.Tree{Depth: x.Depth, Root: x.Root}
}

// replace lays extents into the tree of inode n, which is x, whatever is being moved.
func replace(t *trans.Trans, n int, x api.Inode, from, to int, l []api.Ext) api.Errno {
	set, e := forks.Replace(tree(x), t.Read, from, to, l, fresh(t))
	if e != api.OK {
		return e
	}
	return lay(t, n, x, set)
}

// fresh allocates the blocks of new nodes.
func fresh(t *trans.Trans) forks.Fresh {
	return func() (int, api.Errno) {
		r, e := alloc.Run(t, t.Geometry().DataAt, 1)
		return r.Start, e
	}
}

// lay writes and frees what the tree of inode n, which is x, is changed to.
func lay(t *trans.Trans, n int, x api.Inode, set forks.Set) api.Errno {
	for _, c := range set.Changes {
		if e := t.Write(c.Block, c.Data); e != api.OK {
			return e
		}
	}
	if e := freeNodes(t, set.Freed); e != api.OK {
		return e
	}
	x.Depth, x.Root = set.Tree.Depth, set.Tree.Root
	return Put(t, n, x)
}

// freeNodes frees blocks that are nodes no longer.
func freeNodes(t *trans.Trans, l []int) api.Errno {
	for _, b := range l {
		if e := alloc.Free(t, api.Run{Start: b, Len: 1}, true); e != api.OK {
			return e
		}
	}
	return api.OK
}
