package table

import (
	"slices"

	"glissade/api"
	"glissade/forks"
	"glissade/supers"
	"glissade/trans"
)

// superAt is the block of the superblock.
const superAt = 0

// Super is the superblock.
func Super(t *trans.Trans) (api.Super, api.Errno) {
	block, e := t.Read(superAt)
	if e != api.OK {
		return api.Super{}, e
	}
	return supers.Decode(block)
}

// Aim sets the defragmenter's cursor.
func Aim(t *trans.Trans, cursor int) api.Errno {
	s, e := Super(t)
	if e != api.OK {
		return e
	}
	s.Cursor = cursor
	return store(t, s)
}

// Slide records that the first blocks of an extent of inode n, or of what is left of the one that is being moved, lie elsewhere now.
func Slide(t *trans.Trans, n, logical int, m api.Move) api.Errno {
	o, e := find(t, n)
	if e != api.OK {
		return e
	}
	s := o.super
	i := slices.IndexFunc(o.list, func(x api.Ext) bool {
		return x.Logical == logical && x.Physical == m.From && x.Len >= m.Len
	})
	if i < 0 || m.Len < 1 || inProgress(s) && !continues(s, n, o.list[i], m) {
		return api.ErrArg
	}
	if !inProgress(s) {
		s.Inode, s.Logical, s.From, s.To, s.Len = n, logical, m.From, m.To, o.list[i].Len
	}
	s.Moved += m.Len
	if s.Moved < s.Len {
		return store(t, s)
	}
	set, e := forks.Move(tree(o.inode), t.Read, s.Logical, s.Len, s.To)
	if e != api.OK {
		return e
	}
	// A move that is over at once was not recorded.
	if e := lay(t, n, o.inode, set); e != api.OK || !inProgress(o.super) {
		return e
	}
	return store(t, still(s))
}

// Settle parts the extent that is being moved, where its move has come to, and ends the move.
func Settle(t *trans.Trans) api.Errno {
	s, e := Super(t)
	if e != api.OK || !inProgress(s) {
		return e
	}
	// The superblock may name what the inode does not have.
	o, e := find(t, s.Inode)
	if e != api.OK {
		return e
	}
	if e := replace(t, s.Inode, o.inode, s.Logical, s.Logical+s.Len, parts(s)); e != api.OK {
		return e
	}
	return store(t, still(s))
}

// store writes the superblock.
func store(t *trans.Trans, s api.Super) api.Errno {
	block, e := supers.Encode(s)
	if e != api.OK {
		return e
	}
	return t.Write(superAt, block)
}

// still is a superblock that says of no move.
func still(s api.Super) api.Super {
	return api.Super{Blocks: s.Blocks, Log: s.Log, Inodes: s.Inodes, Cursor: s.Cursor}
}

// inProgress tells whether an extent is being moved.
func inProgress(s api.Super) bool {
	return s.Len != 0
}

// concerns tells whether an extent of inode n is being moved.
func concerns(s api.Super, n int) bool {
	return inProgress(s) && s.Inode == n
}

// moving is the extent that is being moved as the tree still has it.
func moving(s api.Super) api.Ext {
	return api.Ext{Logical: s.Logical, Physical: s.From, Len: s.Len}
}

// parts is what of the extent that is being moved was moved, and what was not.
func parts(s api.Super) []api.Ext {
	return []api.Ext{
		{Logical: s.Logical, Physical: s.To, Len: s.Moved},
		{Logical: s.Logical + s.Moved, Physical: s.From + s.Moved, Len: s.Len - s.Moved},
	}
}

// continues tells whether a move of the first blocks of an extent of inode n goes on with the one in progress.
func continues(s api.Super, n int, x api.Ext, m api.Move) bool {
	return concerns(s, n) && x == parts(s)[1] && m.To == s.To+s.Moved
}
