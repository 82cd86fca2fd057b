package forks

import (
	"glissade/api"
	"glissade/inodes"
)

// mark is the first byte of a node's block.
const mark = 'F'

// Where the parts of a node begin among its bytes; its entries follow one behind the other.
const (
	markAt    = 0
	leafAt    = 1
	countAt   = 2
	entriesAt = 3
)

// numberSize is the bytes that each of an entry's numbers takes.
const numberSize = 4

// entrySize is the bytes that an entry takes.
const entrySize = 3 * numberSize

// Encode is the block of a node.
func Encode(l []api.Entry, leaf bool) (string, api.Errno) {
	if !valid(l, leaf) {
		return "", api.ErrArg
	}
	block := [api.BlockSize]byte{markAt: mark, countAt: byte(len(l))}
	if leaf {
		block[leafAt] = 1
	}
	for i, x := range l {
		for j, n := range []int{x.Logical, x.Physical, x.Len} {
			for k := range numberSize {
				block[numberAt(i, j)+k] = byte(n >> (8 * k))
			}
		}
	}
	return string(block[:]), api.OK
}

// Decode is the entries of a node's block, and whether it is a leaf.
func Decode(block string) (l []api.Entry, leaf bool, e api.Errno) {
	if len(block) != api.BlockSize || block[countAt] > api.NodeExts {
		return nil, false, api.ErrForm
	}
	for i := range int(block[countAt]) {
		l = append(l, api.Entry{
			Logical:  number(block, numberAt(i, 0)),
			Physical: number(block, numberAt(i, 1)),
			Len:      number(block, numberAt(i, 2)),
		})
	}
	leaf = block[leafAt] == 1
	// A node has one block only, so that whatever is wrong in this one shows when the two are compared.
	if again, e := Encode(l, leaf); e != api.OK || again != block {
		return nil, false, api.ErrForm
	}
	return l, leaf, api.OK
}

// valid tells whether a list is that of a node of that kind.
func valid(l []api.Entry, leaf bool) bool {
	if len(l) < 1 || len(l) > api.NodeExts {
		return false
	}
	depth := 1
	if leaf {
		depth = 0
	}
	// An inode's root holds fewer entries than a node, but two are enough to tell their order.
	for i := range l {
		if !rooted(Tree{Depth: depth, Root: l[max(i-1, 0) : i+1]}) {
			return false
		}
	}
	return true
}

// rooted tells whether a depth and a root are those of a tree.
func rooted(t Tree) bool {
	return inodes.Check(api.Inode{Kind: api.InFile, Depth: t.Depth, Root: t.Root})
}

// number is the number that begins at a place of a block.
func number(block string, at int) int {
	n := 0
	for k := range numberSize {
		n |= int(block[at+k]) << (8 * k)
	}
	return n
}

// numberAt is where number j of entry i of a node begins.
func numberAt(i, j int) int {
	return entriesAt + i*entrySize + j*numberSize
}
