package forks

import (
	"slices"

	"glissade/api"
)

// unknown stands for the block of a node that has none yet.
const unknown = 0

// fewest is how many entries a node that is packed has at least. Where each node has so many, there are too few extents in any file for more levels than MaxDepth.
const fewest = api.NodeExts / 2

// span is the nodes of a row from first up to last that are packed anew, and the row's new entries from start up to stop that they are to hold; both without the second.
type span struct {
	first, last int
	start, stop int
}

// grow is the shape of a tree that has another extent list; new nodes have no blocks yet.
func grow(old shape, list []api.Ext) shape {
	if slices.Equal(list, old.list()) {
		return old
	}
	now := stack(old, list, unlike)
	if len(now)-1 > api.MaxDepth {
		// Nodes that were not packed here may have so few entries that there are too many of them.
		return stack(old, list, all)
	}
	return now
}

// stack packs the entries of a list into rows of nodes, one row on top of the other, till what is left goes into the root. What is packed anew in a row is what choose tells.
func stack(old shape, list []api.Ext, choose func(nodes [][]api.Entry, l []api.Entry) span) shape {
	l := make([]api.Entry, 0, len(list))
	for _, x := range list {
		l = append(l, api.Entry(x))
	}
	var now shape
	for row := 0; len(l) > api.RootExts; row++ {
		var nodes [][]api.Entry
		// The last row is the root, which is no node.
		if row < len(old)-1 {
			nodes = old[row]
		}
		var packed [][]api.Entry
		packed, l = pack(nodes, old.heads(row), l, choose(nodes, l))
		now = append(now, packed)
	}
	return append(now, [][]api.Entry{l})
}

// pack is a row's nodes with entries packed anew, and the entries that lead to them. The first of the nodes that give way hand on their blocks.
func pack(nodes [][]api.Entry, heads, l []api.Entry, s span) ([][]api.Entry, []api.Entry) {
	parts := split(l[s.start:s.stop], api.NodeExts)
	var made []api.Entry
	for k, part := range parts {
		x := api.Entry{Logical: part[0].Logical, Physical: unknown}
		if s.first+k < s.last {
			x.Physical = heads[s.first+k].Physical
		}
		made = append(made, x)
	}
	return slices.Concat(nodes[:s.first], parts, nodes[s.last:]), slices.Concat(heads[:s.first], made, heads[s.last:])
}

// all is all nodes and all entries of a row.
func all(nodes [][]api.Entry, l []api.Entry) span {
	return span{0, len(nodes), 0, len(l)}
}

// unlike is what lies between the nodes that hold the first entries of a row as they stand, and those that hold the last; and more nodes, where the entries between would be too few for one.
func unlike(nodes [][]api.Entry, l []api.Entry) span {
	s := all(nodes, l)
	for s.first < s.last && begins(l[s.start:], nodes[s.first]) {
		s.start += len(nodes[s.first])
		s.first++
	}
	for s.first < s.last && ends(l[s.start:s.stop], nodes[s.last-1]) {
		s.last--
		s.stop -= len(nodes[s.last])
	}
	for n := s.stop - s.start; n > 0 && n < fewest && s.last-s.first < len(nodes); n = s.stop - s.start {
		s = s.wider(nodes)
	}
	return s
}

// wider is a span with the node on its left, or, if there is none, with that on its right.
func (s span) wider(nodes [][]api.Entry) span {
	if s.first > 0 {
		s.first--
		s.start -= len(nodes[s.first])
		return s
	}
	s.stop += len(nodes[s.last])
	s.last++
	return s
}

// begins tells whether entries begin with those of a node.
func begins(l, node []api.Entry) bool {
	return len(l) >= len(node) && slices.Equal(l[:len(node)], node)
}

// ends tells whether entries end with those of a node.
func ends(l, node []api.Entry) bool {
	return len(l) >= len(node) && slices.Equal(l[len(l)-len(node):], node)
}

// split parts rows into as few lists as there can be of at most so many, the lengths as equal as can be. Each list ends where its capacity does, so that what is appended to it does not run into the next.
func split[T any](l []T, most int) [][]T {
	n := (len(l) + most - 1) / most
	parts := make([][]T, 0, n)
	for i := range n {
		from, to := i*len(l)/n, (i+1)*len(l)/n
		parts = append(parts, l[from:to:to])
	}
	return parts
}
