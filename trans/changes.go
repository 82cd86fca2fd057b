package trans

import (
	"cmp"
	"maps"
	"slices"
	"strings"

	"glissade/api"
)

// changes is what one act, or several, have done to blocks. No block that is freed is written, too.
type changes struct {
	meta  map[int]api.Change // the metadata that was written, by its blocks
	data  map[int]api.Change // the data
	freed map[int]freedAs    // the blocks that wait
}

// freedAs is how a block was let go.
type freedAs struct {
	revoked bool // whether a replay must not write to it any more
}

func noChanges() changes {
	return changes{meta: map[int]api.Change{}, data: map[int]api.Change{}, freed: map[int]freedAs{}}
}

// change is a block's new bytes. A map would keep the whole of a longer text that data may be a part of.
func change(block int, data string) api.Change {
	return api.Change{Block: block, Data: strings.Clone(data)}
}

// free lets a block wait, and forgets what was written to it.
func (c changes) free(block int, revoked bool) {
	delete(c.meta, block)
	delete(c.data, block)
	c.freed[block] = freedAs{revoked: revoked}
}

func (c changes) waits(block int) bool {
	_, ok := c.freed[block]
	return ok
}

// add does what an act has done behind all that was done before.
func (c changes) add(act changes) {
	maps.Copy(c.meta, act.meta)
	maps.Copy(c.data, act.data)
	for b, as := range act.freed {
		c.free(b, as.revoked)
	}
}

// revokes lists the revoked blocks, ascending.
func (c changes) revokes() []int {
	var l []int
	for b, as := range c.freed {
		if as.revoked {
			l = append(l, b)
		}
	}
	slices.Sort(l)
	return l
}

// txn is what the journal is given of it.
func (c changes) txn() api.Txn {
	return api.Txn{Changes: ascending(c.meta), Revokes: c.revokes()}
}

// ascending lists what was written, by ascending blocks.
func ascending(written map[int]api.Change) []api.Change {
	return slices.SortedFunc(maps.Values(written), func(a, b api.Change) int {
		return cmp.Compare(a.Block, b.Block)
	})
}
