package journal

import (
	"glissade/api"
	"glissade/records"
	"glissade/sums"
)

// reader reads the transaction that may be present at a place, slot by slot.
type reader struct {
	ring
	from place
	read int    // how many slots were read
	sum  uint32 // the checksum of what was read
}

// transaction is the one that is present, and whether there is one.
func (r *reader) transaction() (api.Txn, bool) {
	var t api.Txn
	for {
		preceding := r.sum
		rec, ok := r.record()
		if !ok {
			return api.Txn{}, false
		}
		switch rec.Kind {
		case api.RecRevoke:
			t.Revokes = append(t.Revokes, rec.Homes...)
		case api.RecDesc:
			l, ok := r.changes(rec)
			if !ok {
				return api.Txn{}, false
			}
			t.Changes = append(t.Changes, l...)
		case api.RecCommit:
			if rec.Sum != preceding {
				return api.Txn{}, false
			}
			return t, true
		default:
			return api.Txn{}, false
		}
	}
}

// record is that of the next slot, and whether it can be one of the transaction's.
func (r *reader) record() (api.Record, bool) {
	block, ok := r.next()
	if !ok {
		return api.Record{}, false
	}
	rec, e := records.Decode(block)
	if e != api.OK || rec.Seq != r.from.seq || !r.rising(rec.Homes) {
		return api.Record{}, false
	}
	return rec, true
}

// changes is those that a descriptor names, and whether their data blocks are all there.
func (r *reader) changes(desc api.Record) ([]api.Change, bool) {
	var l []api.Change
	for i, home := range desc.Homes {
		data, ok := r.next()
		if !ok {
			return nil, false
		}
		if desc.Masked[i] {
			data = records.Unmask(data)
		}
		l = append(l, api.Change{Block: home, Data: data})
	}
	return l, true
}

// next is the block of the next slot, and whether there is one that remains.
func (r *reader) next() (string, bool) {
	if r.read == r.from.left {
		return "", false
	}
	block := r.content(r.block(r.from.slot + r.read))
	r.read++
	r.sum = sums.More(r.sum, block)
	return block, true
}
