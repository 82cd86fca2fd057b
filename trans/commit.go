package trans

import (
	"slices"

	"glissade/api"
	"glissade/journal"
)

// Commit makes the transaction durable, and begins a new one.
func (t *Trans) Commit() api.Errno {
	if e := t.refused(); e != api.OK {
		return e
	}
	if t.acting {
		return api.ErrArg
	}
	if !t.some {
		return api.OK
	}
	x, data := t.ended.txn(), ascending(t.ended.data)
	if journal.Size(x) > t.g.Log-1 {
		return api.ErrLog
	}
	t.failed = t.save(x, data)
	if t.failed == api.OK {
		t.saved(x)
		t.some, t.ended = false, noChanges()
	}
	return t.failed
}

// save carries out all acts of the device that make a transaction durable.
func (t *Trans) save(x api.Txn, data []api.Change) api.Errno {
	if journal.Size(x) > t.log.Room() || t.undone(data) {
		if e := t.checkpoint(); e != api.OK {
			return e
		}
	}
	// What gives way for these buffers is written ahead of the log's commit, so that behind it nothing can fail any more. They are pinned, since they must not be written ahead of it.
	for _, c := range x.Changes {
		if e := t.cache.Put(c.Block, c.Data, true); e != api.OK {
			return e
		}
	}
	return t.log.Commit(x, data)
}

// saved brings the buffers, and what is known of the log, to what a commit has left.
func (t *Trans) saved(x api.Txn) {
	for _, c := range x.Changes {
		t.cache.Unpin(c.Block)
		t.logged[c.Block] = struct{}{}
	}
	for _, b := range x.Revokes {
		delete(t.logged, b)
	}
	// A buffer of what is no metadata any more would be written over what stands there, or be told instead of it.
	for b := range t.ended.freed {
		t.cache.Forget(b)
	}
	for b := range t.ended.data {
		t.cache.Forget(b)
	}
}

// undone tells whether a replay of the log would write over any of these data, as it would where metadata was not freed as such.
func (t *Trans) undone(data []api.Change) bool {
	return slices.ContainsFunc(data, func(c api.Change) bool {
		_, ok := t.logged[c.Block]
		return ok
	})
}

// checkpoint brings home what the log has, and empties the log.
func (t *Trans) checkpoint() api.Errno {
	if e := t.cache.Sync(); e != api.OK {
		return e
	}
	if e := t.log.Checkpoint(); e != api.OK {
		return e
	}
	clear(t.logged)
	return api.OK
}
