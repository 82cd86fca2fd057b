package journal

import (
	"slices"

	"glissade/api"
	"glissade/device"
	"glissade/geometry"
	"glissade/records"
)

// ring is the log's places on a device: its header, and slots of which the first one follows the last.
type ring struct {
	disk *device.Device
	g    api.Geometry
}

// place is where in the ring a transaction begins.
type place struct {
	slot int
	left int    // how many slots remain for it
	seq  uint64 // its sequence number
}

// ringOf is the ring of a device that has blocks and this layout.
func ringOf(d *device.Device, g api.Geometry) (ring, api.Errno) {
	if d.Blocks() == 0 {
		return ring{}, api.ErrNil
	}
	if of, e := geometry.Of(g.Blocks, g.Log, g.Inodes); e != api.OK || of != g || g.Blocks != d.Blocks() {
		return ring{}, api.ErrArg
	}
	return ring{disk: d, g: g}, api.OK
}

// slots is how many there are.
func (r ring) slots() int {
	return r.g.Log - 1
}

// block is the block of a slot; of numbers behind the last slot's, that of the slots from the first one on.
func (r ring) block(slot int) int {
	return r.g.LogAt + 1 + slot%r.slots()
}

// behind is the place behind a transaction of so many blocks.
func (r ring) behind(p place, size int) place {
	return place{slot: (p.slot + size) % r.slots(), left: p.left - size, seq: p.seq + 1}
}

// home tells whether b is a block of the device outside the log.
func (r ring) home(b int) bool {
	inLog := r.g.LogAt <= b && b < r.g.LogAt+r.g.Log
	return 0 <= b && b < r.g.Blocks && !inLog
}

// rising tells whether blocks are homes, each greater than the one ahead of it.
func (r ring) rising(l []int) bool {
	for i, b := range l {
		if !r.home(b) || i > 0 && b <= l[i-1] {
			return false
		}
	}
	return true
}

func (r ring) validChanges(l []api.Change) bool {
	for _, c := range l {
		if len(c.Data) != api.BlockSize {
			return false
		}
	}
	return r.rising(changed(l))
}

func (r ring) validTxn(t api.Txn) bool {
	if !r.validChanges(t.Changes) || !r.rising(t.Revokes) {
		return false
	}
	for _, b := range changed(t.Changes) {
		if _, both := slices.BinarySearch(t.Revokes, b); both {
			return false
		}
	}
	return true
}

// changed lists the blocks of changes.
func changed(l []api.Change) []int {
	var bs []int
	for _, c := range l {
		bs = append(bs, c.Block)
	}
	return bs
}

// inSlots is contents as changes of the slots from one on.
func (r ring) inSlots(slot int, contents []string) []api.Change {
	var l []api.Change
	for i, data := range contents {
		l = append(l, api.Change{Block: r.block(slot + i), Data: data})
	}
	return l
}

// content is what the device has in a block of the log, all of which exist.
func (r ring) content(block int) string {
	s, _ := r.disk.Read(block)
	return s
}

// write is the acts that write changes, in their order.
func (r ring) write(l []api.Change) act {
	var acts []act
	for _, c := range l {
		acts = append(acts, func() api.Errno { return r.disk.Write(c.Block, c.Data) })
	}
	return func() api.Errno { return do(acts...) }
}

// begin is the act that writes a header by which the log begins at a place.
func (r ring) begin(p place) act {
	head := encoded(api.Record{Kind: api.RecHead, Seq: p.seq, At: p.slot})
	return r.write([]api.Change{{Block: r.g.LogAt, Data: head}})
}

// start is where the header says that the log begins.
func (r ring) start() (place, api.Errno) {
	head, e := records.Decode(r.content(r.g.LogAt))
	if e != api.OK || head.Kind != api.RecHead || head.At >= r.slots() {
		return place{}, api.ErrForm
	}
	return place{slot: head.At, left: r.slots(), seq: head.Seq}, api.OK
}

// transactions is those of the log, and the place behind them.
func (r ring) transactions() ([]api.Txn, place, api.Errno) {
	at, e := r.start()
	if e != api.OK {
		return nil, place{}, e
	}
	var l []api.Txn
	for {
		from := reader{ring: r, from: at}
		t, ok := from.transaction()
		if !ok {
			return l, at, api.OK
		}
		l = append(l, t)
		at = r.behind(at, from.read)
	}
}
