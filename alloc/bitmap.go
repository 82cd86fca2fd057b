package alloc

import (
	"strings"

	"glissade/api"
	"glissade/bits"
	"glissade/trans"
)

// bitmap is the bitmap as a transaction has it.
type bitmap struct {
	t    *trans.Trans
	g    api.Geometry
	bits string
}

// read is the bitmap, or the zero value beside an error. All of its blocks are read, since an error of any of them comes ahead of all others.
func read(t *trans.Trans) (bitmap, api.Errno) {
	g := t.Geometry()
	if g.MapLen == 0 { // every layout has a bitmap, and only a transaction that is missing has no layout
		return bitmap{}, api.ErrNil
	}
	var all strings.Builder
	for i := range g.MapLen {
		data, e := t.Read(g.MapAt + i)
		if e != api.OK {
			return bitmap{}, e
		}
		all.WriteString(data)
	}
	return bitmap{t: t, g: g, bits: all.String()}, api.OK
}

// allocatable tells whether a run has a block, and none that is not allocatable. It takes no sum, which could wrap round.
func (m bitmap) allocatable(r api.Run) bool {
	return r.Len >= 1 && r.Start >= m.g.DataAt && r.Len <= m.g.Blocks-r.Start
}

// open tells whether an allocatable block is open.
func (m bitmap) open(b int) bool {
	return !bits.Has(m.bits, b) && !m.t.Waits(b)
}

// used tells whether all blocks of a run are used.
func (m bitmap) used(r api.Run) bool {
	for i := range r.Len {
		if !bits.Has(m.bits, r.Start+i) {
			return false
		}
	}
	return true
}

// openRun is up to most open blocks, from the first one that is not before goal on, or else from the first of all.
func (m bitmap) openRun(goal, most int) (api.Run, bool) {
	start, ok := m.firstOpen(goal)
	if !ok {
		start, ok = m.firstOpen(m.g.DataAt)
	}
	if !ok {
		return api.Run{}, false
	}
	n := 1
	for n < min(most, m.g.Blocks-start) && m.open(start+n) {
		n++
	}
	return api.Run{Start: start, Len: n}, true
}

// firstOpen is the first open block that is not before from.
func (m bitmap) firstOpen(from int) (int, bool) {
	for b := max(from, m.g.DataAt); b < m.g.Blocks; b++ {
		if m.open(b) {
			return b, true
		}
	}
	return 0, false
}

// set sets the bits of a run, and writes the blocks of the bitmap that this changes.
func (m bitmap) set(r api.Run, on bool) api.Errno {
	s := m.bits
	for i := range r.Len {
		s = bits.With(s, r.Start+i, on)
	}
	for i := range m.g.MapLen {
		data := part(s, i)
		if data == part(m.bits, i) {
			continue
		}
		if e := m.t.Write(m.g.MapAt+i, data); e != api.OK {
			return e
		}
	}
	return api.OK
}

// wait lets the blocks of a run wait. One that waits already, though its bit was 1, goes on waiting.
func (m bitmap) wait(r api.Run, meta bool) api.Errno {
	for b := r.Start; b < r.Start+r.Len; b++ {
		if m.t.Waits(b) {
			continue
		}
		if e := m.t.Free(b, meta); e != api.OK {
			return e
		}
	}
	return api.OK
}

// part is the bytes of the bitmap's block i.
func part(s string, i int) string {
	return s[i*api.BlockSize : (i+1)*api.BlockSize]
}
