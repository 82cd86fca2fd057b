package files

import (
	"slices"
	"strings"

	"glissade/alloc"
	"glissade/api"
	"glissade/exts"
	"glissade/table"
	"glissade/trans"
)

// most is how many logical blocks a file can have.
const most = api.MaxSize / api.BlockSize

// file is a file as a call finds it.
type file struct {
	t    *trans.Trans
	n    int
	size int
	list []api.Ext
}

// part is the bytes of a logical block from one up to another, but without that.
type part struct {
	block    int
	from, to int
}

// open is inode n, which must be a file.
func open(t *trans.Trans, n int) (file, api.Errno) {
	x, e := table.Get(t, n)
	if e != api.OK {
		return file{}, e
	}
	if x.Kind != api.InFile {
		return file{}, api.ErrNone
	}
	l, _, e := table.Exts(t, n)
	if e != api.OK {
		return file{}, e
	}
	return file{t, n, x.Size, l}, api.OK
}

// bytes is so many bytes from an offset on; those of holes are zero.
func (f file) bytes(from, many int) (string, api.Errno) {
	var all strings.Builder
	for _, p := range parts(from, many) {
		block := zeros(api.BlockSize)
		if b, _, ok := exts.Find(f.list, p.block); ok {
			data, e := f.t.Get(b)
			if e != api.OK {
				return "", e
			}
			block = data
		}
		all.WriteString(block[p.from:p.to])
	}
	return all.String(), api.OK
}

// lay puts bytes at an offset into blocks. Where there is a hole, they are let go.
func (f file) lay(from int, data string) api.Errno {
	for _, p := range parts(from, len(data)) {
		piece := data[:p.to-p.from]
		data = data[len(piece):]
		b, _, ok := exts.Find(f.list, p.block)
		if !ok {
			continue
		}
		block, e := f.t.Get(b)
		if e != api.OK {
			return e
		}
		if e := f.t.Put(b, block[:p.from]+piece+block[p.to:]); e != api.OK {
			return e
		}
	}
	return api.OK
}

// fill allocates blocks for the holes from one logical block up to another, but without that.
func (f *file) fill(from, to int) api.Errno {
	l := f.list
	for at := from; at < to; {
		if _, left, ok := exts.Find(l, at); ok {
			at += left
			continue
		}
		x, e := f.extent(l, at, to)
		if e != api.OK {
			return e
		}
		if l, _, e = exts.Put(l, x); e != api.OK {
			return e
		}
		at = x.Logical + x.Len
	}
	// A file without holes there stays as it is, and so does what is being moved of it.
	if slices.Equal(l, f.list) {
		return api.OK
	}
	f.list = l
	there := slices.DeleteFunc(slices.Clone(l), func(x api.Ext) bool { return x.Logical >= to || x.Logical+x.Len <= from })
	return table.Set(f.t, f.n, there[0].Logical, exts.End(there), there)
}

// extent is new blocks, which are zero, for a hole that begins at a logical block, up to another one at most; together with the extent that they continue, if there is one.
func (f file) extent(l []api.Ext, at, to int) (api.Ext, api.Errno) {
	goal := f.t.Geometry().DataAt
	before := api.Ext{}
	for _, x := range l {
		if x.Logical > at {
			to = min(to, x.Logical)
			break
		}
		before, goal = x, x.Physical+x.Len
	}
	r, e := alloc.Run(f.t, goal, to-at)
	if e != api.OK {
		return api.Ext{}, e
	}
	for i := range r.Len {
		if e := f.t.Put(r.Start+i, zeros(api.BlockSize)); e != api.OK {
			return api.Ext{}, e
		}
	}
	if before.Logical+before.Len == at && goal == r.Start && before.Len > 0 {
		before.Len += r.Len
		return before, api.OK
	}
	return api.Ext{Logical: at, Physical: r.Start, Len: r.Len}, api.OK
}

// grow makes a file end at an offset behind its end. What stands behind its end in its last block must not come to light.
func (f file) grow(end int) api.Errno {
	if e := f.lay(f.size, zeros(blocks(f.size)*api.BlockSize-f.size)); e != api.OK {
		return e
	}
	return f.store(end)
}

// cut makes a file end at an offset that is not behind its end, and frees the blocks behind that.
func (f file) cut(end int) api.Errno {
	l, freed, e := exts.Cut(f.list, blocks(end))
	if e != api.OK {
		return e
	}
	// What is being moved goes on unless the tree must change.
	if !slices.Equal(l, f.list) {
		if e := table.Set(f.t, f.n, blocks(end), most, nil); e != api.OK {
			return e
		}
	}
	for _, r := range freed {
		if e := alloc.Free(f.t, r, false); e != api.OK {
			return e
		}
	}
	return f.store(end)
}

// store lets a file's inode have another Size. Its tree may be another one than the call has found.
func (f file) store(size int) api.Errno {
	x, e := table.Get(f.t, f.n)
	if e != api.OK {
		return e
	}
	x.Size = size
	return table.Put(f.t, f.n, x)
}

// parts is so many bytes from an offset on, block by block.
func parts(from, many int) []part {
	var l []part
	for many > 0 {
		p := part{block: from / api.BlockSize, from: from % api.BlockSize}
		p.to = min(p.from+many, api.BlockSize)
		l = append(l, p)
		from += p.to - p.from
		many -= p.to - p.from
	}
	return l
}

// blocks is how many blocks so many bytes take.
func blocks(bytes int) int {
	return (bytes + api.BlockSize - 1) / api.BlockSize
}

// zeros is so many bytes that are zero.
func zeros(n int) string {
	return strings.Repeat("\x00", n)
}
