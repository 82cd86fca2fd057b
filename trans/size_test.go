package trans_test

import (
	"testing"

	"glissade/api"
)

// P16.4: blocks that were written by nobody, by an earlier commit, by an earlier act, and by the act in progress are freed, with both values of meta; only one that an earlier act of the transaction wrote as metadata is revoked though meta is false.
func TestFree(t *testing.T) {
	for _, meta := range []bool{false, true} {
		p := begun(t, small(t), inTurns)
		revoked := func(n, though int) int {
			if meta {
				return n
			}
			return though
		}
		p.are(api.OK, p.begin(), p.write(140, full("a")), p.put(141, full("b")), p.end(), p.commit())
		p.are(api.OK, p.begin(), p.write(142, full("c")), p.put(143, full("d")), p.end())
		p.are(api.OK, p.begin(), p.write(144, full("e")), p.put(145, full("f")))
		p.isSize(2, 0, 0)
		p.are(api.OK, p.free(150, meta), p.free(151, meta))
		p.isSize(2, 2, revoked(2, 0))
		p.are(api.OK, p.free(140, meta), p.free(141, meta))
		p.isSize(2, 4, revoked(4, 0))
		p.are(api.OK, p.free(142, meta))
		p.isSize(1, 5, revoked(5, 1))
		p.are(api.OK, p.free(143, meta))
		p.isSize(1, 6, revoked(6, 1))
		p.are(api.OK, p.free(144, meta), p.free(145, meta))
		p.isSize(0, 8, revoked(8, 1))
		p.holds()
		for _, b := range []int{140, 141, 142, 143, 144, 145, 150, 151} {
			p.are(api.ErrArg, p.free(b, meta), p.free(b, !meta), p.write(b, full("x")), p.put(b, full("x")))
		}
		p.isSize(0, 8, revoked(8, 1))
		p.drop()
		p.isSize(1, 0, 0)
		p.holds()
		p.are(api.OK, p.begin(), p.free(142, meta), p.free(140, meta), p.free(151, meta), p.end())
		p.isSize(0, 3, revoked(3, 1))
		p.holds()
		p.are(api.OK, p.begin())
		p.are(api.ErrArg, p.free(142, meta), p.free(142, !meta), p.write(140, full("x")), p.put(151, full("x")))
		p.are(api.OK, p.write(144, full("g")))
		p.isSize(1, 3, revoked(3, 1))
		p.drop()
		p.isSize(0, 3, revoked(3, 1))
		p.holds()
		p.are(api.OK, p.commit())
		p.isSize(0, 0, 0)
		p.holds()
		p.are(api.OK, p.begin(), p.put(142, full("x")), p.write(151, full("y")), p.put(140, full("z")))
		p.isSize(1, 0, 0)
		p.are(api.OK, p.end(), p.commit())
		p.holds()
	}
}

// P16.4: a block that two acts wrote, or one act twice, counts once; data does not count.
func TestSizeOfWrites(t *testing.T) {
	p := begun(t, small(t), inTurns)
	p.are(api.OK, p.begin(), p.write(140, full("a")), p.write(140, full("a")), p.write(140, full("b")))
	p.isSize(1, 0, 0)
	p.are(api.OK, p.put(141, full("a")), p.put(143, full("a")), p.write(142, full("a")))
	p.isSize(2, 0, 0)
	p.are(api.OK, p.end())
	p.isSize(2, 0, 0)
	p.are(api.OK, p.begin(), p.write(140, full("b")), p.put(141, full("c")))
	p.isSize(2, 0, 0)
	p.are(api.OK, p.write(142, full("c")), p.write(144, full("c")))
	p.isSize(3, 0, 0)
	p.drop()
	p.isSize(2, 0, 0)
	p.are(api.OK, p.begin(), p.write(140, full("b")), p.write(144, full("c")), p.end())
	p.isSize(3, 0, 0)
	p.are(api.OK, p.commit())
	p.isSize(0, 0, 0)
	p.are(api.OK, p.begin(), p.write(140, full("b")))
	p.isSize(1, 0, 0)
	p.drop()
	p.isSize(0, 0, 0)
	p.holds()
}

// P16.4: the act that writes a block and frees it, and acts that do so one behind the other: what was written counts no more.
func TestSizeOfFreed(t *testing.T) {
	p := begun(t, small(t), inTurns)
	p.are(api.OK, p.begin(), p.write(140, full("a")), p.free(140, false))
	p.isSize(0, 1, 0)
	p.are(api.OK, p.end())
	p.isSize(0, 1, 0)
	p.are(api.OK, p.begin(), p.write(142, full("a")), p.end())
	p.isSize(1, 1, 0)
	p.are(api.OK, p.begin(), p.write(142, full("b")), p.write(144, full("b")))
	p.isSize(2, 1, 0)
	p.are(api.OK, p.free(142, false))
	p.isSize(1, 2, 1)
	p.are(api.OK, p.free(144, false))
	p.isSize(0, 3, 1)
	p.are(api.OK, p.end())
	p.isSize(0, 3, 1)
	if !p.x.Waits(140) || !p.x.Waits(142) || !p.x.Waits(144) || p.x.Waits(146) {
		t.Error("waits")
	}
	p.are(api.OK, p.commit())
	p.isSize(0, 0, 0)
	p.holds()
}

// P16.2: a transaction may have 255 blocks of metadata that came in one act. An act with more is dropped, and nothing of it is left.
func TestEndOfOneAct(t *testing.T) {
	for _, n := range []int{254, 255, 256, 257, 300} {
		p := begun(t, great(t), metaOnly)
		p.are(api.OK, p.begin(), p.free(1200, true))
		p.writes(p.write, n, 600, n)
		p.isSize(n, 1, 1)
		want := api.OK
		if n > 255 {
			want = api.ErrPinned
		}
		p.are(want, p.end())
		p.are(api.ErrArg, p.end())
		if n > 255 {
			p.isSize(0, 0, 0)
			if p.x.Waits(1200) {
				t.Error(n, "what an act freed waits, though the act is dropped")
			}
		}
		p.holds()
		p.are(api.OK, p.begin(), p.write(600, full("a")), p.end(), p.commit())
		p.holds()
	}
}

// P16.2: the same limit holds for what came in many acts, of which a refused one leaves the transaction as it was.
func TestEndOfManyActs(t *testing.T) {
	p := begun(t, great(t), metaOnly)
	for i := range 50 {
		p.are(api.OK, p.begin())
		p.writes(p.write, i, 600+5*i, 5)
		p.are(api.OK, p.end())
	}
	p.isSize(250, 0, 0)
	refused := func(blocks ...int) {
		t.Helper()
		p.are(api.OK, p.begin(), p.free(601, false), p.write(600, full("z")))
		for _, b := range blocks {
			p.are(api.OK, p.write(b, full("z")))
		}
		p.are(api.ErrPinned, p.end())
		p.are(api.ErrArg, p.end(), p.write(600, full("z")))
		p.holds()
	}
	refused(1000, 1001, 1002, 1003, 1004, 1005, 1006)
	p.isSize(250, 0, 0)
	p.are(api.OK, p.begin())
	p.writes(p.write, 2, 1000, 5)
	p.isSize(255, 0, 0)
	p.are(api.OK, p.end())
	refused(1005, 1006)
	p.isSize(255, 0, 0)
	refused(1005, 1006, 1007)
	// The same blocks again, a new one that is freed again, and a new one for one that is freed.
	p.are(api.OK, p.begin())
	p.writes(p.write, 3, 600, 255-5)
	p.are(api.OK, p.end(), p.begin(), p.write(1005, full("y")), p.free(1005, true), p.end())
	p.isSize(255, 1, 1)
	p.are(api.OK, p.begin(), p.write(1006, full("y")))
	p.isSize(256, 1, 1)
	p.are(api.OK, p.free(610, false))
	p.isSize(255, 2, 2)
	p.are(api.OK, p.end())
	p.isSize(255, 2, 2)
	p.holds()
	p.are(api.OK, p.begin(), p.write(1007, full("y")))
	p.are(api.ErrPinned, p.end())
	p.holds()
	p.are(api.OK, p.commit())
	p.isSize(0, 0, 0)
	p.holds()
	p.are(api.OK, p.begin())
	p.writes(p.write, 4, 1100, 255)
	p.are(api.OK, p.end(), p.commit())
	p.holds()
}

// P16.2: data and freed blocks are no blocks of metadata.
func TestEndOfData(t *testing.T) {
	use := func(b int) int {
		if b < 1000 {
			return asMeta
		}
		return asData
	}
	p := begun(t, great(t), use)
	p.are(api.OK, p.begin())
	p.writes(p.write, 1, 600, 255)
	p.writes(p.put, 2, 1000, 300)
	for b := 1300; b < 1500; b++ {
		p.are(api.OK, p.free(b, b%2 == 0))
	}
	p.isSize(255, 200, 100)
	p.are(api.OK, p.end(), p.begin())
	p.writes(p.put, 3, 1100, 200)
	p.are(api.OK, p.end())
	p.holds()
	p.are(api.OK, p.commit())
	p.holds()
}
