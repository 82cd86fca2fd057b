package trans_test

import (
	"math/rand"
	"testing"

	"glissade/api"
	"glissade/journal"
)

// P16.5: no commit in an act; where there are no acts, nothing is done, not even with a device that is dead.
func TestCommitNothing(t *testing.T) {
	p := begun(t, small(t), inTurns)
	acts := p.d.Acts()
	p.are(api.OK, p.begin())
	p.are(api.ErrArg, p.commit())
	p.are(api.OK, p.write(140, full("a")))
	p.are(api.ErrArg, p.commit(), p.commit())
	p.drop()
	p.d.Arm(0)
	p.are(api.OK, p.commit(), p.commit())
	if p.d.Acts() != acts {
		t.Error(p.d.Acts(), acts)
	}
	p.d.Arm(-1)
	p.are(api.OK, p.begin(), p.write(140, full("a")), p.free(142, true), p.end(), p.commit())
	acts = p.d.Acts()
	p.are(api.OK, p.commit(), p.begin())
	p.drop()
	p.are(api.OK, p.commit())
	if p.d.Acts() != acts {
		t.Error(p.d.Acts(), acts)
	}
	p.holds()
}

// P16.5: acts that wrote nothing, of which some were ended.
func TestCommitOfEmptyActs(t *testing.T) {
	from := rand.New(rand.NewSource(165))
	p := begun(t, small(t), inTurns)
	p.are(api.OK, p.begin(), p.end(), p.begin(), p.end())
	p.are(api.OK, p.commit())
	p.isSize(0, 0, 0)
	p.holds()
	p.isSure(from)
	p.are(api.OK, p.begin(), p.write(140, full("a")))
	p.drop()
	p.are(api.OK, p.begin(), p.end(), p.commit(), p.commit())
	p.holds()
	p.isSure(from)
}

// P16.5: metadata alone, data alone, freed blocks alone, and all of these, are durable.
func TestCommitIsDurable(t *testing.T) {
	from := rand.New(rand.NewSource(1651))
	for k := 1; k < 16; k++ {
		p := begun(t, small(t), inTurns)
		p.are(api.OK, p.begin(), p.write(148, full("a")), p.put(149, full("b")), p.end(), p.commit())
		p.are(api.OK, p.begin())
		if k&1 != 0 {
			p.are(api.OK, p.write(150, full("c")), p.write(140, full("c")), p.write(130, full("c")))
		}
		if k&2 != 0 {
			p.are(api.OK, p.put(151, full("d")), p.put(141, full("d")), p.put(131, full("d")))
		}
		if k&4 != 0 {
			p.are(api.OK, p.free(148, true), p.free(138, true))
		}
		if k&8 != 0 {
			p.are(api.OK, p.free(149, false), p.free(139, false))
		}
		p.are(api.OK, p.end())
		p.isSure(from)
		p.are(api.OK, p.commit())
		p.isSize(0, 0, 0)
		for _, b := range []int{138, 139, 148, 149} {
			if p.x.Waits(b) {
				t.Error(k, b, "waits")
			}
		}
		p.holds()
		p.isSure(from)
	}
}

// edge is a Trans with a transaction of so many blocks of metadata and revoked ones.
func edge(t *testing.T, g api.Geometry, changed, revoked int) *pair {
	t.Helper()
	p := begun(t, g, metaOnly)
	p.are(api.OK, p.begin(), p.write(g.Log+1, full("a")), p.end(), p.commit())
	p.are(api.OK, p.begin())
	p.writes(p.write, 1, g.Log+1, changed)
	for b := range revoked {
		p.are(api.OK, p.free(g.Blocks-1-b, true))
	}
	p.are(api.OK, p.end())
	return p
}

// P16.5: the greatest transaction fills an empty log. One that is greater by a block is kept, and is committed when it has become smaller.
func TestCommitLog(t *testing.T) {
	from := rand.New(rand.NewSource(1652))
	for _, x := range []struct {
		log, changed, revoked, size int
	}{
		{128, 119, 0, 125}, {128, 120, 0, 126}, {128, 120, 1, 127}, {128, 120, 28, 127}, {128, 120, 29, 128},
		{128, 121, 0, 128}, {128, 121, 1, 129}, {128, 119, 29, 127}, {128, 119, 57, 128},
		{129, 121, 0, 128}, {129, 121, 1, 129}, {129, 122, 0, 129}, {129, 122, 100, 133},
	} {
		g := layout(t, 600, x.log, 8)
		p := edge(t, g, x.changed, x.revoked)
		if n := journal.Size(api.Txn{Changes: make([]api.Change, x.changed), Revokes: make([]int, x.revoked)}); n != x.size || p.w.logged() != n {
			t.Fatal(x, n)
		}
		if x.size < x.log {
			p.are(api.OK, p.commit())
			p.holds()
			p.isSure(from)
			continue
		}
		acts := p.d.Acts()
		p.are(api.ErrLog, p.commit(), p.commit())
		if p.d.Acts() != acts {
			t.Error(x, "acts")
		}
		p.isSize(x.changed, x.revoked, x.revoked)
		p.holds()
		p.isSure(from)
		p.are(api.OK, p.begin(), p.write(g.Log+1, full("b")))
		p.are(api.ErrArg, p.commit())
		p.are(api.OK, p.end())
		p.are(api.ErrLog, p.commit())
		p.are(api.OK, p.begin())
		for b := range 12 {
			p.are(api.OK, p.free(g.Log+11+b, false))
		}
		p.are(api.OK, p.end(), p.commit())
		p.holds()
		p.isSure(from)
	}
}

// P16.5: data takes no blocks of the log.
func TestCommitOfMuchData(t *testing.T) {
	from := rand.New(rand.NewSource(1653))
	p := begun(t, layout(t, 4096, 128, 8), func(b int) int {
		if b < 300 {
			return asMeta
		}
		return asData
	})
	for n := range 3 {
		p.are(api.OK, p.begin())
		p.writes(p.write, n, 140+n, 120)
		p.are(api.OK, p.end(), p.begin())
		p.writes(p.put, n, 300+n, 3700)
		p.are(api.OK, p.end(), p.commit())
		p.holds()
		p.survives(p.d.Kept(), false)
		p.survives(leaving(from, p.d), false)
	}
}

// P16.3, P16.5: so many commits that the log goes round several times, with reads of all blocks and crashes between them.
func TestManyCommits(t *testing.T) {
	from := rand.New(rand.NewSource(1654))
	for _, g := range []api.Geometry{small(t), layout(t, 300, 131, 10)} {
		p := begun(t, g, inTurns)
		for n := range 120 {
			p.are(api.OK, p.begin())
			for range from.Intn(40) {
				b := g.Log + 1 + from.Intn(g.Blocks-g.Log-1)
				if inTurns(b) == asMeta {
					p.are(api.OK, p.write(b, some(n*300+b)))
				} else {
					p.are(api.OK, p.put(b, some(n*300+b)))
				}
			}
			p.are(api.OK, p.end(), p.commit())
			if n%3 == 0 {
				p.holds()
			}
			p.isSure(from)
		}
	}
}

// P16.3, P16.5: more metadata than the cache has buffers, read and written over and over.
func TestMoreThanBuffers(t *testing.T) {
	from := rand.New(rand.NewSource(1655))
	p := begun(t, great(t), metaOnly)
	for n := range 12 {
		p.are(api.OK, p.begin())
		p.writes(p.write, n, 520+n*60, 100+n*14)
		p.are(api.OK, p.end())
		if n%2 == 0 {
			p.holds()
		}
		p.are(api.OK, p.commit())
		if n%3 == 0 {
			p.holds()
		}
		p.survives(p.d.Kept(), false)
		p.survives(leaving(from, p.d), false)
	}
	p.holds()
}

// P16.5: data and metadata that look like records of the log.
func TestDataLikeRecords(t *testing.T) {
	from := rand.New(rand.NewSource(1656))
	p := begun(t, small(t), inTurns)
	p.are(api.OK, p.begin(), p.write(140, full("a")), p.write(142, full("GLJw")[:128]), p.put(141, full("GLJw")[:128]), p.end(), p.commit())
	// The blocks that the log has now, as metadata and as data.
	for n := range 3 {
		p.are(api.OK, p.begin())
		for k := range 9 {
			head, e := p.d.Read(1 + k)
			if e != api.OK {
				t.Fatal(e)
			}
			p.are(api.OK, p.write(150+2*k, head), p.put(151+2*k, head))
		}
		p.are(api.OK, p.end())
		p.isSure(from)
		p.are(api.OK, p.commit())
		p.holds()
		p.isSure(from)
		for k := range 6 {
			p.are(api.OK, p.begin(), p.write(190+2*k, "GLJw"+some(n*10 + k)[4:]), p.end(), p.commit())
			p.isSure(from)
		}
	}
	p.holds()
}

// lives is one block that goes through metadata and data, freed between, while others push the log round.
func lives(t *testing.T, from *rand.Rand, others int, metas ...bool) {
	t.Helper()
	const b = 180
	p := begun(t, small(t), inTurns)
	was := true
	p.are(api.OK, p.begin(), p.write(b, full("a")), p.end(), p.commit())
	for n, meta := range metas {
		p.are(api.OK, p.begin(), p.free(b, was), p.end(), p.commit())
		p.isSure(from)
		for k := range others {
			p.are(api.OK, p.begin())
			for i := range 20 {
				p.are(api.OK, p.write(190+2*i, some(n*100+k*3+i)))
			}
			p.are(api.OK, p.end(), p.commit())
		}
		p.are(api.OK, p.begin())
		if meta {
			p.are(api.OK, p.write(b, some(n)))
		} else {
			p.are(api.OK, p.put(b, some(n)))
		}
		was = meta
		p.are(api.OK, p.end())
		p.isSure(from)
		p.are(api.OK, p.commit())
		p.sameBytes(b)
		p.isSure(from)
		for k := range others {
			p.are(api.OK, p.begin(), p.write(190, some(n+k)), p.put(191, some(n+k)), p.end(), p.commit())
			p.sameBytes(b)
			p.isSure(from)
		}
		p.holds()
	}
}

// P16.7: what a block was as metadata never comes back over what it is as data, nor the other way round, whether the log still has it or not.
func TestFromMetaToData(t *testing.T) {
	from := rand.New(rand.NewSource(167))
	for _, others := range []int{0, 1, 4, 6, 13} {
		lives(t, from, others, false, true, false, false, true, true, false)
		lives(t, from, others, true, false)
	}
}

// P16.7: the same where an act of the transaction wrote the block that it frees, as metadata, and where a Replay and a new Trans come between.
func TestFromMetaToDataAnew(t *testing.T) {
	from := rand.New(rand.NewSource(1671))
	for k := range 16 {
		p := begun(t, small(t), inTurns)
		p.are(api.OK, p.begin(), p.write(140, full("a")), p.put(141, full("b")), p.end(), p.commit())
		if k&1 != 0 {
			p = p.anew(p.survives(p.d.Kept(), false))
		}
		p.are(api.OK, p.begin(), p.write(140, full("c")), p.end(), p.begin(), p.free(140, k&2 != 0), p.free(141, false), p.end())
		p.isSize(0, 2, 1)
		p.isSure(from)
		p.are(api.OK, p.commit())
		if k&4 != 0 {
			p = p.anew(p.survives(p.d.Kept(), false))
		}
		p.are(api.OK, p.begin(), p.put(140, full("d")), p.write(141, full("e")), p.end())
		p.isSure(from)
		p.are(api.OK, p.commit())
		p.holds()
		p.isSure(from)
		if k&8 != 0 {
			p.are(api.OK, p.begin(), p.put(140, full("f")), p.end(), p.commit())
		}
		p.holds()
		p.isSure(from)
	}
}

// P16.3, P16.6: metadata that was freed as if it were data, and is data then, keeps its bytes, too.
func TestFreedAsData(t *testing.T) {
	from := rand.New(rand.NewSource(1672))
	for _, others := range []int{0, 2, 30} {
		p := begun(t, small(t), inTurns)
		p.are(api.OK, p.begin(), p.write(140, full("a")), p.end(), p.commit())
		p.are(api.OK, p.begin(), p.free(140, false), p.end())
		p.isSize(0, 1, 0)
		p.isSure(from)
		p.are(api.OK, p.commit(), p.begin(), p.put(140, full("b")), p.end())
		p.isSure(from)
		p.are(api.OK, p.commit())
		for n := range others {
			p.are(api.OK, p.begin(), p.write(150, some(n)), p.write(152, some(n)), p.write(154, some(n)), p.end(), p.commit())
		}
		p.holds()
		p.isSure(from)
		p.are(api.OK, p.begin(), p.free(140, true), p.end(), p.commit(), p.begin(), p.write(140, full("c")), p.end(), p.commit())
		p.holds()
		p.isSure(from)
	}
}

// R1, P16.3: a block that is used both ways touches no other, and its bytes are told again once it was freed and a commit took place.
func TestMixedUse(t *testing.T) {
	from := rand.New(rand.NewSource(1673))
	p := begun(t, small(t), inTurns)
	p.are(api.OK, p.begin(), p.write(144, full("e")), p.end(), p.commit(), p.begin(), p.put(144, full("f")), p.end(), p.commit())
	p.holds()
	p.isSure(from)
	p.are(api.OK, p.x.Begin(), p.x.Write(140, full("a")), p.x.Put(140, full("b")), p.x.Put(142, full("c")), p.x.Write(142, full("d")), p.x.End(), p.x.Commit())
	for _, b := range []int{140, 142} {
		p.w.cells[b] = cell{use: mixed, vague: true}
	}
	p.holds()
	p.isSure(from)
	p.are(api.OK, p.begin(), p.free(140, false), p.free(142, true), p.free(144, false), p.end(), p.commit())
	p.are(api.OK, p.begin(), p.put(140, full("g")), p.put(142, full("h")), p.put(144, full("i")), p.end(), p.commit())
	p.holds()
	p.isSure(from)
}
