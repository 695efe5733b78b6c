package live

import (
	"math"
	"slices"
	"testing"

	"strandline/api"
)

// P25.1: segments that are right together, and each beginning and each end of them.
func TestRightTogether(t *testing.T) {
	for _, l := range grownAll() {
		for i := range len(l) + 1 {
			for k := range i + 1 {
				if e := againstSlow(t, "right", l[k:i]); e != api.OK {
					t.Fatalf("error %d of %s", e, text(l[k:i]))
				}
			}
		}
	}
}

// P25.1: long ones: many segments, and many records.
func TestMany(t *testing.T) {
	numbers := mixed(1, 4000)
	var rows [][]int
	for i := range 200 {
		var row []int
		for _, n := range numbers[20*i : 20*i+i%20] {
			row = append(row, int(n)%chains)
		}
		rows = append(rows, row)
	}
	l := grown(heading(1<<63-100, 900), rows...)
	checks(t, "many segments", l, api.OK)
	long := make([]int, 70000)
	for i := range long {
		long[i] = (i >> 8) % chains
	}
	l = grown(heading(3, 4), long, nil, []int{1})
	checks(t, "many records", l, api.OK)
	l[0].Recs[65536].Prev--
	checks(t, "one of many records", l, api.ErrCorrupt)
}

// P25.1: ErrArg of a header that isn't right, in each of its parts, and of fewer and more Places than Recs, at each segment.
func TestMisshapen(t *testing.T) {
	for _, l := range grownAll() {
		for _, f := range misshapes(l) {
			checks(t, f.what, f.of(l), api.ErrArg)
		}
	}
}

// P25.1: ErrCorrupt of each thing that keeps segments from being right together, at each segment and at each record.
func TestAstray(t *testing.T) {
	for _, l := range grownAll() {
		for _, f := range astray(l) {
			changed := f.of(l)
			checks(t, f.what, changed, api.ErrCorrupt)
			if f.seg > 1 {
				checks(t, f.what+", by its end alone", changed[f.seg-1:], api.ErrCorrupt)
			}
			if f.seg < len(l)-1 {
				checks(t, f.what+", ahead of it", changed[:f.seg], api.OK)
			}
		}
	}
}

// P25.1: a segment that doesn't go on where the one ahead ends, just by its header: its own records, and what comes behind, go by that.
func TestGoesOnElsewhere(t *testing.T) {
	for n, rows := range rows() {
		l := grown(heading(uint64(2+n), 1+3*n), rows...)
		for i := range l {
			checks(t, "as it was", append(copied(l[:i]), grown(l[i].H, rows[i:]...)...), api.OK)
			if i == 0 {
				continue
			}
			for _, h := range otherHeaders(l[i].H, l[i-1].H) {
				other := grown(h, rows[i:]...)
				if !slices.ContainsFunc(other, func(s Segment) bool { return !slowRight(s.H) }) {
					checks(t, "by itself", other, api.OK)
					checks(t, "behind the ones ahead", append(copied(l[:i]), other...), api.ErrCorrupt)
				}
			}
		}
	}
}

// P25.1: the first segment may begin with any right header: any Seq, Epoch and First, and any Heads below it.
func TestAnyFirst(t *testing.T) {
	for _, epoch := range []uint64{1, 2, 1 << 32, 1 << 63, math.MaxUint64 - 20} {
		for _, seq := range []int{1, 2, 1 << 16, mostLSN - 8} {
			for _, first := range []int{1, 2, 3, 1000, mostLSN - 20} {
				for _, heads := range [][chains]int{{}, {first - 1}, {0, first - 1, 0, first / 2}, {first - 1, first - 1, first - 1, first - 1}} {
					for _, rows := range rows() {
						checks(t, "any first one", grown(api.Header{Epoch: epoch, Seq: seq, First: first, Heads: heads}, rows...), api.OK)
					}
				}
			}
		}
	}
}

// skipping are segments as they are grown, but at one record the numbers go on elsewhere: all behind it go by that.
func skipping(h api.Header, rows [][]int, seg, at, by int) []Segment {
	ahead := grown(h, rows...)
	l := ahead[:seg]
	s := ahead[seg]
	next := h.First
	heads := s.H.Heads
	for k, chain := range rows[seg] {
		next = s.H.First + k
		if k >= at {
			next += by
		}
		s.Recs[k] = rec(chain, next, heads[chain])
		heads[chain] = next
	}
	l = append(l, s)
	behind := api.Header{Epoch: s.H.Epoch + 5, Seq: s.H.Seq + 1, First: next + 1, Heads: heads}
	return append(l, grown(behind, rows[seg+1:]...)...)
}

// P25.1: an LSN that isn't one more than the one ahead, or First, though all behind it goes on from there.
func TestSkippedNumber(t *testing.T) {
	for n, rows := range rows() {
		for i, row := range rows {
			for k := range row {
				for _, by := range []int{-1, 1, 2, 256, 1 << 20} {
					checks(t, "skipped", skipping(heading(uint64(1+n), 1+n), rows, i, k, by), api.ErrCorrupt)
				}
				checks(t, "not skipped", skipping(heading(uint64(1+n), 1+n), rows, i, k, 0), api.OK)
			}
		}
	}
}

// P25.1: each record's Prev: no other one than its chain's head is right.
func TestPrev(t *testing.T) {
	for _, l := range grownAll() {
		for i, s := range l {
			for k, r := range s.Recs {
				for prev := -2; prev < r.LSN+3; prev++ {
					changed := copied(l)
					changed[i].Recs[k].Prev = prev
					want := api.ErrCorrupt
					if prev == r.Prev {
						want = api.OK
					}
					checks(t, "a Prev", changed, want)
				}
			}
		}
	}
}

// P25.1: each record of each other chain, with the Prev that it had, with none, and with that chain's head.
func TestOtherChain(t *testing.T) {
	for _, l := range grownAll() {
		for i, s := range l {
			heads := s.H.Heads
			for k, r := range s.Recs {
				for chain := range chains {
					for _, prev := range []int{r.Prev, 0, heads[chain]} {
						changed := copied(l)
						changed[i].Recs[k].Chain, changed[i].Recs[k].Prev = chain, prev
						e := againstSlow(t, "another chain", changed)
						if last := i == len(l)-1 && k == len(s.Recs)-1; last && prev == heads[chain] && e != api.OK {
							t.Fatalf("the last record may be of any chain: error %d of %s", e, text(changed))
						}
					}
				}
				heads[r.Chain] = r.LSN
			}
		}
	}
}

// P25.1: a chain that there is not has no head, so no Prev of a record that is of it is right.
func TestNoChain(t *testing.T) {
	for _, l := range grownAll() {
		for i, s := range l {
			for k, r := range s.Recs {
				for _, chain := range []int{math.MinInt, -1 << 32, -4, -1, chains, chains + 1, 7, 255, 256, 1 << 32, 1<<32 + 1, math.MaxInt} {
					for _, prev := range []int{r.Prev, 0, -1, r.LSN, r.LSN - 1} {
						changed := copied(l)
						changed[i].Recs[k].Chain, changed[i].Recs[k].Prev = chain, prev
						checks(t, "no chain", changed, api.ErrCorrupt)
						// All records from there on of that chain, each one's Prev the one ahead.
						for n := k + 1; n < len(s.Recs); n++ {
							changed[i].Recs[n].Chain, changed[i].Recs[n].Prev = chain, changed[i].Recs[n-1].LSN
						}
						checks(t, "no chain", changed, api.ErrCorrupt)
						againstSlow(t, "no chain", changed)
					}
				}
			}
		}
	}
}

// P25.1: Check asks for nothing else: not for what Places and End are, nor for a record's Kind and Data.
func TestNothingElse(t *testing.T) {
	for n, l := range grownAll() {
		for turn := range 40 {
			r := dice(100*n + turn)
			changed := copied(l)
			for i := range changed {
				s := &changed[i]
				s.End = pick(&r, math.MinInt, -1, 0, 1, all, all+1, math.MaxInt)
				for k := range s.Recs {
					s.Places[k] = pick(&r, math.MinInt, -1, 0, 0, 1, all, all+1, math.MaxInt)
					s.Recs[k].Kind = pick(&r, math.MinInt, -1, 0, 1, 9, 10, math.MaxInt)
					s.Recs[k].Data = pick(&r, nil, []byte{}, make([]byte, longest+1), r.bytes(5))
				}
			}
			checks(t, "other things", changed, api.OK)
			tells(t, "other things", changed, slowNext(l), slowHeads(l))
		}
	}
}
