package live

import (
	"math"
	"testing"

	"strandline/api"
)

// tally counts the errors that are told, by their numbers.
type tally map[api.Errno]int

// more fails, if one of the errors came fewer times than that.
func (n tally) more(t *testing.T, least int, errors ...api.Errno) {
	t.Helper()
	for _, e := range errors {
		if n[e] < least {
			t.Errorf("the error %d came just %d times", e, n[e])
		}
	}
}

// P25.1: all segments of up to two records, of small numbers.
func TestAllSmall(t *testing.T) {
	n := tally{}
	for first := range 4 {
		for headOf := range 3 {
			h := api.Header{Epoch: 4, Seq: 2, First: first, Heads: [chains]int{headOf}}
			n[againstSlow(t, "no record", []Segment{seg(h)})]++
			for a := range 2 * 5 * 5 {
				one := api.Rec{Kind: 1, Chain: a % 2, LSN: a / 2 % 5, Prev: a / 10}
				n[againstSlow(t, "one record", []Segment{seg(h, one)})]++
				for b := range 2 * 5 * 5 {
					n[againstSlow(t, "two records", []Segment{seg(h, one, api.Rec{Kind: 1, Chain: b % 2, LSN: b / 2 % 5, Prev: b / 10})})]++
				}
			}
		}
	}
	n.more(t, 30, api.OK, api.ErrArg, api.ErrCorrupt)
}

// P25.1: all pairs of segments of small numbers, behind one of them a record.
func TestAllSmallPairs(t *testing.T) {
	n := tally{}
	a := seg(api.Header{Epoch: 2, Seq: 2, First: 2, Heads: [chains]int{1}})
	ones := []Segment{a, seg(a.H, rec(0, 2, 1)), seg(a.H, rec(1, 2, 0)), seg(a.H, rec(1, 2, 1))}
	ones = append(ones, ones...)
	for i := range ones[:4] {
		ones[i].Kind = torn
	}
	for _, one := range ones {
		for k := range 4 * 4 * 5 * 4 * 4 {
			h := api.Header{Epoch: uint64(k % 4), Seq: k / 4 % 4, First: k / 16 % 5, Heads: [chains]int{k / 80 % 4, k / 320}}
			n[againstSlow(t, "two segments", []Segment{one, seg(h)})]++
			n[againstSlow(t, "two segments, and a record", []Segment{one, seg(h, rec(0, h.First, h.Heads[0]))})]++
			n[againstSlow(t, "two segments, and another record", []Segment{one, seg(h, rec(1, 3, 2))})]++
		}
	}
	n.more(t, 3, api.OK)
	n.more(t, 1000, api.ErrArg, api.ErrCorrupt)
}

// change does something to a list that was right.
func (r *dice) change(l []Segment) {
	s := &l[r.roll(len(l))]
	by := pick(r, -2, -1, 1, 2, 1<<32, math.MinInt, -r.roll(100), r.roll(100), mostLSN)
	switch r.roll(12) {
	case 0:
		s.H.Seq += by
	case 1:
		s.H.Epoch += uint64(by)
	case 2:
		s.H.First += by
	case 3:
		s.H.Heads[r.roll(chains)] += by
	case 4:
		s.Kind = r.roll(4)
	case 5:
		s.Places = make([]int, max(0, min(40, len(s.Places)+by)))
	case 6:
		s.H.Heads = l[r.roll(len(l))].H.Heads
	case 7:
		s.H = l[r.roll(len(l))].H
	default:
		if len(s.Recs) == 0 {
			return
		}
		rec := &s.Recs[r.roll(len(s.Recs))]
		switch r.roll(4) {
		case 0:
			rec.LSN += by
		case 1:
			rec.Prev += by
		case 2:
			rec.Chain = r.roll(chains+2) - 1
		default:
			rec.Prev = rec.LSN - 1
		}
	}
}

// P25.1: segments of any numbers of records, some of them changed.
func TestAny(t *testing.T) {
	n := tally{}
	for turn := range 40000 {
		r := dice(turn)
		var rows [][]int
		for range 1 + r.roll(6) {
			row := make([]int, r.roll(6)*r.roll(4))
			for i := range row {
				row[i] = r.roll(1 + r.roll(chains))
			}
			rows = append(rows, row)
		}
		first := 1 + r.roll(90)
		h := api.Header{Epoch: 1 + uint64(r.roll(1<<30))<<r.roll(32), Seq: 1 + r.roll(100), First: first, Heads: [chains]int{r.roll(first), r.roll(first), 0, r.roll(first)}}
		l := grown(h, rows...)
		checks(t, "as it was", l, api.OK)
		for range r.roll(4) {
			r.change(l)
		}
		if r.roll(6) == 0 {
			i := r.roll(len(l))
			l = append(l[:i:i], l[min(len(l), i+r.roll(3)):]...)
		}
		n[againstSlow(t, "any", l)]++
	}
	n.more(t, 5000, api.OK, api.ErrArg, api.ErrCorrupt)
}
