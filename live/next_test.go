package live

import (
	"math"
	"testing"

	"strandline/api"
)

// P25.1: Next and Heads look at the last segment alone, and of its header just at First, or at Heads.
func TestLastAlone(t *testing.T) {
	for _, l := range grownAll() {
		if len(l) == 0 {
			continue
		}
		last := l[len(l)-1]
		next, heads := slowNext(l), slowHeads(l)
		tells(t, "the last one alone", []Segment{last}, next, heads)
		for _, other := range grownAll() {
			tells(t, "behind others", append(copied(other), last), next, heads)
			tells(t, "behind others that aren't right", append(append(copied(other), Segment{}, Segment{H: api.Header{First: -3}, Recs: []api.Rec{{LSN: -7}}}), last), next, heads)
		}
		changed := copied(l)
		s := &changed[len(l)-1]
		s.H.Epoch, s.H.Seq, s.Places, s.End, s.Kind = 0, -1, nil, -1, -1
		tells(t, "by its header and records", changed, next, heads)
	}
}

// P25.1: Next goes by the last record's LSN, and by no other one's; where there is no record, by First, whatever that is.
func TestNext(t *testing.T) {
	numbers := []int{math.MinInt, math.MinInt32, -mostLSN, -2, -1, 0, 1, 2, 300, mostLSN - 1, mostLSN, mostLSN + 1, 1<<32 - 1, 1 << 32, math.MaxInt - 1}
	for _, lsn := range numbers {
		for _, first := range numbers {
			h := api.Header{First: first, Heads: [chains]int{1, 2, 3, 4}}
			tells(t, "no record", []Segment{{H: h}}, first, [chains]int{1, 2, 3, 4})
			tells(t, "no record", []Segment{{H: h, Recs: []api.Rec{}}}, first, [chains]int{1, 2, 3, 4})
			tells(t, "one", []Segment{{H: h, Recs: []api.Rec{{LSN: lsn}}}}, lsn+1, [chains]int{lsn, 2, 3, 4})
			for _, other := range numbers {
				tells(t, "two", []Segment{{H: h, Recs: []api.Rec{{LSN: other, Chain: 1}, {LSN: lsn, Chain: 3}}}}, lsn+1, [chains]int{1, other, 3, lsn})
				tells(t, "two of one chain", []Segment{{H: h, Recs: []api.Rec{{LSN: other, Chain: 2}, {LSN: lsn, Chain: 2}}}}, lsn+1, [chains]int{1, 2, lsn, 4})
			}
		}
	}
}

// P25.1: Heads goes by each chain's last record, in whatever order the chains come; a record of another chain than there is counts for none, but Next goes by it.
func TestHeads(t *testing.T) {
	kinds := []int{0, 1, 2, 3, -1, chains, 255}
	h := api.Header{First: 9, Heads: [chains]int{5, 6, 7, 8}}
	for n := range 7 * 7 * 7 * 7 {
		var recs []api.Rec
		want := h.Heads
		for i, left := 0, n; i < 4; i, left = i+1, left/7 {
			chain := kinds[left%7]
			recs = append(recs, api.Rec{Chain: chain, LSN: 20 + i, Prev: 90})
			if left%7 < chains {
				want[chain] = 20 + i
			}
		}
		tells(t, "four records", []Segment{{H: h, Recs: recs}}, 24, want)
		againstSlow(t, "four records", []Segment{{H: h, Recs: recs}})
	}
	for _, chain := range []int{math.MinInt, -1 << 32, -5, -4, -1, chains, chains + 1, 1 << 8, 1<<32 + 2, math.MaxInt} {
		tells(t, "no chain", []Segment{{H: h, Recs: []api.Rec{{Chain: chain, LSN: 30}}}}, 31, h.Heads)
		tells(t, "no chain, behind one that is", []Segment{{H: h, Recs: []api.Rec{{Chain: 2, LSN: 29}, {Chain: chain, LSN: 30}}}}, 31, [chains]int{5, 6, 29, 8})
	}
}

// P25.1: the last record of a chain is its head, not the one with the greatest number; and 0 is a number as any other one.
func TestHeadsAnyNumbers(t *testing.T) {
	h := api.Header{First: 9, Heads: [chains]int{-5, 6, 0, 8}}
	tells(t, "falling", []Segment{{H: h, Recs: []api.Rec{{Chain: 1, LSN: 30}, {Chain: 1, LSN: 3}}}}, 4, [chains]int{-5, 3, 0, 8})
	tells(t, "0", []Segment{{H: h, Recs: []api.Rec{{Chain: 3, LSN: 30}, {Chain: 3, LSN: 0}}}}, 1, [chains]int{-5, 6, 0, 0})
	tells(t, "below 0", []Segment{{H: h, Recs: []api.Rec{{Chain: 0, LSN: 30}, {Chain: 0, LSN: -8}}}}, -7, [chains]int{-8, 6, 0, 8})
}
