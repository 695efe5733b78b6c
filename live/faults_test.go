package live

import (
	"fmt"
	"math"

	"strandline/api"
)

// fault is something that is made wrong in segments that are right together.
type fault struct {
	what string
	seg  int
	do   func(l []Segment)
}

// of is a copy of l with the fault.
func (f fault) of(l []Segment) []Segment {
	l = copied(l)
	f.do(l)
	return l
}

// wrongHeaders are h with one part wrong.
func wrongHeaders(h api.Header) []api.Header {
	with := func(change func(h *api.Header)) api.Header {
		changed := h
		change(&changed)
		return changed
	}
	l := []api.Header{{}, with(func(h *api.Header) { h.Epoch = 0 })}
	for _, n := range []int{math.MinInt, -1 << 32, -mostLSN, -1, 0, mostLSN + 1, 1 << 32, 1<<32 + h.Seq, math.MaxInt} {
		l = append(l, with(func(h *api.Header) { h.Seq = n }), with(func(h *api.Header) { h.First = n }))
		if n != 0 {
			l = append(l, with(func(h *api.Header) { h.First, h.Heads = n, [chains]int{} }))
		}
	}
	for c := range chains {
		for _, n := range []int{math.MinInt, -1 << 32, -mostLSN, -1, h.First, h.First + 1, mostLSN + 1, 1 << 32, 1<<32 + 1, math.MaxInt} {
			l = append(l, with(func(h *api.Header) { h.Heads[c] = n }))
		}
	}
	return l
}

// misshapes are faults of which ErrArg is told: a header that isn't right, and fewer or more Places than Recs.
func misshapes(l []Segment) []fault {
	var out []fault
	for i, s := range l {
		for _, h := range wrongHeaders(s.H) {
			out = append(out, fault{fmt.Sprintf("the header %v", h), i, func(l []Segment) { l[i].H = h }})
		}
		for _, n := range []int{0, len(s.Recs) - 1, len(s.Recs) + 1, 2*len(s.Recs) + 3} {
			if n >= 0 && n != len(s.Recs) {
				out = append(out, fault{fmt.Sprintf("%d Places of %d Recs", n, len(s.Recs)), i, func(l []Segment) { l[i].Places = make([]int, n) }})
			}
		}
		if n := len(s.Recs); n > 0 {
			out = append(out, fault{"no Recs", i, func(l []Segment) { l[i].Recs = nil }}, fault{"one of the Recs fewer", i, func(l []Segment) { l[i].Recs = l[i].Recs[:n-1] }})
		}
	}
	return out
}

// otherHeaders are right ones none of which goes on behind a segment, by the one that does.
func otherHeaders(h, ahead api.Header) []api.Header {
	var l []api.Header
	add := func(other api.Header) {
		if other != h && slowRight(other) {
			l = append(l, other)
		}
	}
	for _, n := range []int{ahead.Seq, ahead.Seq + 2, ahead.Seq - 1, 1, mostLSN} {
		if n != h.Seq {
			other := h
			other.Seq = n
			add(other)
		}
	}
	for _, n := range []uint64{ahead.Epoch, ahead.Epoch - 1, 1} {
		other := h
		other.Epoch = n
		add(other)
	}
	for _, n := range []int{h.First + 1, h.First - 1, h.First + 2, 1, mostLSN} {
		other := h
		other.First = n
		add(other)
	}
	for c := range chains {
		for _, n := range []int{h.Heads[c] + 1, h.Heads[c] - 1, 0, h.First - 1, ahead.Heads[c], h.Heads[(c+1)%chains]} {
			other := h
			other.Heads[c] = n
			add(other)
		}
	}
	return l
}

// astray are faults of which ErrCorrupt is told, where there is no other one.
func astray(l []Segment) []fault {
	var out []fault
	for i, s := range l {
		if i > 0 {
			for _, h := range otherHeaders(s.H, l[i-1].H) {
				out = append(out, fault{fmt.Sprintf("the header %v", h), i, func(l []Segment) { l[i].H = h }})
			}
		}
		if i < len(l)-1 {
			for _, kind := range []int{0, torn, 3} {
				out = append(out, fault{fmt.Sprintf("the end %d", kind), i, func(l []Segment) { l[i].Kind = kind }})
			}
		}
		for k, r := range s.Recs {
			for _, lsn := range []int{r.LSN - 1, r.LSN + 1, 0, -r.LSN, r.LSN + 1<<32, math.MaxInt} {
				out = append(out, fault{fmt.Sprintf("the LSN %d of the record %d", lsn, k), i, func(l []Segment) { l[i].Recs[k].LSN = lsn }})
			}
			for _, prev := range []int{r.Prev - 1, r.Prev + 1, r.LSN, -1, r.Prev + 1<<32, math.MinInt} {
				out = append(out, fault{fmt.Sprintf("the Prev %d of the record %d", prev, k), i, func(l []Segment) { l[i].Recs[k].Prev = prev }})
			}
			for _, chain := range []int{-1, chains, math.MinInt, math.MaxInt, 256, 1 << 32} {
				out = append(out, fault{fmt.Sprintf("the chain %d of the record %d", chain, k), i, func(l []Segment) { l[i].Recs[k].Chain = chain }})
			}
		}
	}
	return out
}
