package record

import (
	"math"
	"slices"
	"testing"

	"strandline/api"
)

// The chapter's example, some beside it, and the limits.
func TestExample(t *testing.T) {
	for _, c := range []struct {
		r api.Rec
		b []byte
	}{
		{api.Rec{Kind: api.KindNote, LSN: 1}, []byte{1, 0, 1, 1}},
		{api.Rec{Kind: api.KindBatch, Chain: 3, LSN: 300, Prev: 300 - 129, Data: []byte("ab")}, []byte{2, 3, 172, 2, 129, 1, 97, 98}},
		{api.Rec{Kind: api.KindEnd, Chain: 1, LSN: api.MaxLSN, Data: []byte{0}}, []byte{9, 1, 255, 255, 255, 255, 7, 255, 255, 255, 255, 7, 0}},
		{api.Rec{Kind: api.KindEnd, Chain: 2, LSN: api.MaxLSN, Prev: api.MaxLSN - 1}, []byte{9, 2, 255, 255, 255, 255, 7, 1}},
	} {
		if !Right(c.r) || Size(c.r) != len(c.b) {
			t.Errorf("%v: Right %t, Size %d", c.r, Right(c.r), Size(c.r))
		}
		if b, e := Encode(c.r); !slices.Equal(b, c.b) || e != api.OK {
			t.Errorf("Encode of %v = %v, %d", c.r, b, e)
		}
		if r, e := Decode(c.b); !Same(r, c.r) || !slowSame(r, c.r) || e != api.OK {
			t.Errorf("Decode of %v = %v, %d", c.b, r, e)
		}
	}
	if api.KindNote != firstKind || api.KindEnd != lastKind || api.MaxChains != lastChain+1 || api.MaxLSN != mostLSN || api.MaxRecord != most {
		t.Errorf("KindNote, KindEnd, MaxChains, MaxLSN, MaxRecord = %d, %d, %d, %d, %d", api.KindNote, api.KindEnd, api.MaxChains, api.MaxLSN, api.MaxRecord)
	}
}

// P11.1: Right at each field's bounds, written out, with the others right.
func TestRight(t *testing.T) {
	for _, c := range []struct {
		kind, chain, lsn, prev int
		want                   bool
	}{
		{math.MinInt, 0, 1, 0, false}, {-1, 0, 1, 0, false}, {0, 0, 1, 0, false},
		{1, 0, 1, 0, true}, {2, 0, 1, 0, true}, {3, 0, 1, 0, true}, {4, 0, 1, 0, true}, {5, 0, 1, 0, true},
		{6, 0, 1, 0, true}, {7, 0, 1, 0, true}, {8, 0, 1, 0, true}, {9, 0, 1, 0, true},
		{10, 0, 1, 0, false}, {257, 0, 1, 0, false}, {math.MaxInt, 0, 1, 0, false},

		{5, math.MinInt, 9, 8, false}, {5, -1, 9, 8, false},
		{5, 0, 9, 8, true}, {5, 1, 9, 8, true}, {5, 2, 9, 8, true}, {5, 3, 9, 8, true},
		{5, 4, 9, 8, false}, {5, 256, 9, 8, false}, {5, math.MaxInt, 9, 8, false},

		{9, 3, math.MinInt, 0, false}, {9, 3, -1, 0, false}, {9, 3, 0, 0, false},
		{9, 3, 1, 0, true}, {9, 3, 127, 0, true}, {9, 3, 128, 0, true}, {9, 3, 16383, 0, true}, {9, 3, 16384, 0, true},
		{9, 3, 2147483647, 0, true}, {9, 3, 2147483648, 0, false}, {9, 3, 1<<32 + 1, 0, false}, {9, 3, math.MaxInt, 0, false},

		{1, 3, 1, math.MinInt, false}, {1, 3, 1, -1, false}, {1, 3, 1, 0, true}, {1, 3, 1, 1, false}, {1, 3, 1, 2, false}, {1, 3, 1, math.MaxInt, false},
		{1, 3, 128, math.MinInt, false}, {1, 3, 128, -1, false}, {1, 3, 128, 0, true}, {1, 3, 128, 127, true}, {1, 3, 128, 128, false}, {1, 3, 128, 129, false},
		{1, 3, 2147483647, -1, false}, {1, 3, 2147483647, 0, true}, {1, 3, 2147483647, 2147483646, true},
		{1, 3, 2147483647, 2147483647, false}, {1, 3, 2147483647, 2147483648, false}, {1, 3, 2147483647, math.MaxInt, false},
	} {
		r := api.Rec{Kind: c.kind, Chain: c.chain, LSN: c.lsn, Prev: c.prev}
		for _, data := range datas(most) {
			if Right(withData(r, data)) != c.want {
				t.Errorf("Right of %v with %d bytes = %t", r, len(data), !c.want)
			}
		}
	}
}

// P11.1: Right tells of each record what the chapter's words tell: all kinds with all chains, LSNs and Prevs.
func TestRightByWords(t *testing.T) {
	right := 0
	for _, lsn := range lsns() {
		for _, prev := range append(rightPrevs(lsn), wrongPrevs(lsn)...) {
			for _, kind := range kinds() {
				for _, chain := range chains() {
					r := api.Rec{Kind: kind, Chain: chain, LSN: lsn, Prev: prev}
					want := slowRight(r)
					if Right(r) != want {
						t.Fatalf("Right of %v = %t", r, !want)
					}
					if want {
						right++
					}
				}
			}
		}
	}
	if right < 5000 {
		t.Errorf("just %d records are right", right)
	}
}

// P11.1: Right of each small number in each field, with the others right.
func TestRightOfEach(t *testing.T) {
	for n := -600; n <= 600; n++ {
		for _, c := range []struct {
			r    api.Rec
			want bool
		}{
			{api.Rec{Kind: n, LSN: 1}, n >= 1 && n <= 9},
			{api.Rec{Kind: 1, Chain: n, LSN: 1}, n >= 0 && n <= 3},
			{api.Rec{Kind: 1, LSN: n}, n >= 1},
			{api.Rec{Kind: 1, LSN: 500, Prev: n}, n >= 0 && n <= 499},
			{api.Rec{Kind: 1, LSN: n, Prev: n - 1}, n >= 1},
			{api.Rec{Kind: 1, LSN: n, Prev: n}, false},
			{api.Rec{Kind: 1, LSN: mostLSN + n, Prev: 1}, n <= 0},
			{api.Rec{Kind: 1, LSN: mostLSN, Prev: mostLSN + n}, n <= -1},
		} {
			if Right(c.r) != c.want {
				t.Errorf("Right of %v = %t", c.r, !c.want)
			}
		}
	}
}

// P11.1: Same of no Data, nil and empty, with room behind its end and without.
func TestSameOfNoData(t *testing.T) {
	for _, r := range append(heads(), wrongs()...) {
		none := [][]byte{nil, {}, roomy(nil), []byte("ab")[:0]}
		for _, a := range none {
			for _, b := range none {
				if !Same(withData(r, a), withData(r, b)) {
					t.Fatalf("%v without Data isn't the same", r)
				}
			}
			if Same(withData(r, a), withData(r, []byte{0})) || Same(withData(r, []byte{0}), withData(r, a)) {
				t.Fatalf("%v without Data, and with a byte 0, is the same", r)
			}
		}
	}
}

// P11.1: Same of records that differ in one field alone, of any numbers, either way round.
func TestSameOfOtherField(t *testing.T) {
	change := []func(r *api.Rec, n int){
		func(r *api.Rec, n int) { r.Kind ^= n },
		func(r *api.Rec, n int) { r.Chain ^= n },
		func(r *api.Rec, n int) { r.LSN ^= n },
		func(r *api.Rec, n int) { r.Prev ^= n },
	}
	for i, r := range slices.Concat(heads(), wrongs(), manyRecs(20)) {
		if i%3 == 0 {
			r.Data = []byte(mixed(i % 40))
		}
		same := withData(r, slices.Clone(r.Data))
		if !Same(r, same) || !Same(same, r) {
			t.Fatalf("%v isn't the same as it is", r)
		}
		for bit := range 64 {
			for k, f := range change {
				other := same
				f(&other, 1<<bit)
				if Same(r, other) || Same(other, r) {
					t.Fatalf("%v and %v, changed by %d, are the same", r, other, k)
				}
			}
		}
	}
}

// P11.1: Same of records whose fields are exchanged.
func TestSameOfExchanged(t *testing.T) {
	r := api.Rec{Kind: 1, Chain: 2, LSN: 4, Prev: 3}
	for _, other := range []api.Rec{
		{Kind: 2, Chain: 1, LSN: 4, Prev: 3}, {Kind: 4, Chain: 2, LSN: 1, Prev: 3}, {Kind: 3, Chain: 2, LSN: 4, Prev: 1},
		{Kind: 1, Chain: 4, LSN: 2, Prev: 3}, {Kind: 1, Chain: 3, LSN: 4, Prev: 2}, {Kind: 1, Chain: 2, LSN: 3, Prev: 4},
		// The same sums, and the same distance.
		{Kind: 0, Chain: 3, LSN: 4, Prev: 3}, {Kind: 1, Chain: 2, LSN: 5, Prev: 2}, {Kind: 1, Chain: 2, LSN: 5, Prev: 4}, {Kind: 1, Chain: 3, LSN: 3, Prev: 3},
	} {
		if Same(r, other) || Same(other, r) {
			t.Errorf("%v and %v are the same", r, other)
		}
	}
}

// P11.1: Same of Data of each two lengths, the shorter one the longer one's beginning, either way round.
func TestSameOfLengths(t *testing.T) {
	all := []byte(mixed(600))
	r := api.Rec{Kind: 1, LSN: 1}
	lengths := []int{0, 1, 2, 3, 4, 7, 8, 9, 15, 16, 17, 127, 128, 129, 255, 256, 257, 507, 508, 509, 599, 600}
	for _, i := range lengths {
		for _, k := range lengths {
			if got := Same(withData(r, all[:i]), withData(r, slices.Clone(all[:k]))); got != (i == k) {
				t.Errorf("Same of %d bytes and %d = %t", i, k, got)
			}
		}
	}
}

// P11.1: Same of Data that differ in one byte, at each place, in each bit.
func TestSameOfOtherByte(t *testing.T) {
	for _, n := range []int{1, 2, 3, 8, 17, 255, 600} {
		r := api.Rec{Kind: 3, Chain: 1, LSN: 9, Prev: 4, Data: []byte(mixed(n))}
		for i := range n {
			for bit := range 8 {
				other := withData(r, slices.Clone(r.Data))
				other.Data[i] ^= 1 << bit
				if Same(r, other) || Same(other, r) {
					t.Fatalf("of %d bytes one at %d turned in bit %d: the same", n, i, bit)
				}
			}
		}
	}
}

// P11.1: Same tells of any two records what the chapter's words tell, and changes neither.
func TestSameByWords(t *testing.T) {
	l := manyRecs(150)
	for i, r := range manyRecs(40) {
		for _, data := range [][]byte{nil, {0}, roomy([]byte{0, 0}), r.Data, append(slices.Clone(r.Data), 0)} {
			l = append(l, withData(r, data), withData(l[i], data))
		}
	}
	for _, a := range l {
		for _, b := range l {
			wasA, wasB := slices.Clone(a.Data[:cap(a.Data)]), slices.Clone(b.Data[:cap(b.Data)])
			if want := slowSame(a, b); Same(a, b) != want {
				t.Fatalf("Same of %v and %v = %t", a, b, !want)
			}
			if !slices.Equal(a.Data[:cap(a.Data)], wasA) || !slices.Equal(b.Data[:cap(b.Data)], wasB) {
				t.Fatalf("Same of %v and %v changed what was given", a, b)
			}
		}
	}
}
