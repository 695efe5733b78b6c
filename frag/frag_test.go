package frag

import (
	"math"
	"slices"
	"testing"

	"strandline/api"
)

// The chapter's example, some beside it, and the limits.
func TestExample(t *testing.T) {
	noDecode(t, "eleven bytes 0", []byte{0, 0, 0, 0, 0, 0, 0, 0, 0, 0, 0}, 0, api.ErrNone)
	noDecode(t, "eleven bytes 0", []byte{0, 0, 0, 0, 0, 0, 0, 0, 0, 0, 0}, 5, api.ErrNone)
	f := api.Frag{Kind: api.FragFirst, Epoch: 258, Data: []byte("ab")}
	want := sealed([]byte{0, 0, 0, 0, 2, 0, 2, 2, 1, 0, 0, 97, 98})
	if b, e := Encode(f); !slices.Equal(b, want) || e != api.OK {
		t.Errorf("Encode of %v = %v, %d", f, b, e)
	}
	sameDecode(t, "an example", want, 258, f, 13, api.OK)
	if api.FragFull != firstKind || api.FragLast != lastKind || api.Head != headSize || api.BlockRoom-api.Head != most {
		t.Errorf("FragFull, FragLast, Head, BlockRoom = %d, %d, %d, %d", api.FragFull, api.FragLast, api.Head, api.BlockRoom)
	}
}

func TestMost(t *testing.T) {
	if Most != 197 {
		t.Errorf("Most = %d", Most)
	}
}

// What the tests reckon themselves: layer 3's example, masked, written out.
func TestSlowSum(t *testing.T) {
	if sum := slowSum([]byte("123456789")); sum != 0xc78ab0e5 {
		t.Errorf("the masked sum of 123456789 = %x", sum)
	}
}

// P13.1: Same of no Data, nil and empty, with room behind its end and without.
func TestSameOfNoData(t *testing.T) {
	for _, f := range append(frags()[:100], api.Frag{}, api.Frag{Kind: math.MinInt}) {
		none := [][]byte{nil, {}, roomy(nil), []byte("ab")[:0]}
		for _, a := range none {
			for _, b := range none {
				if !Same(withData(f, a), withData(f, b)) {
					t.Fatalf("%v without Data isn't the same", f)
				}
			}
			for _, some := range [][]byte{{0}, {0, 0}, mixed(most)} {
				if Same(withData(f, a), withData(f, some)) || Same(withData(f, some), withData(f, a)) {
					t.Fatalf("%v without Data, and with %d bytes, is the same", f, len(some))
				}
			}
		}
	}
}

// P13.1: Same of fragments that differ in one field alone, in each bit, either way round.
func TestSameOfOtherField(t *testing.T) {
	for _, f := range append(frags(), api.Frag{}, api.Frag{Kind: math.MaxInt, Epoch: math.MaxUint32}, api.Frag{Kind: -1, Data: mixed(500)}) {
		same := withData(f, slices.Clone(f.Data))
		if !Same(f, same) || !Same(same, f) {
			t.Fatalf("%v isn't the same as it is", f)
		}
		for bit := range 64 {
			other := same
			other.Kind ^= 1 << bit
			if Same(f, other) || Same(other, f) {
				t.Fatalf("%v and one of the Kind %d are the same", f, other.Kind)
			}
		}
		for bit := range 32 {
			other := same
			other.Epoch ^= 1 << bit
			if Same(f, other) || Same(other, f) {
				t.Fatalf("%v and one of the Epoch %d are the same", f, other.Epoch)
			}
		}
	}
}

// P13.1: Same of fragments whose numbers are exchanged, or have the same sum.
func TestSameOfExchanged(t *testing.T) {
	f := api.Frag{Kind: 1, Epoch: 3, Data: []byte{2, 4}}
	for _, other := range []api.Frag{
		{Kind: 3, Epoch: 1, Data: []byte{2, 4}}, {Kind: 2, Epoch: 2, Data: []byte{2, 4}}, {Kind: 1, Epoch: 3, Data: []byte{4, 2}},
		{Kind: 1, Epoch: 3, Data: []byte{3, 3}}, {Kind: 1, Epoch: 3, Data: []byte{2}}, {Kind: 1, Epoch: 3, Data: []byte{4}}, {Kind: 1, Epoch: 3, Data: []byte{2, 4, 0}},
	} {
		if Same(f, other) || Same(other, f) {
			t.Errorf("%v and %v are the same", f, other)
		}
	}
}

// P13.1: Same of Data of each two lengths, the shorter one the longer one's beginning, either way round.
func TestSameOfLengths(t *testing.T) {
	all := mixed(600)
	f := api.Frag{Kind: 1, Epoch: 1}
	lengths := []int{0, 1, 2, 3, 4, 7, 8, 9, 15, 16, 17, 127, 128, 129, 196, 197, 198, 255, 256, 257, 599, 600}
	for _, i := range lengths {
		for _, k := range lengths {
			if got := Same(withData(f, all[:i]), withData(f, slices.Clone(all[:k]))); got != (i == k) {
				t.Errorf("Same of %d bytes and %d = %t", i, k, got)
			}
		}
	}
}

// P13.1: Same of Data that differ in one byte, at each place from the first to the last, in each bit.
func TestSameOfOtherByte(t *testing.T) {
	for _, n := range []int{1, 2, 3, 8, 17, most, 600} {
		f := api.Frag{Kind: 3, Epoch: 9, Data: mixed(n)}
		for i := range n {
			for bit := range 8 {
				other := withData(f, slices.Clone(f.Data))
				other.Data[i] ^= 1 << bit
				if Same(f, other) || Same(other, f) {
					t.Fatalf("of %d bytes one at %d turned in bit %d: the same", n, i, bit)
				}
			}
		}
	}
}

// P13.1: Same tells of any two fragments what the chapter's words tell, and changes neither.
func TestSameByWords(t *testing.T) {
	var l []api.Frag
	for i, f := range manyFrags(60) {
		for _, data := range [][]byte{nil, {0}, roomy([]byte{0, 0}), f.Data, append(slices.Clone(f.Data), 0)} {
			l = append(l, withData(f, data), api.Frag{Kind: i % 6, Epoch: uint32(i % 3), Data: data})
		}
	}
	for _, a := range l {
		for _, b := range l {
			wasA, wasB := whole(a.Data), whole(b.Data)
			if want := slowSame(a, b); Same(a, b) != want {
				t.Fatalf("Same of %v and %v = %t", a, b, !want)
			}
			if !slices.Equal(whole(a.Data), wasA) || !slices.Equal(whole(b.Data), wasB) {
				t.Fatalf("Same of %v and %v changed what was given", a, b)
			}
		}
	}
}
