package header

import (
	"math"
	"testing"

	"strandline/api"
)

// example is a header with a number of its own in each field.
func example() api.Header {
	return api.Header{Epoch: 0x0102030405060708, Seq: 258, First: 0x01020304, Heads: [heads]int{0, 1, 300, 0x01020303}}
}

// written are headers with their sectors' bytes up to the sum's end, written out.
func written() []struct {
	h api.Header
	b [fields]byte
} {
	return []struct {
		h api.Header
		b [fields]byte
	}{
		{
			api.Header{Epoch: 1, Seq: 1, First: 1},
			[fields]byte{115, 116, 114, 100, 1, 1, 0, 0, 0, 0, 0, 0, 0, 1, 0, 0, 0, 1, 0, 0, 0, 0, 0, 0, 0, 0, 0, 0, 0, 0, 0, 0, 0, 0, 0, 0, 0, 181, 209, 131, 206},
		},
		{
			example(),
			[fields]byte{115, 116, 114, 100, 1, 8, 7, 6, 5, 4, 3, 2, 1, 2, 1, 0, 0, 4, 3, 2, 1, 0, 0, 0, 0, 1, 0, 0, 0, 44, 1, 0, 0, 3, 3, 2, 1, 199, 87, 17, 95},
		},
		{
			api.Header{Epoch: 1<<64 - 1, Seq: mostLSN, First: mostLSN, Heads: [heads]int{mostLSN - 1, 0, mostLSN - 1, 1}},
			[fields]byte{115, 116, 114, 100, 1, 255, 255, 255, 255, 255, 255, 255, 255, 255, 255, 255, 127, 255, 255, 255, 127, 254, 255, 255, 127, 0, 0, 0, 0, 254, 255, 255, 127, 1, 0, 0, 0, 96, 92, 114, 10},
		},
	}
}

// The chapter's example, some beside it, and the limits.
func TestExample(t *testing.T) {
	noDecode(t, "an empty sector", api.Sec{}, api.ErrNone)
	for _, c := range written() {
		var want api.Sec
		copy(want[:], c.b[:])
		if s, e := Encode(c.h); s != want || e != api.OK || !Right(c.h) {
			t.Errorf("Encode of %v = %v, %d", c.h, s, e)
		}
		sameDecode(t, "written out", want, c.h, api.OK)
	}
	if api.MaxLSN != mostLSN || api.MaxChains != heads || api.Sector != sector {
		t.Errorf("MaxLSN, MaxChains, Sector = %d, %d, %d", api.MaxLSN, api.MaxChains, api.Sector)
	}
}

// P18.1: Right of each Epoch, with the other fields right: just 0 isn't.
func TestRightEpoch(t *testing.T) {
	for _, epoch := range epochs() {
		for _, h := range []api.Header{{Seq: 1, First: 1}, {Seq: mostLSN, First: mostLSN, Heads: [heads]int{mostLSN - 1, 0, 1, 2}}, example()} {
			h.Epoch = epoch
			if Right(h) != (epoch != 0) {
				t.Errorf("Right of %v = %t", h, Right(h))
			}
		}
	}
	for bit := range 64 {
		if !Right(api.Header{Epoch: 1 << bit, Seq: 1, First: 1}) {
			t.Errorf("Right of the Epoch 2^%d = false", bit)
		}
	}
}

// P18.1: Right at the bounds of Seq, First and each of Heads, written out, with the others right.
func TestRight(t *testing.T) {
	for _, c := range []struct {
		seq, first, head int
		want             bool
	}{
		{math.MinInt, 9, 8, false}, {-1, 9, 8, false}, {0, 9, 8, false},
		{1, 9, 8, true}, {2, 9, 8, true}, {2147483646, 9, 8, true}, {2147483647, 9, 8, true},
		{2147483648, 9, 8, false}, {1<<32 + 1, 9, 8, false}, {math.MaxInt, 9, 8, false},

		{5, math.MinInt, 0, false}, {5, math.MinInt + 1, 0, false}, {5, -1, 0, false}, {5, 0, 0, false},
		{5, 1, 0, true}, {5, 2, 0, true}, {5, 2147483646, 0, true}, {5, 2147483647, 0, true},
		{5, 2147483648, 0, false}, {5, 1<<32 + 1, 0, false}, {5, math.MaxInt, 0, false},
		// Ahead of a First that isn't right there is no right head, wherever First less 1 comes out.
		{5, math.MinInt, math.MaxInt, false}, {5, math.MinInt, math.MinInt, false}, {5, 0, -1, false}, {5, -1, -2, false}, {5, 2147483648, 2147483647, false}, {5, math.MaxInt, math.MaxInt - 1, false},

		{5, 1, math.MinInt, false}, {5, 1, -1, false}, {5, 1, 0, true}, {5, 1, 1, false}, {5, 1, 2, false}, {5, 1, math.MaxInt, false},
		{5, 2, -1, false}, {5, 2, 0, true}, {5, 2, 1, true}, {5, 2, 2, false}, {5, 2, 3, false},
		{5, 300, -1 << 32, false}, {5, 300, -256, false}, {5, 300, 298, true}, {5, 300, 299, true}, {5, 300, 300, false}, {5, 300, 301, false}, {5, 300, 1 << 32, false}, {5, 300, 1<<32 + 299, false},
		{5, 2147483647, math.MinInt, false}, {5, 2147483647, -1, false}, {5, 2147483647, 0, true}, {5, 2147483647, 2147483645, true}, {5, 2147483647, 2147483646, true},
		{5, 2147483647, 2147483647, false}, {5, 2147483647, 2147483648, false}, {5, 2147483647, 1 << 32, false}, {5, 2147483647, math.MaxInt, false},

		// A head is held against First, not against Seq.
		{1, 100, 50, true}, {100, 1, 50, false},
	} {
		for place := range heads {
			h := api.Header{Epoch: 7, Seq: c.seq, First: c.first}
			h.Heads[place] = c.head
			if Right(h) != c.want {
				t.Errorf("Right of %v = %t", h, !c.want)
			}
			if all := withHeads(h, c.head); Right(all) != c.want {
				t.Errorf("Right of %v = %t", all, !c.want)
			}
			h.Epoch = 0
			if Right(h) {
				t.Errorf("Right of %v = true", h)
			}
		}
	}
}

// P18.1: Right of each small number in each field, and of those about the greatest, with the others right.
func TestRightOfEach(t *testing.T) {
	for n := -600; n <= 600; n++ {
		for _, c := range []struct {
			h    api.Header
			want bool
		}{
			{api.Header{Epoch: 1, Seq: n, First: 1}, n >= 1},
			{api.Header{Epoch: 1, Seq: mostLSN + n, First: 1}, n <= 0},
			{api.Header{Epoch: 1, Seq: 1, First: n}, n >= 1},
			{api.Header{Epoch: 1, Seq: 1, First: mostLSN + n}, n <= 0},
			{withHeads(api.Header{Epoch: 1, Seq: 1, First: 500}, n), n >= 0 && n <= 499},
			{withHeads(api.Header{Epoch: 1, Seq: 1, First: mostLSN}, mostLSN+n), n <= -1},
			{withHeads(api.Header{Epoch: 1, Seq: 1, First: n}, n), false},
			{withHeads(api.Header{Epoch: 1, Seq: 1, First: n}, n-1), n >= 1},
			{withHeads(api.Header{Epoch: 1, Seq: n, First: n}, n-1), n >= 1},
		} {
			if Right(c.h) != c.want {
				t.Errorf("Right of %v = %t", c.h, !c.want)
			}
			for place := range heads {
				one := withHeads(c.h, 0)
				one.Heads[place] = c.h.Heads[place]
				if Right(one) != slowRight(one) || slowRight(c.h) != c.want {
					t.Errorf("Right of %v = %t", one, Right(one))
				}
			}
		}
	}
}

// P18.1: Right and Encode tell of each header what the chapter's words tell.
func TestByWords(t *testing.T) {
	right, wrong := 0, 0
	for _, h := range append(headers(), manyHeaders(20000)...) {
		want := slowRight(h)
		if Right(h) != want {
			t.Fatalf("Right of %v = %t", h, !want)
		}
		s, e := Encode(h)
		if want {
			right++
			if s != slowSector(h) || e != api.OK {
				t.Fatalf("Encode of %v = %v, %d", h, s, e)
			}
			continue
		}
		wrong++
		if s != (api.Sec{}) || e != api.ErrArg {
			t.Fatalf("Encode of %v = %v, %d", h, s, e)
		}
	}
	if right < 20000 || wrong < 20000 {
		t.Errorf("just %d headers are right, %d aren't", right, wrong)
	}
}

// P18.1: each byte of each number stands at its own place, and moves no other one but the sum's.
func TestEncodePlaces(t *testing.T) {
	base := api.Header{Epoch: 1 << 63, Seq: 1 << 30, First: 1<<30 + 1<<29}
	was, _ := Encode(base)
	for k := range 7 {
		count := 31
		if k == 0 {
			count = 63
		}
		for bit := range count {
			h, at := base, 13+4*(k-1)+bit/8
			switch k {
			case 0:
				h.Epoch, at = h.Epoch^1<<bit, 5+bit/8
			case 1:
				h.Seq ^= 1 << bit
			case 2:
				h.First |= 1 << bit
			default:
				h.Heads[k-3] ^= 1 << bit
			}
			s, e := Encode(h)
			if !slowRight(h) {
				continue
			}
			if e != api.OK {
				t.Fatalf("Encode of %v: %d", h, e)
			}
			for i := range sector {
				if (i < 37 || i > 40) && (s[i] != was[i]) != (i == at && h != base) {
					t.Fatalf("Encode of %v: the byte %d is %d, where %d stood", h, i, s[i], was[i])
				}
			}
		}
	}
}

// P18.1: of headers that differ in one field the sectors differ.
func TestEncodeUnlike(t *testing.T) {
	seen := map[api.Sec]api.Header{}
	for _, h := range rightHeaders() {
		s, _ := Encode(h)
		if other, ok := seen[s]; ok && other != h {
			t.Fatalf("%v and %v have one sector", h, other)
		}
		seen[s] = h
	}
	if len(seen) < 10000 {
		t.Errorf("just %d sectors", len(seen))
	}
}

// P18.1: what was given stays as it was, and what is answered stands apart from it, and from what was answered ahead.
func TestApart(t *testing.T) {
	for _, h := range append(headers()[:3000], manyHeaders(500)...) {
		given := h
		first, firstE := Encode(given)
		kept := first
		Right(given)
		Newer(given, given)
		if given != h {
			t.Fatalf("%v is %v", h, given)
		}
		given.Heads = [heads]int{9, 9, 9, 9}
		for i := range first {
			first[i] ^= 255
		}
		if s, e := Encode(h); s != kept || e != firstE {
			t.Fatalf("Encode of %v once more = %v, %d", h, s, e)
		}
		s := kept
		got, e := Decode(s)
		if s != kept {
			t.Fatalf("Decode has changed %v", kept)
		}
		was := got
		for i := range s {
			s[i] ^= 255
		}
		got.Heads[3]++
		got.Epoch++
		sameDecode(t, "once more", kept, was, e)
	}
}
