package header

import (
	"testing"

	"strandline/api"
)

// P18.3: what is encoded is decoded.
func TestEncodedIsDecoded(t *testing.T) {
	for _, h := range append(rightHeaders(), manyHeaders(20000)...) {
		s, e := Encode(h)
		if e != api.OK {
			t.Fatalf("Encode of %v: %d", h, e)
		}
		sameDecode(t, "what is encoded", s, h, api.OK)
	}
}

// P18.3: what is decoded is encoded to the same sector.
func TestDecodedIsEncoded(t *testing.T) {
	decoded := 0
	for _, s := range anySectors(20000) {
		h, e := Decode(s)
		if e != api.OK {
			continue
		}
		if again, e := Encode(h); again != s || e != api.OK || !Right(h) {
			t.Fatalf("%v is decoded as %v, encoded as %v, %d", s, h, again, e)
		}
		decoded++
	}
	if decoded < 10000 {
		t.Errorf("just %d sectors are decoded", decoded)
	}
}

// changedHeaders are headers whose sectors the tests change.
func changedHeaders() []api.Header {
	return append(manyHeaders(6), example(), api.Header{Epoch: 1, Seq: 1, First: 1}, withHeads(api.Header{Epoch: 1<<64 - 1, Seq: mostLSN, First: mostLSN}, mostLSN-1))
}

// meant tells whether so many bytes from that place on are all among the first 37, or none of them among these.
func meant(at, count int) bool {
	return at+count <= before || at >= before
}

// notDecoded fails, if s, of which bytes were changed from that place on, is a header's.
func notDecoded(t *testing.T, s api.Sec, at int) {
	t.Helper()
	if h, e := Decode(s); h != (api.Header{}) || e != api.ErrForm && e != api.ErrSum {
		t.Fatalf("changed at %d, %v is decoded as %v, %d", at, s, h, e)
	}
}

// P18.3: one byte, at each place, changed in each way.
func TestOneByteChanged(t *testing.T) {
	for _, h := range changedHeaders() {
		for at := range sector {
			for x := 1; x < 256; x++ {
				s := slowSector(h)
				s[at] ^= byte(x)
				notDecoded(t, s, at)
			}
		}
	}
}

// P18.3: two bytes next to one another, at each place, changed in all ways.
func TestTwoBytesChanged(t *testing.T) {
	right := slowSector(example())
	for at := range sector - 1 {
		if !meant(at, 2) {
			continue
		}
		for way := 1; way < 1<<16; way++ {
			s := right
			s[at] ^= byte(way)
			s[at+1] ^= byte(way >> 8)
			notDecoded(t, s, at)
		}
	}
}

// ways are four bytes of changes: the sum's polynomial, its turned form, and what its steps begin with, such as a sum that is made another way would miss; single bits and pairs; and many that look like any.
func ways() []uint64 {
	l := []uint64{0x82f63b78, 0x783bf682, 0x1edc6f41, 0x416fdc1e, 0xffffffff, 0x80000000, 0x80000001, 0x01010101, 0x05ec76f1, 0x00018001, 0x00800180, 0x00ff00ff}
	for bit := range 32 {
		l = append(l, 1<<bit, 3<<bit, 1<<bit^1, 1<<bit^0x80000000)
	}
	return append(l, scatter(300)...)
}

// P18.3: two to four bytes next to one another, at each place, changed in many ways.
func TestBytesChanged(t *testing.T) {
	changes := 0
	for _, h := range changedHeaders() {
		right := slowSector(h)
		for count := 2; count <= 4; count++ {
			for at := range sector - count + 1 {
				if !meant(at, count) {
					continue
				}
				for _, way := range ways() {
					s := right
					for i := range count {
						s[at+i] ^= byte(way >> (8 * i))
					}
					if s == right {
						continue
					}
					notDecoded(t, s, at)
					changes++
				}
			}
		}
	}
	if changes < 500000 {
		t.Errorf("just %d changes", changes)
	}
}

// P18.3: up to four bytes next to one another set to 0, to 255, to one another's, or moved by one place.
func TestBytesSet(t *testing.T) {
	for _, h := range append(changedHeaders(), manyHeaders(300)...) {
		right := slowSector(h)
		for count := 1; count <= 4; count++ {
			for at := range sector - count + 1 {
				if !meant(at, count) {
					continue
				}
				var zero, full, turned, moved = right, right, right, right
				for i := range count {
					zero[at+i], full[at+i] = 0, 255
					turned[at+i], moved[at+i] = right[at+count-1-i], right[at+(i+1)%count]
				}
				for _, s := range []api.Sec{zero, full, turned, moved} {
					if s != right {
						notDecoded(t, s, at)
					}
				}
			}
		}
	}
}

// P18.3: a header that stands for another one isn't made by a change of up to four bytes: one number changed, and the sum left.
func TestOneNumberChanged(t *testing.T) {
	for _, h := range manyHeaders(300) {
		right := slowSector(h)
		for _, other := range manyHeaders(40) {
			next := slowSector(other)
			for at := 5; at+4 <= before; at += 4 {
				s := right
				copy(s[at:at+4], next[at:])
				if s != right {
					notDecoded(t, s, at)
				}
			}
		}
	}
}
