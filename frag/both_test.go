package frag

import (
	"slices"
	"testing"

	"strandline/api"
)

// P13.3: what was encoded is decoded by its own epoch, whatever stands behind it, and by no other one.
func TestEncodedIsDecoded(t *testing.T) {
	numbers := scatter(4000)
	for i, f := range append(frags(), manyFrags(3000)...) {
		b, e := Encode(f)
		if e != api.OK || len(b) != headSize+len(f.Data) {
			t.Fatalf("Encode of %v = %v, %d", f, b, e)
		}
		other := uint32(numbers[i])
		for _, behind := range [][]byte{nil, {0}, make([]byte, 30), mixed(1 + i%250), b} {
			long := slices.Concat(b, behind)
			got, n, e := Decode(long, f.Epoch)
			if !Same(got, f) || !slowSame(got, f) || n != len(b) || e != api.OK {
				t.Fatalf("%v is decoded as %v, %d, %d", f, got, n, e)
			}
			for _, epoch := range []uint32{f.Epoch + 1, f.Epoch - 1, f.Epoch ^ 1<<31, f.Epoch ^ 1<<(i%32), other} {
				if got, n, e := Decode(long, epoch); epoch != f.Epoch && (!slowSame(got, api.Frag{}) || n != 0 || e != api.ErrForm) {
					t.Fatalf("%v is decoded by %d as %v, %d, %d", f, epoch, got, n, e)
				}
			}
		}
	}
}

// P13.3: what is decoded is encoded by the same bytes.
func TestDecodedIsEncoded(t *testing.T) {
	decoded := 0
	for _, b := range texts() {
		if len(b) < headSize {
			continue
		}
		epoch := uint32(b[7]) | uint32(b[8])<<8 | uint32(b[9])<<16 | uint32(b[10])<<24
		f, n, e := Decode(b, epoch)
		if e != api.OK {
			continue
		}
		if again, e := Encode(f); n > len(b) || !slices.Equal(again, b[:n]) || e != api.OK {
			t.Fatalf("%v is decoded as %v, encoded as %v, %d", b, f, again, e)
		}
		decoded++
	}
	if decoded < 5000 {
		t.Errorf("just %d texts are decoded", decoded)
	}
}

// notDecoded fails, if bytes of which some of Kind, Epoch and Data were changed are decoded: by the epoch that they had, or by the one that they have now.
func notDecoded(t *testing.T, b []byte, epoch uint32) {
	t.Helper()
	now := uint32(b[7]) | uint32(b[8])<<8 | uint32(b[9])<<16 | uint32(b[10])<<24
	for _, asked := range []uint32{epoch, now} {
		if f, n, e := Decode(b, asked); !slowSame(f, api.Frag{}) || n != 0 || e != api.ErrForm && e != api.ErrSum {
			t.Fatalf("%v is decoded by %d as %v, %d, %d", b, asked, f, n, e)
		}
	}
}

// P13.3: one byte of Kind, Epoch or Data, at each place, changed in each way.
func TestOneByteChanged(t *testing.T) {
	for _, n := range []int{0, 1, 5, 40, 196, 197} {
		f := api.Frag{Kind: 1 + n%4, Epoch: uint32(n) << 13, Data: mixed(n)}
		b := slowBytes(f)
		for at := 6; at < len(b); at++ {
			for x := 1; x < 256; x++ {
				b[at] ^= byte(x)
				notDecoded(t, b, f.Epoch)
				b[at] ^= byte(x)
			}
		}
	}
}

// P13.3: two to four bytes next to one another of Kind, Epoch or Data, at each place, changed in many ways.
func TestBytesChanged(t *testing.T) {
	// The sum's polynomial, its turned form, and what its steps begin with: such as a sum that is made another way would miss.
	ways := []uint64{0x82f63b78, 0x783bf682, 0x1edc6f41, 0x416fdc1e, 0xffffffff, 0x80000000, 0x80000001, 0x01010101, 0x05ec76f1, 0x00018001, 0x00800180}
	ways = append(ways, scatter(120)...)
	for bit := range 32 {
		ways = append(ways, 1<<bit, 3<<bit, 1<<bit^1, 1<<bit^0x80000000)
	}
	changes := 0
	for _, f := range append(manyFrags(12), api.Frag{Kind: 1}, api.Frag{Kind: 2, Epoch: 1, Data: mixed(1)}, api.Frag{Kind: 4, Data: make([]byte, 197)}) {
		b := slowBytes(f)
		for width := 2; width <= 4; width++ {
			for at := 6; at+width <= len(b); at++ {
				for _, way := range ways {
					changed := slices.Clone(b)
					for i := range width {
						changed[at+i] ^= byte(way >> (8 * i))
					}
					if slices.Equal(changed, b) {
						continue
					}
					notDecoded(t, changed, f.Epoch)
					changes++
				}
			}
		}
	}
	if changes < 500000 {
		t.Errorf("just %d changes", changes)
	}
}

// P13.3: two bytes of Data next to one another, changed in all ways.
func TestTwoBytesChanged(t *testing.T) {
	f := api.Frag{Kind: 3, Epoch: 77, Data: []byte{0, 127, 128, 255, 9}}
	b := slowBytes(f)
	for at := 6; at+2 <= len(b); at++ {
		for x := 1; x < 1<<16; x++ {
			b[at] ^= byte(x)
			b[at+1] ^= byte(x >> 8)
			notDecoded(t, b, f.Epoch)
			b[at] ^= byte(x)
			b[at+1] ^= byte(x >> 8)
		}
	}
}
