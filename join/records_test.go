package join

import (
	"slices"
	"testing"

	"strandline/api"
	"strandline/cut"
	"strandline/frag"
)

// P15.3: a record of each length, cut from each place on from which it fits: that record.
func TestCutIsJoined(t *testing.T) {
	all := scatter(most)
	count := 0
	for at := range api.SegRoom + 1 {
		for n := range most + 1 {
			l, ok := cut.Frags(uint32(at), at, all[:n])
			if !ok {
				continue
			}
			got, e := Join(l)
			if len(got) != 1 || !slices.Equal(got[0], all[:n]) || e != api.OK {
				t.Fatalf("%d bytes cut from %d on: %d records, %d", n, at, len(got), e)
			}
			count++
		}
	}
	if count < 200000 {
		t.Errorf("just %d records", count)
	}
}

// P15.3: a record whose bytes are 0, 127, 128, 255 and others, fed one by one, from blocks' last places on: nothing, but by the last one.
func TestCutIsFed(t *testing.T) {
	for block := range api.Blocks {
		for at := block*api.BlockRoom + api.BlockRoom - 30; at <= (block+1)*api.BlockRoom; at++ {
			for n := range most + 1 {
				l, _ := cut.Frags(7, at, mixed(n))
				j := New()
				for i, f := range l {
					got, ok, e := j.Feed(f)
					end := i == len(l)-1
					if ok != end || e != api.OK || j.Idle() != end || !end && len(got) != 0 || end && !slices.Equal(got, mixed(n)) {
						t.Fatalf("%d bytes cut from %d on: the %dth Feed tells %d bytes, %t, %d", n, at, i, len(got), ok, e)
					}
				}
			}
		}
	}
}

// cutAll cuts records one behind the other, from the place at on; one that doesn't fit any more is cut from another body's beginning on.
func cutAll(t *testing.T, at int, records [][]byte) []api.Frag {
	t.Helper()
	var all []api.Frag
	for i, r := range records {
		if !cut.Fits(at, len(r)) {
			at = 0
		}
		l, ok := cut.Frags(uint32(i), at, r)
		_, behind, _ := cut.Cut(at, len(r))
		if !ok {
			t.Fatalf("%d bytes don't fit at %d", len(r), at)
		}
		all, at = append(all, l...), behind
	}
	return all
}

// lengths are some of records, the bounds among them, in an order that looks like any.
func lengths(count int) []int {
	l := []int{0, 512, 0, 0, 197, 198, 511, 1, 196, 394, 395, 186, 41, 42}
	numbers := scatter(2 * count)
	for i := range count {
		l = append(l, (int(numbers[2*i])|int(numbers[2*i+1])<<8)%(most+1))
	}
	return l
}

// P15.3: many records behind one another, from each place of a block on: the same ones, in order.
func TestManyAreJoined(t *testing.T) {
	var records [][]byte
	data := scatter(most + 300)
	for i, n := range lengths(100) {
		records = append(records, data[i:i+n])
	}
	for at := range api.SegRoom + 1 {
		l := cutAll(t, at, records)
		got, e := Join(l)
		if !sameRecords(got, records) || e != api.OK {
			t.Fatalf("from %d on: %d records, %d", at, len(got), e)
		}
	}
}

// P15.3: records without bytes and of one byte behind one another, over blocks' bounds.
func TestSmallOnesAreJoined(t *testing.T) {
	for n := range 3 {
		for at := range api.BlockRoom {
			records := slices.Repeat([][]byte{mixed(n), nil, mixed(1)}, 40)
			got, e := Join(cutAll(t, at, records))
			if !sameRecords(got, records) || e != api.OK {
				t.Fatalf("from %d on: %d records, %d", at, len(got), e)
			}
		}
	}
}

// P15.3: fragments that were encoded, and decoded again.
func TestDecodedAreJoined(t *testing.T) {
	var records [][]byte
	for _, n := range lengths(60) {
		records = append(records, mixed(n))
	}
	for at := 0; at <= api.SegRoom; at += 3 {
		var l []api.Frag
		for _, f := range cutAll(t, at, records) {
			b, _ := frag.Encode(f)
			got, _, e := frag.Decode(b, f.Epoch)
			if e != api.OK {
				t.Fatalf("from %d on: %v is decoded with %d", at, f, e)
			}
			l = append(l, got)
		}
		if got, e := Join(l); !sameRecords(got, records) || e != api.OK {
			t.Fatalf("from %d on: %d records, %d", at, len(got), e)
		}
	}
}

// P15.3: a record of more bytes than there may be is cut, but it is none when it is joined.
func TestLongIsNotJoined(t *testing.T) {
	for at := range 250 {
		for n := most + 1; cut.Fits(at, n); n += 11 {
			l, _ := cut.Frags(1, at, mixed(n))
			if got, e := Join(l); len(got) != 0 || e != api.ErrLong {
				t.Fatalf("%d bytes cut from %d on: %d records, %d", n, at, len(got), e)
			}
		}
	}
}

// P15.3: of fragments of records, of which one lacks or stands twice, no other record comes than theirs, as far as kinds tell: by the chapter's words.
func TestLackingOnes(t *testing.T) {
	var records [][]byte
	for _, n := range []int{3, 300, 0, 500, 40, 512, 1} {
		records = append(records, mixed(n))
	}
	for at := range api.BlockRoom {
		l := cutAll(t, at, records)
		for i := range l {
			lacking := slices.Delete(slices.Clone(l), i, i+1)
			twice := slices.Insert(slices.Clone(l), i, l[i])
			for _, other := range [][]api.Frag{lacking, twice, l[:i], l[i:]} {
				want, wantE := slowJoin(other)
				if got, e := Join(other); !sameRecords(got, want) || e != wantE {
					t.Fatalf("from %d on, by the %dth one: %d records, %d, not %d, %d", at, i, len(got), e, len(want), wantE)
				}
			}
		}
	}
}
