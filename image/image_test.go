package image

import (
	"slices"
	"testing"

	"strandline/api"
)

// The chapter's example, and the limits.
func TestExample(t *testing.T) {
	l, ok := Places([][]byte{make([]byte, 10), make([]byte, 10)})
	if !ok || !slices.Equal(l, []int{0, 21}) {
		t.Errorf("Places = %v, %t", l, ok)
	}
	if api.Room != room || api.Data != sectors || api.BlockRoom != block || api.SegRoom != all || api.Head != head {
		t.Errorf("Room, Data, BlockRoom, SegRoom, Head = %d, %d, %d, %d, %d", api.Room, api.Data, api.BlockRoom, api.SegRoom, api.Head)
	}
}

// P17.1: no records: bytes 0, the end 0, no places, empty sectors.
func TestNone(t *testing.T) {
	for _, epoch := range epochs() {
		for _, l := range [][][]byte{nil, {}, recordsOf(1, 2)[:0]} {
			sameLaid(t, epoch, l, laid{body: make([]byte, 832), ok: true})
		}
		secs, ok := Sectors(epoch, nil)
		if !ok || !slices.Equal(secs, make([]api.Sec, 16)) {
			t.Errorf("Sectors(%d) of none = %v, %t", epoch, secs, ok)
		}
	}
}

// P17.1: bodies written out: all bytes but those that are told are 0.
func TestBodyWrittenOut(t *testing.T) {
	as := slices.Repeat([]byte{'a'}, 197)
	zeros := make([]byte, 186) // a record whose bytes, but for its head, are 0
	none := []byte{243, 172, 116, 188, 0, 0, 1, 3, 0, 0, 0}
	ab := []byte{232, 28, 235, 184, 2, 0, 1, 3, 0, 0, 0, 'a', 'b'}
	for _, c := range []struct {
		epoch    uint64
		l        [][]byte
		from, at int // from the first of the two on the bytes are told: 0 up to the second one
		bytes    []byte
		end      int
	}{
		{3, [][]byte{nil}, 0, 0, none, 11},
		{3, [][]byte{{}}, 0, 0, none, 11},
		{0, [][]byte{{}}, 0, 0, []byte{54, 241, 5, 174, 0, 0, 1, 0, 0, 0, 0}, 11},
		{1 << 32, [][]byte{{}}, 0, 0, []byte{54, 241, 5, 174, 0, 0, 1, 0, 0, 0, 0}, 11},
		{3, [][]byte{{'a', 'b'}, nil}, 0, 0, slices.Concat(ab, none), 24},
		{1<<32 + 3, [][]byte{nil, {'a', 'b'}, {}}, 0, 0, slices.Concat(none, ab, none), 35},
		{1<<32 - 1, [][]byte{{'a', 'b'}}, 0, 0, []byte{154, 245, 185, 41, 2, 0, 1, 255, 255, 255, 255, 'a', 'b'}, 13},
		{1<<64 - 1, [][]byte{{'a', 'b'}}, 0, 0, []byte{154, 245, 185, 41, 2, 0, 1, 255, 255, 255, 255, 'a', 'b'}, 13},
		{0x0807060504030201, [][]byte{{'a', 'b'}}, 0, 0, []byte{140, 135, 155, 85, 2, 0, 1, 1, 2, 3, 4, 'a', 'b'}, 13},
		{3, [][]byte{append(as, 'b')}, 0, 0, slices.Concat([]byte{110, 57, 241, 212, 197, 0, 2, 3, 0, 0, 0}, as, []byte{55, 105, 250, 249, 1, 0, 4, 3, 0, 0, 0, 'b'}), 220},
		// At 197 a head has just room, and behind it there is none of its block's.
		{3, [][]byte{zeros, {'c'}}, 11, 197, []byte{84, 61, 156, 26, 0, 0, 2, 3, 0, 0, 0, 96, 133, 243, 243, 1, 0, 4, 3, 0, 0, 0, 'c'}, 220},
		{3, [][]byte{zeros, nil}, 11, 197, none, 208},
		// At 41 a head has just room, at 42 not.
		{3, [][]byte{zeros[:30], {'a', 'b'}}, 11, 41, ab, 54},
		{3, [][]byte{zeros[:31], {'a', 'b'}}, 11, 52, ab, 65},
	} {
		want := slices.Concat(make([]byte, c.at-c.from), c.bytes, make([]byte, 832-c.at-len(c.bytes)))
		body, end, ok := Body(c.epoch, c.l)
		if !ok || len(body) != 832 || end != c.end || !slices.Equal(body[c.from:], want) {
			t.Errorf("Body(%d) of the lengths %v: %d, %t; from %d on %s", c.epoch, lengthsOf(c.l), end, ok, c.from, differ(body[min(c.from, len(body)):], want))
		}
	}
}

// P17.1: sectors written out: a stamp has all of the epoch, a fragment its lowest 32 bits, and what lies behind the end is empty.
func TestSectorsWrittenOut(t *testing.T) {
	first := api.Sec{1, 2, 3, 4, 5, 6, 7, 8, 0, 0, 0, 0, 140, 135, 155, 85, 2, 0, 1, 1, 2, 3, 4, 'a', 'b'}
	for _, c := range []struct {
		l    [][]byte
		want []api.Sec
	}{
		{[][]byte{{'a', 'b'}}, []api.Sec{first}},
		// 2 and 28 bytes with their heads end at 52, and 29 one behind it.
		{[][]byte{{'a', 'b'}, make([]byte, 28)}, []api.Sec{{}}},
		{[][]byte{{'a', 'b'}, make([]byte, 29)}, []api.Sec{{}, {1, 2, 3, 4, 5, 6, 7, 8, 1}}},
		// A head has no room behind 47 bytes, so the next record is in the next sector.
		{[][]byte{make([]byte, 36), {'a', 'b'}}, []api.Sec{{}, {1, 2, 3, 4, 5, 6, 7, 8, 1, 0, 0, 0, 140, 135, 155, 85, 2, 0, 1, 1, 2, 3, 4, 'a', 'b'}}},
	} {
		got, ok := Sectors(0x0807060504030201, c.l)
		if !ok || len(got) != 16 {
			t.Fatalf("Sectors of the lengths %v: %d, %t", lengthsOf(c.l), len(got), ok)
		}
		for i, s := range got {
			switch {
			case i >= len(c.want) && s != api.Sec{}:
				t.Errorf("Sectors of the lengths %v: sector %d = %v, not empty", lengthsOf(c.l), i, s)
			case i < len(c.want) && c.want[i] != api.Sec{} && s != c.want[i]:
				t.Errorf("Sectors of the lengths %v: sector %d = %v, not %v", lengthsOf(c.l), i, s, c.want[i])
			}
		}
	}
}

// P17.1: places, ends, and whether the records fit, written out.
func TestPlacesWrittenOut(t *testing.T) {
	for _, c := range []struct {
		lengths, places []int
		end             int
	}{
		{[]int{0}, []int{0}, 11},
		{[]int{1}, []int{0}, 12},
		{[]int{196}, []int{0}, 207},
		{[]int{197}, []int{0}, 208},
		{[]int{198}, []int{0}, 220},
		{[]int{394}, []int{0}, 416},
		{[]int{395}, []int{0}, 428},
		{[]int{591}, []int{0}, 624},
		{[]int{592}, []int{0}, 636},
		{[]int{787}, []int{0}, 831},
		{[]int{788}, []int{0}, 832},
		{[]int{0, 0, 0, 0, 0}, []int{0, 11, 22, 33, 52}, 63},
		{[]int{10, 10, 10}, []int{0, 21, 52}, 73},
		{[]int{30, 0}, []int{0, 41}, 52},
		{[]int{31, 0}, []int{0, 52}, 63},
		{[]int{41, 0}, []int{0, 52}, 63},
		{[]int{42, 0}, []int{0, 53}, 64},
		{[]int{186, 0}, []int{0, 197}, 208},
		{[]int{186, 1}, []int{0, 197}, 220},
		{[]int{187, 0}, []int{0, 208}, 219},
		{[]int{187, 1}, []int{0, 208}, 220},
		{[]int{197, 197}, []int{0, 208}, 416},
		{[]int{100, 600}, []int{0, 111}, 755},
		{[]int{400, 377}, []int{0, 433}, 832},
		{[]int{0, 777}, []int{0, 11}, 832},
		{[]int{777, 0}, []int{0, 821}, 832},
		{[]int{197, 197, 197, 197}, []int{0, 208, 416, 624}, 832},
		{[]int{197, 197, 197, 186, 0}, []int{0, 208, 416, 624, 821}, 832},
		{[]int{197, 197, 197, 175, 0}, []int{0, 208, 416, 624, 810}, 821},
		{[]int{197, 197, 197, 175, 0, 0}, []int{0, 208, 416, 624, 810, 821}, 832},
	} {
		want := slowLaid(5, recordsOf(c.lengths...))
		if !slices.Equal(want.places, c.places) || want.end != c.end || !want.ok {
			t.Errorf("of the lengths %v: the slow reading has %v, %d, %t", c.lengths, want.places, want.end, want.ok)
		}
		sameLaid(t, 5, recordsOf(c.lengths...), want)
	}
}

// P17.1: none, 0 and false, if the records don't all fit, written out.
func TestNotAll(t *testing.T) {
	for _, lengths := range [][]int{
		{789}, {790}, {832}, {833}, {5000}, {65536}, {65541}, {1 << 20}, {0, 778}, {778, 0}, {787, 0}, {788, 0}, {0, 788}, {400, 378}, {394, 395}, {788, 788},
		{197, 197, 197, 197, 0}, {197, 197, 197, 187, 0}, {197, 197, 197, 186, 1}, {197, 197, 197, 186, 0, 0}, {197, 197, 197, 175, 0, 0, 0},
	} {
		for _, epoch := range epochs() {
			sameLaid(t, epoch, recordsOf(lengths...), laid{})
		}
	}
}

// P17.1: a record of each length, by some epochs.
func TestOne(t *testing.T) {
	for n := range whole + 60 {
		for _, epoch := range []uint64{0, 1<<32 - 1, 1 << 32, 1<<64 - 1, epochs()[n%len(epochs())]} {
			l := recordsOf(n)
			want := slowLaid(epoch, l)
			if want.ok != (n <= whole) {
				t.Fatalf("a record of %d bytes: %t", n, want.ok)
			}
			sameLaid(t, epoch, l, want)
		}
	}
}

// P17.1: records of the lengths at the bounds, and too long ones, by all epochs.
func TestEpochs(t *testing.T) {
	for _, epoch := range epochs() {
		for _, n := range append(lengths(), tooLong()...) {
			for _, l := range [][][]byte{recordsOf(n), recordsOf(0, n, 0), recordsOf(n, 40, 186)} {
				sameLaid(t, epoch, l, slowLaid(epoch, l))
			}
		}
	}
}

// P17.1: many short records that fill a segment just to its end, and one more.
func TestFull(t *testing.T) {
	for _, c := range []struct{ n, count, end int }{
		{0, 64, 824}, {1, 64, 828}, {2, 64, 832}, {15, 32, 832}, {41, 16, 832}, {93, 8, 832}, {197, 4, 832}, {788, 1, 832}, {3, 48, 822}, {40, 16, 831}, {10, 32, 822},
	} {
		for _, epoch := range epochs() {
			for _, more := range []int{0, 1, 2} {
				l := recordsOf(many(c.count+more, c.n)...)
				want := slowLaid(epoch, l)
				if want.ok != (more == 0) || want.ok && want.end != c.end {
					t.Fatalf("%d records of %d bytes: %d, %t", c.count+more, c.n, want.end, want.ok)
				}
				sameLaid(t, epoch, l, want)
			}
		}
	}
}

// P17.1: so many records that a segment has room for a few of the first ones alone.
func TestFarTooMany(t *testing.T) {
	for _, l := range [][][]byte{make([][]byte, 1<<20), recordsOf(many(1000, 20)...), slices.Repeat([][]byte{make([]byte, 1<<20)}, 100)} {
		sameLaid(t, 9, l, laid{})
	}
}

// P17.1: lists of all kinds.
func TestLists(t *testing.T) {
	for i, l := range lists() {
		for _, epoch := range []uint64{epochs()[i%len(epochs())], 1<<64 - 1} {
			sameLaid(t, epoch, l, slowLaid(epoch, l))
		}
	}
}

// P17.1: none, 0 and false, whichever record is the first one that doesn't fit, and whatever stands behind it.
func TestFirstThatDoesNotFit(t *testing.T) {
	for _, fit := range [][]int{{0, 0, 0, 0, 0, 0}, {10, 20, 30, 40, 50, 60}, {197, 0, 186, 1}, {41, 41, 0}} {
		sameLaid(t, 6, recordsOf(fit...), slowLaid(6, recordsOf(fit...)))
		for at := range len(fit) + 1 {
			for _, n := range tooLong() {
				sameLaid(t, 6, recordsOf(slices.Insert(slices.Clone(fit), at, n)...), laid{})
			}
		}
	}
	// The last one of these is the first that doesn't fit, by one byte.
	for _, l := range [][]int{{778, 0}, {778, 0, 0}, {777, 1}, {777, 1, 0}, {788, 0, 0, 0}} {
		sameLaid(t, 6, recordsOf(l...), laid{})
	}
}

// P17.1: of two records the longest second one that fits, and one that is longer by one, behind each length of the first one.
func TestTwo(t *testing.T) {
	for n := range whole + 1 {
		second := -1
		for more := 0; more <= whole; more++ {
			if _, _, ok := pieces(n+head*(1+max(n-1, 0)/most), more); !ok {
				break
			}
			second = more
		}
		for _, more := range []int{0, second - 1, second, second + 1} {
			if more < 0 {
				continue
			}
			l := recordsOf(n, more)
			want := slowLaid(11, l)
			if want.ok != (more <= second) {
				t.Fatalf("records of %d and %d bytes: %t", n, more, want.ok)
			}
			sameLaid(t, 11, l, want)
		}
	}
}

// What is gone over: each record once, with its place and the place behind, and none behind the first that doesn't fit.
func TestRecords(t *testing.T) {
	var places, behinds []int
	var fit []bool
	for r, fits := range records(recordsOf(10, 197, 789, 0, 0)) {
		places, behinds, fit = append(places, r.place), append(behinds, r.behind), append(fit, fits)
	}
	if !slices.Equal(places, []int{0, 21, 240}) || !slices.Equal(behinds, []int{21, 240, 0}) || !slices.Equal(fit, []bool{true, true, false}) {
		t.Errorf("records = %v, %v, %v", places, behinds, fit)
	}
	for r, fits := range records(recordsOf(10, 20)) {
		if r.place != 0 || !fits {
			t.Errorf("records goes on behind a break, at %d", r.place)
		}
		break
	}
}
