package tear

import (
	"math"
	"slices"
	"testing"

	"strandline/api"
)

// P20.1: the example: free of what was laid.
func TestExample(t *testing.T) {
	recs := [][]byte{[]byte("one"), make([]byte, 300), []byte("three")}
	s := lay(t, 9, recs)
	if !Free(9, recs, s.secs) {
		t.Error("what was laid isn't free of collisions")
	}
	if l := Clashes(9, recs, s.secs); len(l) != 0 {
		t.Errorf("in what was laid %v clash", l)
	}
}

// one is a sector of the epoch 5, whose room begins with those bytes.
func one(room ...byte) []api.Sec {
	return []api.Sec{stamped(5, 0, room)}
}

// P20.1: of sectors whose bytes are written out: of the epoch 5 and the one record of the byte 1.
func TestWrittenOut(t *testing.T) {
	recs := [][]byte{{1}}
	clash(t, "the intended one", 5, recs, one(0x0f, 0xeb, 0xd8, 0x8f, 1, 0, 1, 5, 0, 0, 0, 1))
	clash(t, "of other Data", 5, recs, one(0x6e, 0x11, 0x41, 0xad, 1, 0, 1, 5, 0, 0, 0, 2), 0)
	clash(t, "of another Kind", 5, recs, one(0x26, 0x54, 0x65, 0x1d, 1, 0, 2, 5, 0, 0, 0, 1), 0)
	clash(t, "of no Data", 5, recs, one(0x69, 0x35, 0x97, 0xdf, 0, 0, 1, 5, 0, 0, 0), 0)
	clash(t, "of more Data", 5, recs, one(0xf8, 0xca, 0xa9, 0x56, 2, 0, 1, 5, 0, 0, 0, 1, 0), 0)
	clash(t, "of another epoch", 5, recs, one(0xc9, 0xa1, 0xd9, 0x0d, 1, 0, 1, 6, 0, 0, 0, 2))
	clash(t, "of another sum", 5, recs, one(0x6e, 0x11, 0x41, 0xac, 1, 0, 1, 5, 0, 0, 0, 2))
	clash(t, "of no Kind", 5, recs, one(0xce, 0xe3, 0x10, 0x7f, 1, 0, 0, 5, 0, 0, 0, 2))
	clash(t, "of a greater Kind", 5, recs, one(0x54, 0x2e, 0xd4, 0x06, 1, 0, 5, 5, 0, 0, 0, 2))
	clash(t, "of bytes 0", 5, recs, one())
	clash(t, "of no sectors", 5, recs, nil)
}

// P20.1: the places of several that clash are told, rising, written out.
func TestPlacesWrittenOut(t *testing.T) {
	s := lay(t, 9, [][]byte{make([]byte, 10), make([]byte, 20), make([]byte, 160), make([]byte, 400)})
	if l := s.places(); !slices.Equal(l, []int{0, 21, 52, 208, 234, 416, 624}) {
		t.Fatalf("the places are %v", l)
	}
	body := slices.Clone(s.body)
	for _, at := range []int{624, 21, 416} {
		copy(body[at:], fragment(3, 9, []byte("other")))
	}
	s.clash(t, "three others", sealed(9, body, all), 21, 416, 624)
	copy(body[:], fragment(4, 9, nil))
	s.clash(t, "four others", sealed(9, body, all), 0, 21, 416, 624)
}

// P20.1: of no records nothing clashes, whatever the sectors are.
func TestNoRecords(t *testing.T) {
	for i, s := range segments(t) {
		for _, none := range [][][]byte{nil, {}} {
			clash(t, "no records", s.epoch, none, s.secs)
			clash(t, "no records", s.epoch, none, s.secs[:i%sectors])
			clash(t, "no records", epochOf(i+1), none, s.secs)
		}
	}
	clash(t, "no records", 7, nil, nil)
}

// allSegments are all that the tests lay.
func allSegments(t *testing.T) []segment {
	t.Helper()
	return append(segments(t), everyLength(t)...)
}

// P20.1: what was laid is free of collisions, whatever its records' bytes are, by its own epoch.
func TestLaid(t *testing.T) {
	for _, s := range allSegments(t) {
		s.clash(t, "as they were laid", s.secs)
	}
}

// P20.1: what was laid by another epoch, and by one that differs above its lowest 32 bits alone, tells nothing.
func TestOtherEpoch(t *testing.T) {
	for i, s := range allSegments(t) {
		for _, other := range []uint64{s.epoch + 1, s.epoch - 1, s.epoch ^ 1<<31, s.epoch ^ 1<<32, s.epoch ^ 1<<63, s.epoch + 5<<32, epochOf(i + 3)} {
			if other == s.epoch {
				continue
			}
			// The same records, and others, whose fragments would clash.
			s.clash(t, "laid by another epoch", lay(t, other, s.recs).secs)
			if i%9 == 0 {
				s.clash(t, "others laid by another epoch", lay(t, other, othersOf(s)).secs)
				s.clash(t, "others with that stamp", sealed(other, lay(t, s.epoch, othersOf(s)).body, all))
			}
		}
	}
}

// othersOf are records of the same lengths as a segment's, with other bytes; those of no bytes are the same.
func othersOf(s segment) [][]byte {
	var l [][]byte
	for i, data := range s.recs {
		other := slices.Clone(data)
		for k := range other {
			other[k] += byte(1 + (i+k)%200)
		}
		l = append(l, other)
	}
	return l
}

// P20.1: records that don't fit: not free, and nothing clashes, whatever the sectors are.
func TestDontFit(t *testing.T) {
	var now [][]api.Sec
	for i, s := range segments(t) {
		if i%4 == 0 {
			now = append(now, lay(t, 9, s.recs).secs)
		}
	}
	now = append(now, nil, make([]api.Sec, sectors), make([]api.Sec, 3), sealed(9, fake(9, fragments, 0), all), sealed(9, fake(9, firsts, 0), all))
	for _, lengths := range [][]int{
		{whole + 1}, {whole, 0}, {0, 778}, {778, 0}, {777, 0, 0}, many(65, 0), many(17, 41), many(16, 41+1), append(many(4, most), 0), append(many(3, most), most+1), {10, whole}, {20, 20, 5000},
		{all}, {all - head}, {1 << 16}, {1<<16 + 5}, {1 << 20}, {5, 1<<16 - 5}, {longest, longest}, {longest, 266}, append(filling(60), 60), many(5000, 0),
	} {
		var recs [][]byte
		for i, n := range lengths {
			recs = append(recs, mixed(i, n))
		}
		if _, _, ok := meantOf(9, recs); ok {
			t.Fatalf("records of the lengths %v fit", lengths)
		}
		for _, secs := range now {
			refused(t, "records", 9, recs, secs)
		}
	}
}

// P20.1: a segment's records, and one more that has no room, with which they don't fit, though without it they clash.
func TestOneMoreDoesntFit(t *testing.T) {
	for _, s := range segments(t) {
		other := lay(t, s.epoch, othersOf(s))
		for _, n := range []int{0, 1, 40, most, longest, whole} {
			more := append(slices.Clone(s.recs), make([]byte, n))
			if _, _, ok := pieces(s.end(), n); ok {
				asRead(t, s.what()+" and one more", s.epoch, more, s.secs)
				asRead(t, s.what()+" and one more", s.epoch, more, other.secs)
				continue
			}
			refused(t, s.what()+" and one more", s.epoch, more, s.secs)
			refused(t, s.what()+" and one more", s.epoch, more, other.secs)
			refused(t, s.what()+" and one more, ahead of them", s.epoch, append([][]byte{make([]byte, whole+1)}, s.recs...), other.secs)
		}
	}
}

// P20.1: fewer sectors than Data: those that lack are not stamped.
func TestFewer(t *testing.T) {
	for _, s := range segments(t) {
		clashing := lay(t, s.epoch, othersOf(s))
		for n := range sectors + 1 {
			s.clash(t, "fewer sectors", s.secs[:n])
			got := asRead(t, s.what()+", fewer sectors of others", s.epoch, s.recs, clashing.secs[:n])
			for i, m := range s.meant {
				// It clashes, if it has bytes, all of which are there.
				want := len(m.data) > 0 && m.at+len(m.bytes) <= room*n
				if slices.Contains(got, m.at) != want {
					t.Fatalf("%s, %d sectors of others: the %dth fragment, at %d, is told: %t", s.what(), n, i, m.at, !want)
				}
			}
		}
	}
}

// P20.1: sectors behind the first Data play no part, whatever they are.
func TestMore(t *testing.T) {
	for i, s := range segments(t) {
		clashing := lay(t, s.epoch, othersOf(s))
		want := Clashes(s.epoch, s.recs, clashing.secs)
		for _, behind := range [][]api.Sec{{{}}, {stamped(s.epoch, sectors, fragment(1, s.epoch, nil))}, s.secs, clashing.secs, slices.Repeat(clashing.secs, 40), {api.Sec(mixed(i, sector))}, {stamped(s.epoch, 0, fragment(1, s.epoch, []byte{9}))}} {
			s.clash(t, "and more sectors", append(slices.Clone(s.secs), behind...))
			s.clash(t, "of others, and more sectors", append(slices.Clone(clashing.secs), behind...), want...)
		}
		s.clash(t, "one sector ahead", append([]api.Sec{{}}, clashing.secs...))
	}
}

// P20.1: what an epoch has above its lowest 32 bits is in the stamp, not in a fragment.
func TestHighBits(t *testing.T) {
	recs := [][]byte{[]byte("intended")}
	for _, epoch := range epochs() {
		for _, high := range []uint64{0, 1, 7, math.MaxUint32} {
			other := fragment(1, epoch&math.MaxUint32|high<<32, []byte("another"))
			clash(t, "the same lowest 32 bits", epoch, recs, []api.Sec{stamped(epoch, 0, other)}, 0)
			if stamp := epoch&math.MaxUint32 | high<<32; stamp != epoch {
				clash(t, "another stamp", epoch, recs, []api.Sec{stamped(stamp, 0, other)})
			}
		}
		for bit := range 32 {
			other := fragment(1, epoch^1<<bit, []byte("another"))
			clash(t, "other lowest 32 bits", epoch, recs, []api.Sec{stamped(epoch, 0, other)})
		}
	}
}
