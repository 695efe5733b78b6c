package scan

import (
	"slices"
	"testing"

	"strandline/api"
)

// The limits that the tests write out.
func TestLimits(t *testing.T) {
	got := []int{api.Sector, api.Stamp, api.Room, api.Data, api.BlockRoom, api.SegRoom, api.Head, api.MaxRecord, api.EndClean, api.EndTorn}
	if want := []int{sector, ahead, room, sectors, block, all, head, longest, clean, torn}; !slices.Equal(got, want) {
		t.Errorf("the limits are %v, not %v", got, want)
	}
}

// The example; P19.1 of no sectors, and of empty ones, as many as may be.
func TestEmpty(t *testing.T) {
	for _, epoch := range epochs() {
		is(t, "none", epoch, nil, Result{Kind: clean})
		for n := range 2*sectors + 2 {
			is(t, "empty ones", epoch, make([]api.Sec, n), Result{Kind: clean})
		}
		is(t, "many empty ones", epoch, make([]api.Sec, 1<<16), Result{Kind: clean})
	}
}

// P19.1: two sectors written out: a record of two bytes, one of none, and one in whose room the second sector is.
func TestWrittenOut(t *testing.T) {
	const epoch = 0x0102030405060708
	l := make([]api.Sec, sectors)
	copy(l[0][:], []byte{
		8, 7, 6, 5, 4, 3, 2, 1, 0, 0, 0, 0,
		0x15, 0x1f, 0xc9, 0x87, 2, 0, 1, 8, 7, 6, 5, 'a', 'b',
		0x22, 0xa6, 0x43, 0x31, 0, 0, 1, 8, 7, 6, 5,
		0, 0, 0, 0, 30, 0, 1, 8, 7, 6, 5,
	})
	copy(l[1][:], []byte{8, 7, 6, 5, 4, 3, 2, 1, 1, 0, 0, 0})
	x := slices.Repeat([]byte("x"), 30)
	copy(l[0][ahead+24:], fragment(1, epoch, x))
	copy(l[1][ahead:], x[17:])
	two := Result{Recs: [][]byte{[]byte("ab"), nil}, Places: []int{0, 13}, End: 24, Kind: torn}
	three := Result{Recs: [][]byte{[]byte("ab"), nil, x}, Places: []int{0, 13, 24}, End: 65, Kind: clean}
	is(t, "three records", epoch, l, three)
	is(t, "as many sectors as it has", epoch, l[:2], three)
	is(t, "without the second sector", epoch, l[:1], two)
	is(t, "by another epoch", epoch+1, l, Result{Kind: torn})
	l[1][ahead+12] = 'y'
	is(t, "another byte in the second sector", epoch, l, two)
	l[0][ahead+13]++
	is(t, "another sum", epoch, l, Result{Recs: two.Recs[:1], Places: []int{0}, End: 13, Kind: torn})
}

// P19.1: lengths of records, with the places of their first fragments and the end written out.
func TestPlaces(t *testing.T) {
	for _, c := range []struct {
		lengths, places []int
		end             int
	}{
		{nil, nil, 0},
		{[]int{0}, []int{0}, 11},
		{[]int{10, 10}, []int{0, 21}, 42},
		{[]int{30, 0}, []int{0, 41}, 52},
		{[]int{31, 0}, []int{0, 52}, 63},
		{[]int{41, 0}, []int{0, 52}, 63},
		{[]int{42, 0}, []int{0, 53}, 64},
		{[]int{186, 0}, []int{0, 197}, 208},
		{[]int{186, 1}, []int{0, 197}, 220},
		{[]int{187, 1}, []int{0, 208}, 220},
		{[]int{197}, []int{0}, 208},
		{[]int{198, 5}, []int{0, 220}, 236},
		{[]int{394, 3}, []int{0, 416}, 430},
		{[]int{395}, []int{0}, 428},
		{[]int{511}, []int{0}, 544},
		{[]int{512}, []int{0}, 545},
		{[]int{512, 265}, []int{0, 545}, 832},
		{[]int{100, 512, 0}, []int{0, 111, 676}, 687},
		{[]int{197, 197, 197, 197}, []int{0, 208, 416, 624}, 832},
		{[]int{41, 41, 41, 41, 41}, []int{0, 52, 104, 156, 208}, 260},
		{[]int{0, 0, 0, 0, 0}, []int{0, 11, 22, 33, 52}, 63},
	} {
		for k := range looks {
			for _, epoch := range epochs() {
				s := segmentOf(t, epoch, k, c.lengths...)
				is(t, s.what(), epoch, s.secs, Result{Recs: s.recs, Places: c.places, End: c.end, Kind: clean})
			}
		}
	}
}

// P19.1: one record of each length, as many of each length as there is room for, and records of many lengths: those that no joiner refuses are told, and none behind the first one that is refused.
func TestLengths(t *testing.T) {
	for _, s := range append(everyLength(t), segments(t)...) {
		want := s.wanted()
		is(t, s.what(), s.epoch, s.secs, want)
		if slow := slowScan(s.epoch, s.secs); !same(slow, want) {
			t.Fatalf("%s: the slow reading tells %s, not %s", s.what(), text(slow), text(want))
		}
	}
}

// P19.1: segments that are full to the last byte: the last of it is told, and nothing is behind.
func TestFull(t *testing.T) {
	for _, lengths := range [][]int{many(4, most), many(16, 41), {longest, 265}, {longest, 198, 56}, {0, longest, 254}} {
		for k := range looks {
			s := segmentOf(t, 5, k, lengths...)
			if s.end() != all {
				t.Fatalf("%s: the end is %d", s.what(), s.end())
			}
			is(t, s.what(), 5, s.secs, s.told(len(lengths), clean))
			last := s.secs[sectors-1]
			last[sector-1] ^= 1
			is(t, s.what()+", the last byte another one", 5, with(s.secs, sectors-1, last), s.told(len(lengths)-1, torn))
			want := s.told(len(lengths)-1, torn)
			if s.places[len(lengths)-1] >= room*(sectors-1) {
				want.Kind = clean
			}
			is(t, s.what()+", without its last sector", 5, s.secs[:sectors-1], want)
		}
	}
}

// P19.1: sectors behind the first Data play no part, whatever they are.
func TestMore(t *testing.T) {
	for _, s := range segments(t) {
		for _, more := range [][]api.Sec{
			make([]api.Sec, 1),
			make([]api.Sec, 100),
			{stamped(s.epoch, sectors, fragment(1, s.epoch, nil))},
			{stamped(s.epoch, 0, fragment(1, s.epoch, nil)), {1}},
			{{1}},
			{{63: 1}},
			s.secs,
			slices.Repeat(s.secs, 20),
		} {
			l := slices.Concat(s.secs, more)
			is(t, s.what()+", with more behind", s.epoch, l, s.wanted())
			for _, end := range []int{-1, 0, 1, s.end() - 1, s.end(), all - 1, all, all + 1, all + room} {
				if got, want := Rest(l, end), Rest(s.secs, end); got != want {
					t.Fatalf("%s: Rest from %d with more behind: %t, not %t", s.what(), end, got, want)
				}
			}
		}
	}
}

// P19.1: with fewer sectors those records are told that lie in them.
func TestFewer(t *testing.T) {
	for _, s := range append(segments(t), everyLength(t)...) {
		for n := range sectors {
			told := 0
			for told < s.short() && s.behind[told] <= room*n {
				told++
			}
			want := s.told(told, torn)
			if slowRest(s.secs[:n], want.End) {
				want.Kind = clean
			}
			is(t, s.what()+", with fewer sectors", s.epoch, s.secs[:n], want)
		}
	}
}

// P19.1: by each other epoch nothing is told, also by one that is the same in its lowest 32 bits; and it doesn't end cleanly.
func TestOtherEpoch(t *testing.T) {
	for _, s := range segments(t) {
		for _, epoch := range append(epochs(), s.epoch+1, s.epoch-1, s.epoch+1<<32, s.epoch-1<<32, s.epoch^1<<63) {
			want := Result{Kind: torn}
			if epoch == s.epoch || len(s.recs) == 0 {
				want = s.wanted()
			}
			is(t, s.what(), epoch, s.secs, want)
		}
	}
}

// P19.1: a segment whose fragments are of the epoch's lowest 32 bits, and whose sectors are stamped with another one that has the same.
func TestEpochAbove(t *testing.T) {
	for _, epoch := range epochs() {
		for _, other := range []uint64{epoch + 1<<32, epoch - 1<<32, epoch ^ 1<<63, epoch ^ 5<<40} {
			s := segmentOf(t, epoch, anything, 30, 100, 300, 50)
			o := segmentOf(t, other, anything, 30, 100, 300, 50)
			is(t, "all stamped with the other one", epoch, o.secs, Result{Kind: torn})
			is(t, "by the other one", other, o.secs, o.told(4, clean))
			for i := range sectors {
				if room*i >= s.end() {
					continue
				}
				told := 0
				for told < 4 && s.behind[told] <= room*i {
					told++
				}
				is(t, "one stamped with the other one", epoch, with(s.secs, i, o.secs[i]), s.told(told, torn))
			}
		}
	}
}
