package reader

import (
	"slices"
	"strconv"
	"testing"

	"strandline/api"
)

// others are sectors with the room of a segment's i-th one, or another room, none of which is stamped as that is.
func others(s stone, i int) []api.Sec {
	room := s.secs[i][ahead:]
	l := []api.Sec{
		{}, {1}, {63: 1}, {ahead - 1: 1},
		stamped(0, 0, room), stamped(1<<64-1, -1, room),
		stamped(s.epoch+1, i, room), stamped(s.epoch-1, i, room), stamped(s.epoch+1<<32, i, room), stamped(s.epoch^1<<63, i, room),
		stamped(s.epoch, i+1, room), stamped(s.epoch, i-1, room), stamped(s.epoch, i^1<<31, room), stamped(s.epoch, i+sectors, room), stamped(s.epoch, i+1<<8, room),
		stamped(s.epoch+1, i+1, room), stamped(s.epoch+1, i, nil), stamped(s.epoch, i+1, nil), stamped(s.epoch+1, i, fragment(1, s.epoch, nil)),
	}
	for k := range ahead {
		changed := stamped(s.epoch, i, room)
		changed[k] ^= 1 << (k % 8)
		l = append(l, changed)
	}
	return slices.DeleteFunc(append(l, s.secs...), func(c api.Sec) bool {
		return slices.Equal(c[:ahead], stampOf(s.epoch, i))
	})
}

// has tells whether one of the record's fragments has bytes in a sector.
func (s stone) has(rec, sector int) bool {
	l, _, _ := pieces(s.places[rec], len(s.recs[rec]))
	return slices.ContainsFunc(l, func(p piece) bool {
		return p.at < room*(sector+1) && p.at+head+p.to-p.from > room*sector
	})
}

// P24.1: each sector in turn not stamped, empty, of another epoch, of another place, or another one of the segment's: just those records don't stand any more that have bytes in it.
func TestSectorAnother(t *testing.T) {
	for _, s := range stones(t) {
		for i := range sectors {
			for _, c := range others(s, i) {
				l := with(s.secs, i, c)
				for r, at := range s.places {
					if s.has(r, i) || len(s.recs[r]) > longest {
						lacks(t, s, s.epoch, l, at)
					} else {
						stands(t, s, s.epoch, l, at, s.recs[r], s.behind[r])
					}
				}
			}
		}
	}
}

// P24.1: a fragment one of whose sectors isn't stamped is not told, though its sum goes with the bytes 0 that stand for that one's, wherever it begins.
func TestSumAlone(t *testing.T) {
	for at := range 120 {
		for n := max(0, room-at%room-head+1); n <= most && at%block+head+n <= block; n++ {
			l := byHand(4, at, []part{{1, make([]byte, n)}})
			stands(t, "bytes 0", 4, l, at, make([]byte, n), at+head+n)
			for i := at / room; i <= (at+head+n-1)/room; i++ {
				lacks(t, "one empty", 4, with(l, i, api.Sec{}), at)
				lacks(t, "one of another epoch", 4, with(l, i, stamped(5, i, l[i][ahead:])), at)
				lacks(t, "one of another place", 4, with(l, i, stamped(4, i+1, l[i][ahead:])), at)
				lacks(t, "one too few", 4, l[:i], at)
			}
			if i := at/room - 1; i >= 0 {
				stands(t, "the one ahead empty", 4, with(l, i, api.Sec{}), at, make([]byte, n), at+head+n)
			}
			i := (at+head+n-1)/room + 1
			stands(t, "those behind lack", 4, l[:i], at, make([]byte, n), at+head+n)
			stands(t, "the one behind empty", 4, with(l, i, api.Sec{}), at, make([]byte, n), at+head+n)
		}
	}
}

// withSum is a fragment's Data by which the sum of the fragment has that many bytes 0 at its beginning.
func withSum(epoch uint64, zeros int) []byte {
	for n := 0; ; n++ {
		data := low(uint64(n), 3)
		if b := fragment(1, epoch, data); !slices.ContainsFunc(b[:zeros], func(x byte) bool { return x != 0 }) {
			return data
		}
	}
}

// P24.1: a fragment that begins with bytes 0, just these in a sector that isn't stamped, is not told: the sector of its first byte counts.
func TestBeginsWithZeros(t *testing.T) {
	for zeros := range 3 {
		data := withSum(4, zeros)
		for end := room; end < all; end += room {
			if at := end - zeros; end%block != 0 {
				l := byHand(4, at, []part{{1, data}})
				stands(t, "begins with bytes 0", 4, l, at, data, at+head+3)
				ahead := with(l, end/room-1, api.Sec{})
				if zeros > 0 {
					lacks(t, "the sector ahead empty", 4, ahead, at)
				} else {
					stands(t, "the sector ahead empty", 4, ahead, at, data, at+head+3)
				}
			}
		}
	}
}

// P24.1: bytes of room changed, one at a time, in all sectors, at the records' places and at the changed byte's.
func TestByteChanged(t *testing.T) {
	for i, s := range stones(t) {
		for at := i % 2; at < all; at += 2 {
			l := changed(s.secs, at, []byte{1 << (at % 8), 255}[at/2%2])
			for r, place := range s.places {
				if place <= at && at < s.behind[r] || r%13 == at%13 {
					asRead(t, s, s.epoch, l, place)
				}
			}
			asRead(t, s, s.epoch, l, at)
		}
	}
}

// P24.1: sectors torn: a beginning of each one with another one's end, at all places of some segments.
func TestTorn(t *testing.T) {
	a, b := stoneOf(t, 9, anything, 20, 41, 300, 0, 200), stoneOf(t, 9, firsts, 93, 10, 20, 300, 111)
	o := stoneOf(t, 9+1<<32, rights, 20, 41, 300, 0, 200)
	for i := range sectors {
		for cut := range sector + 1 {
			for _, other := range []api.Sec{{}, b.secs[i], o.secs[i], a.secs[(i+1)%sectors]} {
				copy(other[:cut], a.secs[i][:cut])
				l := with(a.secs, i, other)
				for at := range all + 1 {
					if (at+cut)%17 == 0 || slices.Contains(a.places, at) || slices.Contains(b.places, at) {
						asRead(t, "torn at "+strconv.Itoa(cut), 9, l, at)
					}
				}
			}
		}
	}
}

// P24.1: sectors of two segments, mixed in ways that a number tells.
func TestMixed(t *testing.T) {
	a, b := stoneOf(t, 9, anything, 100, 41, 300, 20, 200), stoneOf(t, 9, rights, 30, 111, 300, 20, 200)
	o := stoneOf(t, 9+1<<32, rights, 30, 111, 300, 20, 200)
	for k := 0; k < 1<<sectors; k += 23 {
		l, m := slices.Clone(a.secs), slices.Clone(a.secs)
		for i := range sectors {
			if k>>i&1 == 1 {
				l[i], m[i] = b.secs[i], o.secs[i]
			}
		}
		for _, at := range slices.Concat(a.places, b.places, []int{0, 52, 104, 156, 208, 416, 624}) {
			asRead(t, "two segments mixed", 9, l, at)
			asRead(t, "two epochs mixed", 9, m, at)
			asRead(t, "two epochs mixed", 9+1<<32, m, at)
		}
	}
}

// anySectors are sectors of any bytes, and of any stamps, and such as are stamped right, with fragments or without.
func anySectors(numbers []byte, epoch uint64) []api.Sec {
	var l []api.Sec
	for k := range int(numbers[0]) % 20 {
		n := numbers[k*7]
		switch s := stamped(epoch, k, mixed(int(n), room)); {
		case n < 120:
			l = append(l, s)
		case n < 140:
			l = append(l, api.Sec(mixed(k+int(n), sector)))
		default:
			kind := []int{1, 1, 2, 3, 4, 4}[n%6]
			l = append(l, stamped(epoch, k, slices.Repeat(fragment(kind, epoch, mixed(k, int(n)%20)), 4)))
		}
	}
	return l
}

// P24.1: any bytes, at all places.
func TestAnyBytes(t *testing.T) {
	numbers := scatter(2000)
	for i := range 300 {
		everywhere(t, "any bytes", epochOf(i), anySectors(numbers[i:], epochOf(i)))
	}
}
