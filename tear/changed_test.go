package tear

import (
	"slices"
	"testing"

	"strandline/api"
)

// unstamped are sectors with the room of the i-th of those, or another room, none of which is stamped with that epoch and that place.
func unstamped(epoch uint64, secs []api.Sec, i int) []api.Sec {
	room := secs[i][ahead:]
	l := []api.Sec{
		{1}, {63: 1}, {ahead - 1: 1},
		stamped(0, 0, room), stamped(1<<64-1, -1, room),
		stamped(epoch+1, i, room), stamped(epoch-1, i, room), stamped(epoch+1<<32, i, room), stamped(epoch^1<<63, i, room),
		stamped(epoch, i+1, room), stamped(epoch, i-1, room), stamped(epoch, i^1<<31, room), stamped(epoch, i+sectors, room), stamped(epoch, i+1<<8, room),
		stamped(epoch+1, i+1, room), stamped(epoch+1, i, nil), stamped(epoch, i+1, nil), stamped(epoch+1, i, fragment(1, epoch, nil)), stamped(epoch+1, i, slices.Repeat(fragment(2, epoch, nil), 4)),
	}
	for k := range ahead {
		changed := stamped(epoch, i, room)
		changed[k] ^= 1 << (k % 8)
		l = append(l, changed)
	}
	return slices.DeleteFunc(append(l, secs...), func(c api.Sec) bool {
		return slices.Equal(c[:ahead], stampOf(epoch, i))
	})
}

// another is a segment with another right fragment at the place of each that has Data, and the places of these.
func another(t *testing.T, s segment) (segment, []int) {
	t.Helper()
	o := lay(t, s.epoch, othersOf(s))
	var places []int
	for _, m := range s.meant {
		if len(m.data) > 0 {
			places = append(places, m.at)
		}
	}
	o.clash(t, "as they were laid", o.secs)
	s.clash(t, "of other bytes", o.secs, places...)
	return o, places
}

// P20.1: what is laid of other bytes clashes in each fragment that has some.
func TestAnother(t *testing.T) {
	for _, s := range allSegments(t) {
		another(t, s)
	}
}

// outside are those places of fragments that have no byte in the sector i.
func (s segment) outside(i int, places []int) []int {
	var l []int
	for _, m := range s.meant {
		if slices.Contains(places, m.at) && (m.at >= room*i+room || m.at+len(m.bytes) <= room*i) {
			l = append(l, m.at)
		}
	}
	return l
}

// P20.1: each sector in turn not stamped, stamped with another epoch, with another place, or another one of the segment's: what has a byte in it isn't told.
func TestSectorUnstamped(t *testing.T) {
	for _, s := range segments(t) {
		o, places := another(t, s)
		for i := range sectors {
			left := s.outside(i, places)
			for k, c := range unstamped(s.epoch, s.secs, i) {
				if k%3 == i%3 {
					s.clash(t, "one sector not stamped", with(s.secs, i, c))
				}
			}
			for _, c := range unstamped(s.epoch, o.secs, i) {
				s.clash(t, "of other bytes, one sector not stamped", with(o.secs, i, c), left...)
			}
		}
	}
}

// P20.1: each sector in turn empty, and with room 0.
func TestSectorEmpty(t *testing.T) {
	for k, s := range allSegments(t) {
		if k >= 100 && k%3 > 0 {
			continue
		}
		o, places := another(t, s)
		for i := range sectors {
			s.clash(t, "one sector empty", with(s.secs, i, api.Sec{}))
			s.clash(t, "of other bytes, one sector empty", with(o.secs, i, api.Sec{}), s.outside(i, places)...)
			if (i+len(s.meant))%3 == 0 {
				asRead(t, s.what()+", one sector's room 0", s.epoch, s.recs, with(s.secs, i, stamped(s.epoch, i, nil)))
				asRead(t, s.what()+" of other bytes, one sector's room 0", s.epoch, s.recs, with(o.secs, i, stamped(s.epoch, i, nil)))
			}
		}
	}
}

// P20.1: all sectors but one, and but one and those behind it, missing or empty.
func TestSectorsMissing(t *testing.T) {
	for _, s := range segments(t) {
		o, places := another(t, s)
		for n := range sectors {
			left := slices.DeleteFunc(s.outside(n, places), func(at int) bool { return at >= room*n })
			s.clash(t, "of other bytes, the last ones missing", o.secs[:n], left...)
			s.clash(t, "of other bytes, the last ones empty", append(slices.Clone(o.secs[:n]), make([]api.Sec, sectors-n)...), left...)
			behind := slices.DeleteFunc(s.outside(n, places), func(at int) bool { return at < room*n })
			s.clash(t, "of other bytes, the first ones empty", append(make([]api.Sec, n+1), o.secs[n+1:]...), behind...)
			only := with(make([]api.Sec, sectors), n, o.secs[n])
			asRead(t, s.what()+" of other bytes, just one sector", s.epoch, s.recs, only)
		}
	}
}

// turned is a copy of l, in which that place of the body has another byte.
func turned(l []api.Sec, at int, turn byte) []api.Sec {
	l = slices.Clone(l)
	l[at/room][ahead+at%room] ^= turn
	return l
}

// P20.1: each byte of room changed, one at a time, in all sectors: what is meant is no other one by that, and another one that has the byte isn't told.
func TestByteChanged(t *testing.T) {
	for k, s := range segments(t) {
		o, places := another(t, s)
		for at := range all {
			turn := []byte{1 << (at % 8), 255}[at/2%2]
			s.clash(t, "one byte another one", turned(s.secs, at, turn))
			if (at+k)%4 > 0 {
				continue
			}
			var left []int
			for _, m := range s.meant {
				if slices.Contains(places, m.at) && (at < m.at || at >= m.at+len(m.bytes)) {
					left = append(left, m.at)
				}
			}
			s.clash(t, "of other bytes, one byte another one", turned(o.secs, at, turn), left...)
		}
	}
}

// P20.1: each byte of one segment changed in many ways, and of one with other bytes.
func TestByteChangedManyWays(t *testing.T) {
	s := segmentOf(t, 1<<32+3, fragments, 20, 0, 60)
	o, _ := another(t, s)
	for at := range s.end() + room {
		for turn := 1 + at%2; turn < 256; turn += 2 {
			asRead(t, s.what()+", one byte another one", s.epoch, s.recs, turned(s.secs, at, byte(turn)))
			asRead(t, s.what()+" of other bytes, one byte another one", s.epoch, s.recs, turned(o.secs, at, byte(turn)))
		}
	}
}

// P20.1: the sectors of two segments, mixed in all ways that a number tells.
func TestMixed(t *testing.T) {
	a, b := segmentOf(t, 9, anything, 100, 41, 300, 20, 200), segmentOf(t, 9, fragments, 30, 111, 300, 20, 200)
	o := segmentOf(t, 9+1<<32, firsts, 30, 111, 300, 20, 200)
	for k := range 1 << sectors {
		l, m := slices.Clone(a.secs), slices.Clone(a.secs)
		for i := range sectors {
			if k>>i&1 == 1 {
				l[i], m[i] = b.secs[i], o.secs[i]
			}
		}
		if k%13 == 0 {
			asRead(t, "two segments mixed", 9, a.recs, l)
			asRead(t, "two segments mixed, the other way about", 9, b.recs, l)
		}
		if k%17 == 0 {
			asRead(t, "two epochs mixed", 9, a.recs, m)
			asRead(t, "two epochs mixed, the other way about", 9, o.recs, m)
		}
	}
}

// P20.1: any bytes, in sectors of any stamps, and in such as are stamped right.
func TestAnyBytes(t *testing.T) {
	numbers := scatter(20000)
	clashed := 0
	for i := range 3000 {
		epoch := epochOf(i)
		var l []api.Sec
		for k := range int(numbers[i]) % 20 {
			n := numbers[i+k*7]
			switch s := stamped(epoch, k, mixed(int(n), room)); {
			case n < 40:
				l = append(l, s)
			case n < 60:
				l = append(l, api.Sec(mixed(i+k, sector)))
			default:
				l = append(l, stamped(epoch, k, slices.Repeat(fragment(1+int(n)%4, epoch, mixed(k, int(n)%20)), 4)))
			}
		}
		recs := anyRecords(i)
		clashed += len(asRead(t, "any bytes", epoch, recs, l))
	}
	if clashed < 1000 {
		t.Errorf("but %d places clash in any bytes", clashed)
	}
}

// anyRecords are some that look like any; most of them fit.
func anyRecords(which int) [][]byte {
	var l [][]byte
	for i, n := range mixed(which, which%12) {
		l = append(l, mixed(which+i, int(n)>>(which%6)))
	}
	return l
}
