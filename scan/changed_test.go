package scan

import (
	"slices"
	"testing"

	"strandline/api"
)

// unstamped are sectors with the room of a segment's i-th one, or another room, none of which is stamped as that is.
func unstamped(s segment, i int) []api.Sec {
	room := s.secs[i][ahead:]
	l := []api.Sec{
		{1}, {63: 1}, {ahead - 1: 1},
		stamped(0, 0, room), stamped(1<<64-1, -1, room),
		stamped(s.epoch+1, i, room), stamped(s.epoch-1, i, room), stamped(s.epoch+1<<32, i, room), stamped(s.epoch^1<<63, i, room),
		stamped(s.epoch, i+1, room), stamped(s.epoch, i-1, room), stamped(s.epoch, i^1<<31, room), stamped(s.epoch, i+sectors, room), stamped(s.epoch, i+1<<8, room),
		stamped(s.epoch+1, i+1, room), stamped(s.epoch+1, i, nil), stamped(s.epoch, i+1, nil), stamped(s.epoch+1, i, fragment(1, s.epoch, nil)),
	}
	for k := range ahead {
		changed := stamped(s.epoch, i, room)
		changed[k] ^= 1 << (k % 8)
		l = append(l, changed)
	}
	return slices.DeleteFunc(append(l, s.secs...), func(c api.Sec) bool {
		return slices.Equal(c[:ahead], stampOf(s.epoch, i)) || c == api.Sec{}
	})
}

// P19.1: each sector in turn not stamped, stamped with another epoch, with another place, or another one of the segment's: what lies in it isn't told, nor what comes behind.
func TestSectorUnstamped(t *testing.T) {
	for _, s := range segments(t) {
		for i := range sectors {
			told := 0
			for told < s.short() && s.behind[told] <= room*i {
				told++
			}
			for _, c := range unstamped(s, i) {
				is(t, s.what()+", one sector not stamped", s.epoch, with(s.secs, i, c), s.told(told, torn))
			}
		}
	}
}

// P19.1: each sector in turn empty.
func TestSectorEmpty(t *testing.T) {
	for _, s := range append(segments(t), everyLength(t)...) {
		for i := range sectors {
			l := with(s.secs, i, api.Sec{})
			asRead(t, s.what()+", one sector empty", s.epoch, l)
			told := len(Scan(s.epoch, l).Recs)
			// Of the epoch 0 an empty first sector is stamped, and has no fragment.
			if told < s.short() && s.behind[told] <= room*i || told > 0 && s.behind[told-1] > room*i {
				t.Fatalf("%s, the sector %d empty: %d records are told", s.what(), i, told)
			}
		}
	}
}

// P19.1: all sectors of one place and behind it empty: what is told ends cleanly just where a record ends ahead of these.
func TestSectorsBehindEmpty(t *testing.T) {
	for _, s := range segments(t) {
		for n := range sectors {
			l := slices.Concat(s.secs[:n], make([]api.Sec, sectors-n))
			asRead(t, s.what()+", all empty from one on", s.epoch, l)
			is(t, s.what()+", as if all behind were empty", s.epoch, s.secs[:n], Scan(s.epoch, l))
		}
	}
}

// P19.1: sectors behind the end that aren't empty: stamped ones with room 0 too.
func TestSectorBehind(t *testing.T) {
	for _, s := range segments(t) {
		for i := range sectors {
			if room*i < s.end() {
				continue
			}
			for _, c := range append(unstamped(s, i), stamped(s.epoch, i, nil), stamped(s.epoch, i, []byte{room - 1: 1})) {
				want := s.wanted()
				if c != (api.Sec{}) {
					want.Kind = torn
				}
				is(t, s.what()+", one behind not empty", s.epoch, with(s.secs, i, c), want)
			}
		}
	}
}

// P19.1: each byte of room changed, one at a time, in all sectors: just first records are told, none of them another one.
func TestByteChanged(t *testing.T) {
	for _, s := range segments(t) {
		for at := range all {
			for _, turn := range []byte{1 << (at % 8), 255} {
				c := s.secs[at/room]
				c[ahead+at%room] ^= turn
				l := with(s.secs, at/room, c)
				asRead(t, s.what()+", one byte another one", s.epoch, l)
				got := Scan(s.epoch, l)
				if n := len(got.Recs); n > len(s.recs) || !same(got, s.told(n, got.Kind)) {
					t.Fatalf("%s, the byte at %d another one: %s", s.what(), at, text(got))
				}
			}
		}
	}
}

// P19.1: each byte of one segment changed in each way.
func TestByteChangedEachWay(t *testing.T) {
	s := segmentOf(t, 1<<32+3, fragments, 20, 0, 150, 60)
	for at := range s.end() + room {
		for turn := 1; turn < 256; turn++ {
			c := s.secs[at/room]
			c[ahead+at%room] ^= byte(turn)
			asRead(t, s.what()+", one byte another one", s.epoch, with(s.secs, at/room, c))
		}
	}
}

// P19.1: bytes between a record's end and where the next one begins play no part, but behind the last one.
func TestBytesBetween(t *testing.T) {
	s := segmentOf(t, 7, anything, 31, 41, 40, 35, 0)
	for at := range all {
		c := s.secs[at/room]
		c[ahead+at%room]++
		got := Scan(7, with(s.secs, at/room, c))
		switch {
		// Behind the first, the third and the fourth record no head has room in its sector.
		case at >= 42 && at < 52, at >= 155 && at < 156, at >= 202 && at < 208:
			if want := s.told(5, clean); !same(got, want) {
				t.Errorf("a byte between, at %d: %s", at, text(got))
			}
		case at >= s.end():
			if want := s.told(5, torn); !same(got, want) {
				t.Errorf("a byte behind, at %d: %s", at, text(got))
			}
		default:
			if len(got.Recs) == 5 || got.Kind != torn {
				t.Errorf("a byte of a record, at %d: %s", at, text(got))
			}
		}
	}
}

// P19.1: sectors of two segments, mixed in all ways that a number tells.
func TestMixed(t *testing.T) {
	a, b := segmentOf(t, 9, anything, 100, 41, 300, 20, 200), segmentOf(t, 9, fragments, 30, 111, 300, 20, 200)
	o := segmentOf(t, 9+1<<32, fragments, 30, 111, 300, 20, 200)
	for k := range 1 << sectors {
		l, m := slices.Clone(a.secs), slices.Clone(a.secs)
		for i := range sectors {
			if k>>i&1 == 1 {
				l[i], m[i] = b.secs[i], o.secs[i]
			}
		}
		if k%7 == 0 {
			asRead(t, "two segments mixed", 9, l)
		}
		if k%11 == 0 {
			asRead(t, "two epochs mixed", 9, m)
		}
	}
}

// P19.1: any bytes, in sectors of any stamps, and in such as are stamped right.
func TestAnyBytes(t *testing.T) {
	numbers := scatter(20000)
	for i := range 2000 {
		epoch := epochOf(i)
		var l []api.Sec
		for k := range int(numbers[i]) % 20 {
			n := numbers[i+k*7]
			switch s := stamped(epoch, k, mixed(int(n), room)); {
			case n < 180:
				l = append(l, s)
			case n < 200:
				l = append(l, api.Sec(mixed(i+k, sector)))
			default:
				l = append(l, stamped(epoch, k, slices.Repeat(fragment(1+int(n)%4, epoch, mixed(k, int(n)%20)), 4)))
			}
		}
		asRead(t, "any bytes", epoch, l)
	}
}

// P19.1: a fragment whose head's sector is stamped, and one of whose data's isn't, is not told, though its sum goes with the bytes 0 that stand for that one's; nor is it the other way about.
func TestSumAlone(t *testing.T) {
	for n := room - head + 1; n <= most; n++ {
		s := segmentOf(t, 4, zero, n, 0)
		for i := range (head + n + room - 1) / room {
			for _, c := range []api.Sec{{}, stamped(5, i, s.secs[i][ahead:]), stamped(4+1<<32, i, s.secs[i][ahead:]), stamped(4, i+1, s.secs[i][ahead:]), stamped(4, 0, nil)} {
				if c == stamped(4, 0, nil) && i == 0 {
					continue
				}
				is(t, s.what()+", a fragment's sector not stamped", 4, with(s.secs, i, c), Result{Kind: torn})
			}
		}
		// Its data's sectors have a record each of their own, but nothing is looked for there.
		l := slices.Clone(s.secs)
		for i := range l[1:] {
			l[1+i] = stamped(4, 1+i, fragment(1, 4, nil))
		}
		is(t, s.what()+", its head's sector empty", 4, with(l, 0, api.Sec{}), Result{Kind: torn})
		is(t, s.what()+", its data's sectors others", 4, l, Result{Kind: torn})
	}
}

// P19.1: a record of several fragments, of which one's sectors are not stamped, isn't told, though all others of its fragments are right.
func TestFragmentUnstamped(t *testing.T) {
	for _, n := range []int{198, 300, 394, 395, 500, longest} {
		s := segmentOf(t, 4, zero, 20, n, 20)
		for i := 1; room*i < s.behind[1]; i++ {
			for _, c := range []api.Sec{{}, stamped(4, i-1, s.secs[i][ahead:]), stamped(3, i, s.secs[i][ahead:])} {
				is(t, s.what()+", a sector not stamped", 4, with(s.secs, i, c), s.told(1, torn))
			}
		}
	}
}
