package tear

import (
	"slices"
	"testing"

	"strandline/api"
)

// roomy is a copy of records, each with bytes behind its end that are not its own, and the list with others behind its own.
func roomy(recs [][]byte) [][]byte {
	var l [][]byte
	for i, data := range recs {
		l = append(l, append(slices.Clone(data), mixed(i, 60)...)[:len(data)])
	}
	return append(l, []byte{1, 2, 3}, make([]byte, whole+1))[:len(l)]
}

// roomySecs is a copy of sectors, with others in the room behind their list's end.
func roomySecs(l []api.Sec, behind ...api.Sec) []api.Sec {
	return append(slices.Clone(l), behind...)[:len(l)]
}

// copied are records, with all that is in the room behind their ends, and their list's.
func copied(recs [][]byte) [][]byte {
	var l [][]byte
	for _, data := range recs[:cap(recs)] {
		l = append(l, slices.Clone(data[:cap(data)]))
	}
	return l
}

// lengthsWhole are the lengths of records, and those of the lists with the room behind their ends.
func lengthsWhole(recs [][]byte) []int {
	l := []int{len(recs), cap(recs)}
	for _, data := range recs[:cap(recs)] {
		l = append(l, len(data), cap(data))
	}
	return l
}

// spoil turns all bits of what was given, with the room behind its ends.
func spoil(recs [][]byte, now []api.Sec) {
	for _, data := range recs[:cap(recs)] {
		for k := range data[:cap(data)] {
			data[:cap(data)][k] ^= 255
		}
	}
	for i := range now[:cap(now)] {
		for k := range now[:cap(now)][i] {
			now[:cap(now)][i][k] ^= 255
		}
	}
}

// given are a segment's records, and sectors of which many clash with them, as many and fewer, both with room behind their ends.
func given(t *testing.T, s segment, i int) ([][]byte, []api.Sec) {
	t.Helper()
	o, _ := another(t, s)
	n := sectors - i%4*(i%5)
	return roomy(s.recs), roomySecs(o.secs[:n], append(o.secs[n:], s.secs...)...)
}

// P20.1: what is given stays as it was, with what is in the room behind its ends.
func TestGivenStays(t *testing.T) {
	for i, s := range segments(t) {
		recs, now := given(t, s, i)
		was, lengths, wasNow := copied(recs), lengthsWhole(recs), slices.Clone(now[:cap(now)])
		for _, epoch := range []uint64{s.epoch, s.epoch + 1, 0} {
			Free(epoch, recs, now)
			Clashes(epoch, recs, now)
			Free(epoch, recs[:cap(recs)], now)
			Clashes(epoch, recs[:cap(recs)], now)
		}
		if !slices.EqualFunc(copied(recs), was, slices.Equal[[]byte]) || !slices.Equal(lengthsWhole(recs), lengths) || !slices.Equal(now[:cap(now)], wasNow) {
			t.Fatalf("%s: what was given has changed", s.what())
		}
	}
}

// P20.2: sectors are given as values: what is given stays as it was.
func TestDifferGivenStays(t *testing.T) {
	l := anySectors()
	was := slices.Clone(l)
	for i := range l {
		for k := range l {
			Differ(l[i], l[k])
		}
	}
	if !slices.Equal(l, was) {
		t.Fatal("what was given has changed")
	}
}

// P20.1: what is in the room behind the lists' ends, and the records', plays no part.
func TestRoomBehind(t *testing.T) {
	for i, s := range segments(t) {
		recs, now := given(t, s, i)
		want, _ := slowClashes(s.epoch, s.recs, slices.Clone(now))
		clash(t, s.what()+", with room behind", s.epoch, recs, now, want...)
		// Fewer of the same lists: what is left of them is behind the end.
		for n := range min(len(recs), 4) {
			want, _ := slowClashes(s.epoch, s.recs[:n], slices.Clone(now))
			clash(t, s.what()+", fewer of them", s.epoch, recs[:n], now, want...)
		}
		for n := range len(now) {
			want, _ := slowClashes(s.epoch, s.recs, slices.Clone(now[:n]))
			clash(t, s.what()+", fewer sectors", s.epoch, recs, now[:n], want...)
		}
	}
}

// P20.1: what is answered stays as it was when what was given changes, and what was answered ahead, with the room behind its end.
func TestAnswerApart(t *testing.T) {
	for i, s := range segments(t) {
		recs, now := given(t, s, i)
		want, _ := slowClashes(s.epoch, s.recs, now)
		got, other := Clashes(s.epoch, recs, now), Clashes(s.epoch, recs, now)
		was, wasNow := copied(recs), slices.Clone(now[:cap(now)])
		for k := range other[:cap(other)] {
			other[:cap(other)][k] = -7
		}
		if !slices.Equal(got, want) || !slices.EqualFunc(copied(recs), was, slices.Equal[[]byte]) || !slices.Equal(now[:cap(now)], wasNow) {
			t.Fatalf("%s: what was given, or answered ahead, has changed", s.what())
		}
		spoil(recs, now)
		if !slices.Equal(got, want) {
			t.Fatalf("%s: %v has changed with what was given to %v", s.what(), want, got)
		}
		spoil(recs, now)
		clash(t, s.what()+", once more", s.epoch, recs, now, want...)
	}
}

// P20.1, P20.2: what is answered hangs on what is given alone: once more, and behind other calls, it is the same.
func TestOnceMore(t *testing.T) {
	l := segments(t)
	for range 2 {
		for i, s := range l {
			recs, now := given(t, s, i)
			want, _ := slowClashes(s.epoch, s.recs, now)
			clash(t, s.what(), s.epoch, recs, now, want...)
			clash(t, s.what(), s.epoch, recs, now, want...)
			a, b := s.secs[i%sectors], stamped(7, i, mixed(i, room))
			if first, behind := Differ(a, b); pair(Differ(a, b)) != pair(first, behind) {
				t.Fatal("Differ tells something else once more")
			}
		}
		slices.Reverse(l)
	}
}
