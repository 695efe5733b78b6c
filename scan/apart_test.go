package scan

import (
	"slices"
	"testing"

	"strandline/api"
)

// roomy is a copy of l, with sectors behind its end that are not its own.
func roomy(l []api.Sec, behind ...api.Sec) []api.Sec {
	return append(slices.Clone(l), behind...)[:len(l)]
}

// spoil turns all bits of l's sectors, and of those in the room behind its end.
func spoil(l []api.Sec) {
	for i := range l[:cap(l)] {
		for k := range l[:cap(l)][i] {
			l[:cap(l)][i][k] ^= 255
		}
	}
}

// spoilResult changes all that an answer has, with the room behind the ends of its lists.
func spoilResult(r Result) {
	for _, rec := range r.Recs {
		for k := range rec[:cap(rec)] {
			rec[:cap(rec)][k] ^= 255
		}
	}
	for i := range r.Recs[:cap(r.Recs)] {
		r.Recs[:cap(r.Recs)][i] = []byte{1, 2, 3}
	}
	for i := range r.Places[:cap(r.Places)] {
		r.Places[:cap(r.Places)][i] = -7
	}
}

// copied is r, with nothing that it shares.
func copied(r Result) Result {
	var recs [][]byte
	for _, rec := range r.Recs {
		recs = append(recs, slices.Clone(rec))
	}
	r.Recs, r.Places = recs, slices.Clone(r.Places)
	return r
}

// apartSegments are segments' sectors, as many and fewer, with others in the room behind the list's end.
func apartSegments(t *testing.T) [][]api.Sec {
	t.Helper()
	var l [][]api.Sec
	for i, s := range segments(t) {
		n := sectors - i%4*(i%5)
		l = append(l, roomy(segmentAs(t, s, 5).secs[:n], append(s.secs, s.secs...)...))
	}
	return l
}

// segmentAs is a segment with the same records, of that epoch.
func segmentAs(t *testing.T, s segment, epoch uint64) segment {
	t.Helper()
	return lay(t, epoch, s.recs)
}

// P19.1, P19.2: the sectors that are given stay as they were, with those in the room behind their list's end.
func TestGivenStays(t *testing.T) {
	for _, l := range apartSegments(t) {
		was, n := slices.Clone(l[:cap(l)]), len(l)
		for _, epoch := range epochs() {
			Scan(epoch, l)
		}
		for _, end := range ends() {
			Rest(l, end)
		}
		if !slices.Equal(l[:cap(l)], was) || len(l) != n {
			t.Fatal("what was given has changed")
		}
	}
}

// P19.1, P19.2: sectors in the room behind a list's end play no part.
func TestRoomBehind(t *testing.T) {
	s := segmentOf(t, 5, anything, 100, 100, 100, 100, 100)
	for n := range sectors {
		l := roomy(s.secs[:n], s.secs[n:]...)
		is(t, s.what(), 5, l, Scan(5, slices.Clip(slices.Clone(s.secs[:n]))))
		asRead(t, s.what(), 5, l)
		for _, end := range ends() {
			restIs(t, s.what(), l, end, slowRest(s.secs[:n], end))
		}
	}
}

// P19.1: what is answered stays as it was when what was given changes.
func TestAnswerApart(t *testing.T) {
	for _, l := range apartSegments(t) {
		got := Scan(5, l)
		want := copied(got)
		spoil(l)
		if !same(got, want) {
			t.Fatalf("%s has changed with what was given", text(want))
		}
	}
}

// P19.1: what is answered has none of what was given, nor of what was answered ahead, with the room behind its lists' ends.
func TestAnswersApart(t *testing.T) {
	for _, l := range apartSegments(t) {
		was := slices.Clone(l[:cap(l)])
		want, other, got := slowScan(5, l), Scan(5, l), Scan(5, l)
		spoilResult(got)
		if !slices.Equal(l[:cap(l)], was) || !same(other, want) {
			t.Fatalf("%s: what was given, or answered ahead, has changed", text(want))
		}
		is(t, "once more", 5, l, want)
	}
}

// P19.1: an answer's records are apart from one another: what is changed in one, and laid behind it, is in none of the others.
func TestRecordsApart(t *testing.T) {
	for _, l := range apartSegments(t) {
		for i := range Scan(5, l).Recs {
			got := Scan(5, l)
			want := copied(got)
			for k := range got.Recs[i][:cap(got.Recs[i])] {
				got.Recs[i][:cap(got.Recs[i])][k] ^= 255
			}
			grown := append(got.Recs[i], slices.Repeat([]byte{9}, longest)...)
			if len(grown) != len(want.Recs[i])+longest || !sameRecs(got.Recs[:i], want.Recs[:i]) || !sameRecs(got.Recs[i+1:], want.Recs[i+1:]) {
				t.Fatalf("%s: another record has changed with that at %d", text(want), i)
			}
		}
	}
}

// P19.1, P19.2: what is answered hangs on what is given alone: once more, and behind other calls, it is the same.
func TestOnceMore(t *testing.T) {
	l := segments(t)
	var was []Result
	for _, s := range l {
		was = append(was, Scan(s.epoch, s.secs))
	}
	for i, s := range slices.Backward(l) {
		is(t, s.what(), s.epoch, s.secs, was[i])
		restIs(t, s.what(), s.secs, s.end(), true)
		restIs(t, s.what(), s.secs, s.end()-1, len(s.recs) == 0 || slowRest(s.secs, s.end()-1))
	}
}
