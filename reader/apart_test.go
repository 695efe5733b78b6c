package reader

import (
	"slices"
	"testing"

	"strandline/api"
	"strandline/disk"
	"strandline/scan"
)

// roomy is a copy of l, with sectors behind its end that are not its own.
func roomy(l []api.Sec, behind ...api.Sec) []api.Sec {
	return append(slices.Clone(l), behind...)[:len(l)]
}

// spoil turns all bits of b, and of the room behind its end.
func spoil(b []byte) {
	for i := range b[:cap(b)] {
		b[:cap(b)][i] ^= 255
	}
}

// spoilSectors turns all bits of l's sectors, and of those in the room behind its end.
func spoilSectors(l []api.Sec) {
	for i := range l[:cap(l)] {
		spoil(l[:cap(l)][i][:])
	}
}

// spoilResult changes all that an answer has, with the room behind the ends of its lists.
func spoilResult(r scan.Result) {
	for _, rec := range r.Recs {
		spoil(rec)
	}
	for i := range r.Recs[:cap(r.Recs)] {
		r.Recs[:cap(r.Recs)][i] = []byte{1, 2, 3}
	}
	for i := range r.Places[:cap(r.Places)] {
		r.Places[:cap(r.Places)][i] = -7
	}
}

// copied is r, with nothing that it shares.
func copied(r scan.Result) scan.Result {
	var recs [][]byte
	for _, rec := range r.Recs {
		recs = append(recs, slices.Clone(rec))
	}
	r.Recs, r.Places = recs, slices.Clone(r.Places)
	return r
}

// P24.1: the sectors that are given stay as they were, with those in the room behind their list's end, which play no part.
func TestGivenStays(t *testing.T) {
	for i, s := range stones(t) {
		for _, n := range []int{sectors, i % sectors} {
			l := roomy(s.secs[:n], s.secs[n:]...)
			was := slices.Clone(l[:cap(l)])
			for at := range all + 1 {
				From(s.epoch, l, at)
			}
			for _, at := range append(s.places, beyond()...) {
				asRead(t, s, s.epoch, l, at)
			}
			if !slices.Equal(l[:cap(l)], was) || len(l) != n {
				t.Fatalf("%v: what was given has changed", s)
			}
		}
	}
}

// P24.1: what is answered is new memory: it stays as it was when what was given changes, and changes nothing of that, nor of what was answered ahead.
func TestAnswerApart(t *testing.T) {
	for _, s := range stones(t) {
		for i, at := range s.places {
			if len(s.recs[i]) > longest {
				continue
			}
			l := roomy(s.secs, s.secs...)
			was := slices.Clone(l[:cap(l)])
			other, _, _ := From(s.epoch, l, at)
			got, _, _ := From(s.epoch, l, at)
			spoil(got)
			if !slices.Equal(l[:cap(l)], was) || !slices.Equal(other, s.recs[i]) {
				t.Fatalf("%v: what was given, or answered ahead, has changed", s)
			}
			stands(t, s, s.epoch, l, at, s.recs[i], s.behind[i])
			spoilSectors(l)
			if !slices.Equal(other, s.recs[i]) {
				t.Fatalf("%v: the record at %d has changed with what was given", s, at)
			}
		}
	}
}

// P24.2: what is answered is new memory: what is changed in it changes nothing of the disk, nor of what was answered ahead; and it stays as it was when the disk changes.
func TestDiskApart(t *testing.T) {
	for n, s := range stones(t) {
		h := heading(s.epoch, 1+n)
		if s.epoch == 0 || len(s.recs) == 0 || len(s.recs[0]) > longest {
			continue
		}
		d := laid(t, file(h, s.secs))
		before := told(d)
		at := api.Place{Seq: h.Seq, At: s.places[0]}
		rec, e := Read(d, at)
		fine(t, e)
		all, e := All(d, h.Seq)
		fine(t, e)
		wasRec, wasAll := slices.Clone(rec), copied(all)
		otherRec, _ := Read(d, at)
		otherAll, _ := All(d, h.Seq)
		spoil(otherRec)
		spoilResult(otherAll)
		if after := told(d); !after.equal(before) {
			t.Fatalf("%v: the disk has changed with an answer", s)
		}
		againstSlow(t, s, d, h.Seq, s.places...)
		fine(t, d.Write(slowLive(h.Seq), 0, marks("x", whole)))
		fine(t, d.Remove(slowLive(h.Seq)))
		if !slices.Equal(rec, wasRec) || !sameResult(all, wasAll) {
			t.Fatalf("%v: an answer has changed", s)
		}
	}
}

// P24.2: records of an answer of All are apart from one another.
func TestRecordsApart(t *testing.T) {
	s := stoneOf(t, 5, anything, 20, 0, 300, 20, 100)
	d := laid(t, file(heading(5, 1), s.secs))
	for i := range s.recs {
		got, e := All(d, 1)
		fine(t, e)
		spoil(got.Recs[i])
		_ = append(got.Recs[i], make([]byte, 50)...)
		for k := range s.recs {
			if k != i && !slices.Equal(got.Recs[k], s.recs[k]) {
				t.Fatalf("the record %d has changed with %d", k, i)
			}
		}
	}
}

// P24.2: neither changes the disk: its files, what waits, its ops, and when its power goes; nor is a Fail that is told come nearer.
func TestDiskStays(t *testing.T) {
	s := stoneOf(t, 5, anything, 20, 300, 20)
	for _, after := range []int{-1, 0, 1, 5} {
		for _, down := range []bool{false, true} {
			d := laid(t, api.File{Name: "a", L: marks("a", 3)}, file(heading(5, 1), s.secs), file(heading(5, 2), s.secs[:7]), api.File{Name: "wal-3", L: marks("w", whole)})
			fine(t, d.Write("wal-1", 0, append([]api.Sec{slowSector(heading(5, 1))}, s.secs[:9]...)))
			if after >= 0 {
				fine(t, d.Fail(after))
			}
			if down {
				goDown(t, d)
			}
			c, before := d.Clone(), told(d)
			for seq := -1; seq < 6; seq++ {
				againstSlow(t, "no change", d, seq, places()...)
				if now := told(d); !now.equal(before) {
					t.Fatalf("%v, it was %v", now, before)
				}
			}
			if other := told(c); !other.equal(before) {
				t.Fatal("a clone has changed")
			}
		}
	}
}

// P24.1, P24.2: what is answered hangs on what is given alone: once more, behind other calls, and of a clone, it is the same.
func TestOnceMore(t *testing.T) {
	s, other := stoneOf(t, 5, anything, 20, 300, 20), stoneOf(t, 6, rights, 90, 300)
	d, b := laid(t, file(heading(5, 1), s.secs)), laid(t, file(heading(6, 1), other.secs))
	for range 3 {
		for _, x := range []*disk.Disk{d, d.Clone(), nil, b, d} {
			for seq := range 3 {
				if x == nil {
					refuses(t, "no disk", nil, max(seq, 1), api.ErrState)
				} else {
					againstSlow(t, "once more", x, seq, 0, 13, 31, 104, 208, 500)
				}
			}
		}
		everywhere(t, s, 5, s.secs)
		everywhere(t, other, 6, other.secs)
	}
}
