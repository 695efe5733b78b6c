package live

import (
	"slices"
	"testing"

	"strandline/api"
	"strandline/disk"
)

// roomy is a copy of l, with more behind the end of each of its lists, and of itself.
func roomy(l []Segment) []Segment {
	l = copied(l)
	for i := range l {
		s := &l[i]
		for k := range s.Recs {
			s.Recs[k].Data = append(s.Recs[k].Data, 1, 2, 3)[:len(s.Recs[k].Data)]
		}
		s.Recs = append(s.Recs, rec(1, 7, 3), rec(9, -1, -1))[:len(s.Recs)]
		s.Places = append(s.Places, 99, -1)[:len(s.Places)]
	}
	return append(l, Segment{}, seg(heading(1, 1), rec(1, 7, 3)))[:len(l)]
}

// deep is a copy of l with all that lies behind its lists' ends.
func deep(l []Segment) []Segment {
	l = slices.Clone(l[:cap(l)])
	for i := range l {
		s := &l[i]
		s.Recs, s.Places = slices.Clone(s.Recs[:cap(s.Recs)]), slices.Clone(s.Places[:cap(s.Places)])
		for k := range s.Recs {
			s.Recs[k].Data = slices.Clone(s.Recs[k].Data[:cap(s.Recs[k].Data)])
		}
	}
	return l
}

// spoilAll changes all that l has, with the room behind its lists' ends.
func spoilAll(l []Segment) {
	l = l[:cap(l)]
	for i := range l {
		for k := range l[i].Recs[:cap(l[i].Recs)] {
			r := &l[i].Recs[:cap(l[i].Recs)][k]
			for n := range r.Data[:cap(r.Data)] {
				r.Data[:cap(r.Data)][n] ^= 255
			}
			*r = api.Rec{Kind: -5, Chain: 2, LSN: -5, Prev: -5}
		}
		for k := range l[i].Places[:cap(l[i].Places)] {
			l[i].Places[:cap(l[i].Places)][k] = -5
		}
		l[i] = Segment{Kind: -5}
	}
}

// P25.1: what is handed in stays as it was, with what lies in the room behind its lists' ends, which plays no part.
func TestGivenStays(t *testing.T) {
	for _, l := range grownAll() {
		lists := [][]Segment{l}
		for i, f := range append(misshapes(l), astray(l)...) {
			if i%7 == 0 {
				lists = append(lists, f.of(l))
			}
		}
		for _, given := range lists {
			want, next, heads := slowCheck(given), slowNext(given), slowHeads(given)
			given = roomy(given)
			was := deep(given)
			for range 2 {
				checks(t, "with more behind", given, want)
				tells(t, "with more behind", given, next, heads)
			}
			if !same(deep(given), was) {
				t.Fatalf("what was given has changed: %s", text(deep(given)))
			}
		}
	}
}

// P25.1: what Heads answers is new memory: what is changed in it changes nothing of what was given, nor of a later answer.
func TestHeadsApart(t *testing.T) {
	for _, l := range grownAll() {
		was := copied(l)
		heads := Heads(l)
		for c := range heads {
			heads[c] = -9
		}
		if !same(l, was) {
			t.Fatalf("what was given has changed: %s", text(l))
		}
		tells(t, "once more", l, slowNext(was), slowHeads(was))
		heads = Heads(l)
		spoilAll(l)
		if heads != slowHeads(was) {
			t.Fatalf("an answer has changed: %v", heads)
		}
	}
}

// P25.2: what Load answers is new memory: what is changed in it changes nothing of the disk, nor of another answer; and it stays as it was when the disk changes.
func TestLoadedApart(t *testing.T) {
	for _, l := range grownAll() {
		d := laid(t, files(t, l)...)
		before := told(d)
		kept, e := Load(d)
		fine(t, e)
		other, e := Load(d)
		fine(t, e)
		spoilAll(other)
		if after := told(d); !after.equal(before) {
			t.Fatalf("%v, it was %v", after, before)
		}
		if !same(kept, l) {
			t.Fatalf("an answer has changed: %s", text(kept))
		}
		loads(t, "once more", d, l, api.OK)
		for _, f := range d.List() {
			fine(t, d.Write(f, 0, marks("x", whole)))
			fine(t, d.Sync(f))
			fine(t, d.Remove(f))
		}
		if !same(kept, l) {
			t.Fatalf("an answer has changed with the disk: %s", text(kept))
		}
	}
}

// P25.2: no two lists of one answer share any: what is changed in one, or put behind its end, changes no other one.
func TestListsApart(t *testing.T) {
	l := grown(heading(5, 8), []int{0, 1, 1, 0, 3}, []int{2, 2}, nil, []int{0, 1, 2})
	d := laid(t, files(t, l)...)
	for i, s := range l {
		for k := range s.Recs {
			got, e := Load(d)
			fine(t, e)
			for n := range got[i].Recs[k].Data {
				got[i].Recs[k].Data[n] ^= 255
			}
			_ = append(got[i].Recs[k].Data, make([]byte, 90)...)
			got[i].Recs[k].Data = l[i].Recs[k].Data
			if !same(got, l) {
				t.Fatalf("the Data of the record %d of %d is another's too: %s", k, i, text(got))
			}
		}
		got, e := Load(d)
		fine(t, e)
		for k := range got[i].Recs {
			got[i].Recs[k] = api.Rec{}
		}
		for k := range got[i].Places {
			got[i].Places[k] = -1
		}
		_ = append(got[i].Recs, make([]api.Rec, 90)...)
		_ = append(got[i].Places, make([]int, 90)...)
		got[i] = l[i]
		if !same(got, l) {
			t.Fatalf("the lists of the segment %d are another's too: %s", i, text(got))
		}
	}
}

// P25.2: Load changes nothing of the disk: neither its files, nor what waits, its ops, or when its power goes.
func TestDiskStays(t *testing.T) {
	l := grown(heading(5, 8), []int{0, 1}, []int{2}, nil)
	faults := ofFiles(t, l)
	for i := -1; i < len(faults); i += 5 {
		for _, after := range []int{-1, 0, 1, 5} {
			for _, down := range []bool{false, true} {
				d := laid(t, append(files(t, l), api.File{Name: "free-1", L: marks("f", 3)})...)
				if i >= 0 {
					d = spoil(t, l, faults[i])
				}
				fine(t, d.Write(d.List()[0], 0, marks("w", 1)))
				fine(t, d.Make("b", 4))
				fine(t, d.Write("b", 1, marks("b", 2)))
				if after >= 0 {
					fine(t, d.Fail(after))
				}
				if down {
					goDown(t, d)
				}
				c, before := d.Clone(), told(d)
				for range 3 {
					asSlow(t, "no change", d)
				}
				if now := told(d); !now.equal(before) {
					t.Fatalf("%v, it was %v", now, before)
				}
				if other := told(c); !other.equal(before) {
					t.Fatal("a clone has changed")
				}
			}
		}
	}
}

// P25.1, P25.2: what is answered hangs on what is given alone: once more, behind other calls, and of a clone, it is the same.
func TestOnceMore(t *testing.T) {
	lists := grownAll()
	var disks []*disk.Disk
	for _, l := range lists {
		disks = append(disks, laid(t, files(t, l)...))
	}
	for range 3 {
		for i, l := range lists {
			loads(t, "once more", disks[i], l, api.OK)
			loads(t, "of a clone", disks[i].Clone(), l, api.OK)
			checks(t, "once more", l, api.OK)
			tells(t, "once more", l, slowNext(l), slowHeads(l))
			refuses(t, "no disk", nil, api.ErrState)
			checks(t, "a wrong one between", []Segment{{}}, api.ErrArg)
		}
	}
}
