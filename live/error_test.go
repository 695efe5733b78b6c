package live

import (
	"fmt"
	"math"
	"slices"
	"testing"

	"strandline/api"
	"strandline/disk"
)

// spoiled is something that is made wrong in the files of segments that are right together; each one's error is ErrCorrupt.
type spoiled struct {
	what string
	seg  int
	do   func(f []api.File)
}

// noRecords are bytes that are no record's: layer 11's words.
func noRecords() [][]byte {
	return [][]byte{
		{}, {1}, {1, 0}, {1, 0, 70}, {1, 0, 198}, {1, 0, 70, 129}, {0, 0, 70, 1}, {10, 0, 70, 1}, {255, 0, 70, 1}, {1, 4, 70, 1}, {1, 255, 70, 1},
		{1, 0, 0, 1}, {1, 0, 70, 0}, {1, 0, 70, 71}, {1, 0, 198, 0, 1}, {1, 0, 70, 129, 0},
		slices.Concat([]byte{1, 0}, short(1<<31), []byte{1}), slices.Concat([]byte{1, 0}, short(1<<32+70), []byte{1}),
		slices.Concat([]byte{1, 0, 70}, short(1<<32+1)), slices.Concat([]byte{1, 0}, short(math.MaxUint64), []byte{1}), slices.Concat([]byte{1, 0, 70}, short(math.MaxUint64)),
		slices.Repeat([]byte{255}, 20), make([]byte, 30), make([]byte, longest), []byte("no record"),
	}
}

// withBytes are the bytes of a segment's records, with b in the place of the k-th one, or behind the last one.
func withBytes(s Segment, k int, b []byte) [][]byte {
	var l [][]byte
	for _, r := range s.Recs {
		l = append(l, bytesOf(r))
	}
	return append(append(l[:k:k], b), l[min(k+1, len(l)):]...)
}

// spoiledHeaders are sectors in the place of a header's.
func spoiledHeaders(h api.Header) []api.Sec {
	l := []api.Sec{{}, {0: 1}, {63: 1}, mark("x", 1), stamped(h.Epoch, 0, fragment(1, h.Epoch, nil))}
	for _, other := range []api.Header{
		{}, {Epoch: h.Epoch, Seq: h.Seq}, {Seq: h.Seq, First: h.First}, {Epoch: h.Epoch, First: h.First}, {Epoch: h.Epoch, Seq: h.Seq, First: h.First, Heads: [chains]int{0, 0, 0, h.First}},
		{Epoch: h.Epoch, Seq: h.Seq + 1, First: h.First, Heads: h.Heads}, {Epoch: h.Epoch, Seq: h.Seq - 1, First: h.First, Heads: h.Heads}, {Epoch: h.Epoch, Seq: 10 * h.Seq, First: h.First, Heads: h.Heads}, {Epoch: h.Epoch, Seq: h.Seq + 1<<16, First: h.First, Heads: h.Heads},
	} {
		l = append(l, slowSector(other))
	}
	for at := range sector {
		s := slowSector(h)
		s[at] ^= 1 << (at % 8)
		l = append(l, s)
	}
	return l
}

// ofFiles are the faults that files may have: of each length, with each spoiled header, with bytes that are no record's, with a torn end, and a gap.
func ofFiles(t *testing.T, l []Segment) []spoiled {
	t.Helper()
	var out []spoiled
	for i, s := range l {
		add := func(what string, do func(f []api.File)) { out = append(out, spoiled{what, i, do}) }
		for _, n := range []int{1, 2, 15, 16, 18, 33, 34, 64} {
			add(fmt.Sprintf("%d sectors", n), func(f []api.File) {
				f[i].L = append(slices.Clone(f[i].L), marks("behind", 64)...)[:n]
			})
		}
		for k, sec := range spoiledHeaders(s.H) {
			add(fmt.Sprintf("the header %d", k), func(f []api.File) { f[i].L[0] = sec })
		}
		for n, b := range noRecords() {
			for k := range len(s.Recs) + 1 {
				spoilt := fileOf(t, s.H, withBytes(s, k, b)...)
				add(fmt.Sprintf("no record, %d, at %d", n, k), func(f []api.File) { f[i].L = spoilt.L })
			}
		}
		if i == len(l)-1 {
			continue
		}
		add("torn", func(f []api.File) { f[i].L[whole-1] = mark("torn", i) })
		if i > 0 {
			// A name that is none's takes it out of the log.
			add("a gap", func(f []api.File) { f[i].Name = "gone-" + f[i].Name })
		}
	}
	return out
}

// rightRec tells whether a record is right: layer 11's words.
func rightRec(r api.Rec) bool {
	_, ok := slowRec(bytesOf(r))
	return ok && r.Chain >= 0 && r.Chain < chains && r.LSN <= mostLSN
}

// ofTogether are the faults of segments that may be laid: each header and each record is right by itself.
func ofTogether(t *testing.T, l []Segment) []spoiled {
	t.Helper()
	var out []spoiled
	for _, f := range astray(l) {
		s := f.of(l)[f.seg]
		if s.Kind != clean || slices.ContainsFunc(s.Recs, func(r api.Rec) bool { return !rightRec(r) }) {
			continue
		}
		laid := file(t, s)
		same := func(other Segment) bool { return other.H.Seq == s.H.Seq }
		if s.H.Seq != l[f.seg].H.Seq && slices.ContainsFunc(l, same) {
			// No two files have one name.
			continue
		}
		out = append(out, spoiled{f.what, f.seg, func(files []api.File) { files[f.seg] = laid }})
	}
	return out
}

// spoil is a disk of the files of segments, with this fault.
func spoil(t *testing.T, l []Segment, s spoiled) *disk.Disk {
	t.Helper()
	f := files(t, l)
	s.do(f)
	return laid(t, f...)
}

// namesApart tells whether no two files have one name.
func namesApart(f []api.File) bool {
	for i := range f {
		for k := range i {
			if f[i].Name == f[k].Name {
				return false
			}
		}
	}
	return true
}

// P25.2: ErrState of no disk, ErrDown of one that is down, whatever else is wrong; a Fail that is only told changes nothing.
func TestStateAndDown(t *testing.T) {
	refuses(t, "no disk", nil, api.ErrState)
	l := grown(heading(5, 8), []int{0, 1}, []int{3}, nil)
	disks := []*disk.Disk{disk.New(0), disk.New(40), laid(t, api.File{Name: "a", L: marks("a", 3)}), laid(t, files(t, l)...), laid(t, files(t, l)[1])}
	for _, s := range append(ofFiles(t, l), ofTogether(t, l)...) {
		disks = append(disks, spoil(t, l, s))
	}
	for i, d := range disks {
		want, e := asSlow(t, i, d)
		if (i < 5) != (e == api.OK) {
			t.Fatalf("the disk %d: error %d", i, e)
		}
		if d.Used() == 0 && d.Make("x", 1) != api.OK {
			continue
		}
		fine(t, d.Fail(0))
		loads(t, "a Fail is told", d, want, e)
		goDown(t, d)
		refuses(t, "down", d, api.ErrDown)
		refuses(t, "down, once more", d, api.ErrDown)
		d.Crash(api.Crash{Torn: -1})
		loads(t, "up again", d, want, e)
	}
}

// P25.2: ErrCorrupt of each fault that one file may have, at the first, a middle and the last segment.
func TestSpoiledFiles(t *testing.T) {
	for _, l := range grownAll()[:12] {
		for _, s := range ofFiles(t, l) {
			refuses(t, fmt.Sprintf("%s, at %d", s.what, s.seg), spoil(t, l, s), api.ErrCorrupt)
		}
	}
}

// P25.2: ErrCorrupt of segments each of which is right by itself, but which aren't right together.
func TestSpoiledTogether(t *testing.T) {
	n := 0
	for _, l := range grownAll() {
		for _, s := range ofTogether(t, l) {
			refuses(t, fmt.Sprintf("%s, at %d", s.what, s.seg), spoil(t, l, s), api.ErrCorrupt)
			n++
		}
	}
	if n < 700 {
		t.Errorf("just %d faults", n)
	}
}

// P25.2: two faults on one disk, in both orders: no segments beside the error.
func TestTwoSpoiled(t *testing.T) {
	for _, rows := range [][][]int{{{0}, {1}}, {{0, 1, 1}, {}, {2, 0}}} {
		l := grown(heading(5, 9), rows...)
		faults := append(ofFiles(t, l), ofTogether(t, l)...)
		for i, one := range faults {
			for k, other := range faults {
				if one.seg == other.seg || (i+k)%17 != 0 {
					continue
				}
				f := files(t, l)
				one.do(f)
				other.do(f)
				if namesApart(f) {
					refuses(t, one.what+", and "+other.what, laid(t, f...), api.ErrCorrupt)
				}
			}
		}
	}
}

// P25.2: each live file of each length but SegSectors is ErrCorrupt, alone and among others.
func TestLengths(t *testing.T) {
	l := grown(heading(5, 9), []int{0, 1}, []int{2}, []int{1})
	for i := range l {
		for n := 1; n <= 64; n++ {
			f := files(t, l)
			f[i].L = append(f[i].L, make([]api.Sec, 64)...)[:n]
			want, e := l, api.OK
			if n != whole {
				want, e = nil, api.ErrCorrupt
			}
			loads(t, n, laid(t, f...), want, e)
			if e == api.OK {
				want = l[i : i+1]
			}
			loads(t, n, laid(t, f[i]), want, e)
		}
	}
}

// P25.2: numbers with gaps between: ErrCorrupt, unless what is left is one row.
func TestGaps(t *testing.T) {
	rows := [][]int{{0}, {}, {1, 1}, {2}, {}, {3}, {0}}
	for _, from := range []int{1, 8, 97, mostLSN - 6} {
		l := grown(heading(5, from), rows...)
		f := files(t, l)
		for keep := range 1 << len(l) {
			var left []api.File
			var want []Segment
			gaps := 0
			for i := range l {
				if keep>>i&1 == 0 {
					continue
				}
				if len(want) > 0 && l[i].H.Seq != want[len(want)-1].H.Seq+1 {
					gaps++
				}
				left, want = append(left, f[i]), append(want, l[i])
			}
			if gaps > 0 {
				refuses(t, "gaps", laid(t, left...), api.ErrCorrupt)
			} else {
				loads(t, "no gaps", laid(t, left...), want, api.OK)
			}
		}
	}
}

// P25.2: two logs of one disk, of which neither goes on behind the other.
func TestTwoLogs(t *testing.T) {
	one, other := grown(heading(5, 1), []int{0}, []int{1}), grown(heading(50, 3), []int{0}, []int{1})
	refuses(t, "another log behind", laid(t, append(files(t, one), files(t, other)...)...), api.ErrCorrupt)
	next := grown(one[1].H, []int{1}, []int{2}, []int{3})
	loads(t, "the same log", laid(t, append(files(t, one[:1]), files(t, next)...)...), append(one[:1:1], next...), api.OK)
}

// P25.2: records of another segment of the same numbers aren't taken for this one's: its epoch tells it.
func TestOtherEpochBehind(t *testing.T) {
	h := heading(5, 3)
	one := seg(h, rec(0, 70, 69), rec(1, 71, 0))
	for _, epoch := range []uint64{1, 4, 6, 5 + 1<<32, 5 ^ 1<<63} {
		f := file(t, one)
		h.Epoch = epoch
		f.L[0] = slowSector(h)
		loads(t, "another epoch", laid(t, f), []Segment{{H: h, Kind: torn}}, api.OK)
	}
}
