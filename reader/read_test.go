package reader

import (
	"math"
	"slices"
	"strconv"
	"testing"

	"strandline/api"
	"strandline/disk"
	"strandline/scan"
)

// rightHeaders are at the bounds of what is right, and between.
func rightHeaders() []api.Header {
	return []api.Header{
		heading(1, 1), heading(5, 1), heading(6, 2), heading(7, 12), heading(math.MaxUint64, 3), heading(1<<63, mostLSN), heading(1<<32, mostLSN-1), heading(1<<32+3, 1<<30),
		{Epoch: 1, Seq: 1, First: 1}, {Epoch: 9, Seq: 4, First: mostLSN, Heads: [4]int{mostLSN - 1, 1, mostLSN - 2, mostLSN - 1}},
	}
}

// noNumbers have no live name.
func noNumbers() []int {
	return []int{math.MinInt, math.MinInt + 1, -1<<32 - 1, -1 << 32, 1 - 1<<32, -mostLSN - 1, -mostLSN, -12, -2, -1, 0, mostLSN + 1, mostLSN + 2, 1<<32 - 1, 1 << 32, 1<<32 + 1, 1 << 62, math.MaxInt - 1, math.MaxInt}
}

// P24.2: of right headers, by their Epochs, each segment's records at their places, and all that the segment has.
func TestHeaders(t *testing.T) {
	for i, h := range rightHeaders() {
		for _, lengths := range [][]int{{}, {20}, {20, 300, 20}, {longest, 265}, {20, 513, 20}, filling(60)} {
			s := stoneOf(t, h.Epoch, look(i)%looks, lengths...)
			d := laid(t, file(h, s.secs))
			for r, at := range s.places {
				if len(s.recs[r]) > longest {
					reads(t, s, d, api.Place{Seq: h.Seq, At: at}, nil, api.ErrCorrupt)
				} else {
					reads(t, s, d, api.Place{Seq: h.Seq, At: at}, s.recs[r], api.OK)
				}
			}
			againstSlow(t, s, d, h.Seq, beyond()...)
			if r, e := All(d, h.Seq); e != api.OK || !sameResult(r, scan.Scan(h.Epoch, s.secs)) {
				t.Fatalf("%v: %s, error %d", s, text(r), e)
			}
		}
	}
}

// P24.2: all segments, each place: by the header's Epoch, and by no other one.
func TestEachPlaceOfFile(t *testing.T) {
	for i, s := range stones(t) {
		h := heading(max(s.epoch, 1), 1+i)
		other := heading(max(s.epoch, 1)^1<<40, 1+i)
		againstSlow(t, s, laid(t, file(h, s.secs)), 1+i, append(places()[i%3:], s.places...)...)
		againstSlow(t, s, laid(t, file(other, s.secs)), 1+i, s.places...)
	}
}

// P24.2: sectors of another epoch than the header's: nothing stands there, and All tells of a torn end.
func TestOtherEpoch(t *testing.T) {
	s := stoneOf(t, 5, anything, 20, 300, 20)
	for _, epoch := range []uint64{1, 4, 6, 5 + 1<<32, 5 ^ 1<<63, math.MaxUint64} {
		d := laid(t, file(heading(epoch, 3), s.secs))
		for _, at := range s.places {
			reads(t, s, d, api.Place{Seq: 3, At: at}, nil, api.ErrCorrupt)
		}
		tells(t, s, d, 3, scan.Result{Kind: torn}, api.OK)
	}
}

// P24.2: numbers that have no live name: ErrArg, whatever the disk is.
func TestArg(t *testing.T) {
	s := stoneOf(t, 5, anything, 20)
	l := append([]api.Sec{slowSector(heading(5, 1))}, s.secs...)
	d := laid(t, api.File{Name: "wal-0", L: l}, api.File{Name: "wal-1", L: l}, api.File{Name: "wal-2147483648", L: l}, api.File{Name: "wal--1", L: l})
	down := d.Clone()
	goDown(t, down)
	for _, seq := range noNumbers() {
		refuses(t, "no number", d, seq, api.ErrArg)
		refuses(t, "no number, down", down, seq, api.ErrArg)
		refuses(t, "no number, no disk", nil, seq, api.ErrArg)
	}
}

// P24.2: of no disk ErrState, of one that is down ErrDown, of a file that isn't there ErrNone: also where others are, with names near to it.
func TestStateDownNone(t *testing.T) {
	s := stoneOf(t, 5, anything, 20)
	d := laid(t, file(heading(5, 1), s.secs), file(heading(5, 12), s.secs), file(heading(5, 3), s.secs))
	for _, name := range []string{"free-1", "wal-02", "wal-2-", "2", "wal-20", "wal"} {
		fine(t, d.Make(name, whole))
		fine(t, d.Write(name, 0, append([]api.Sec{slowSector(heading(5, 2))}, s.secs...)))
	}
	down := d.Clone()
	goDown(t, down)
	for _, seq := range []int{1, 2, 3, 4, 11, 12, 13, 20, 21, 120, mostLSN - 1, mostLSN} {
		refuses(t, "no disk", nil, seq, api.ErrState)
		refuses(t, "down", down, seq, api.ErrDown)
		switch seq {
		case 1, 3, 12:
			reads(t, "there", d, api.Place{Seq: seq}, s.recs[0], api.OK)
		case 20:
			// Its header is another one's.
			refuses(t, "another one's header", d, seq, api.ErrCorrupt)
		default:
			refuses(t, "not there", d, seq, api.ErrNone)
			refuses(t, "no files", disk.New(50), seq, api.ErrNone)
		}
	}
}

// P24.2: files of each length: ErrCorrupt, but of SegSectors sectors.
func TestLengths(t *testing.T) {
	s := stoneOf(t, 5, anything, 20, 300, 20)
	data := append(slices.Clone(s.secs), make([]api.Sec, 50)...)
	for n := 1; n <= 64; n++ {
		d := laid(t, file(heading(5, 12), data[:n-1]))
		if n != whole {
			refuses(t, strconv.Itoa(n)+" sectors", d, 12, api.ErrCorrupt)
			continue
		}
		againstSlow(t, "a segment", d, 12, s.places...)
		tells(t, "a segment", d, 12, scan.Scan(5, s.secs), api.OK)
	}
}

// P24.2: a first sector that is no header's, or of another Seq, and a header with one byte changed, for each byte and some changes: ErrCorrupt.
func TestNoHeader(t *testing.T) {
	s := stoneOf(t, 5, anything, 20)
	h := heading(5, 12)
	first := []api.Sec{{}, {0: 1}, {63: 1}, mark("x", 1), s.secs[0], slowSector(heading(0, 12)), slowSector(api.Header{Epoch: 5, Seq: 12}), slowSector(api.Header{Epoch: 5, Seq: 12, First: 7, Heads: [4]int{7, 0, 0, 0}})}
	for _, seq := range []int{1, 2, 11, 13, 120, 268, 12 + 1<<16, mostLSN} {
		first = append(first, slowSector(heading(5, seq)))
	}
	for at := range sector {
		for _, bits := range []byte{1, 128, 255} {
			c := slowSector(h)
			c[at] ^= bits
			first = append(first, c)
		}
	}
	for _, c := range first {
		refuses(t, "no header", laid(t, api.File{Name: "wal-12", L: append([]api.Sec{c}, s.secs...)}), 12, api.ErrCorrupt)
	}
	reads(t, "its header", laid(t, file(h, s.secs)), api.Place{Seq: 12}, s.recs[0], api.OK)
}

// P24.2: of the errors that hold at once, each with each other, the answer is the one that is named first.
func TestErrorOrder(t *testing.T) {
	s := stoneOf(t, 5, anything, 20)
	up := laid(t, file(heading(5, 1), s.secs), file(heading(5, 2), s.secs[:15]), api.File{Name: "wal-3", L: make([]api.Sec, whole)}, api.File{Name: "wal-4", L: append([]api.Sec{slowSector(heading(5, 1))}, s.secs...)})
	failing, down := up.Clone(), up.Clone()
	fine(t, failing.Fail(0))
	goDown(t, down)
	for seq := -2; seq < 8; seq++ {
		for _, d := range []*disk.Disk{nil, down, failing, up} {
			want := api.OK
			switch {
			case seq < 1:
				want = api.ErrArg
			case d == nil:
				want = api.ErrState
			case d == down:
				want = api.ErrDown
			case seq > 4:
				want = api.ErrNone
			case seq > 1:
				want = api.ErrCorrupt
			}
			before := told(d)
			if want != api.OK {
				refuses(t, "errors", d, seq, want)
			} else {
				reads(t, "no error", d, api.Place{Seq: seq}, s.recs[0], api.OK)
				reads(t, "nothing stands there", d, api.Place{Seq: seq, At: 1}, nil, api.ErrCorrupt)
				tells(t, "no error", d, seq, scan.Scan(5, s.secs), api.OK)
			}
			if after := told(d); !after.equal(before) {
				t.Fatalf("%d: %v, it was %v", seq, after, before)
			}
		}
	}
}

// P24.2: what waits is read, as it is seen; behind a crash, what is lasting is: header, sectors, and each alone.
func TestWaits(t *testing.T) {
	was, is := stoneOf(t, 5, anything, 20, 300, 20), stoneOf(t, 6, firsts, 93, 10, 300)
	for k := range 1 << 6 {
		d := laid(t, api.File{Name: "a", L: marks("a", 3)}, file(heading(5, 1), was.secs), file(heading(9, 2), was.secs))
		fine(t, d.Write("a", 0, marks("b", 2)))
		if k&1 == 1 {
			fine(t, d.Write("wal-1", 0, []api.Sec{slowSector(heading(6, 1))}))
		}
		for i := range sectors {
			if k>>(1+i%5)&1 == 1 {
				fine(t, d.Write("wal-1", 1+i, is.secs[i:i+1]))
			}
		}
		at := slices.Concat(was.places, is.places)
		againstSlow(t, "what waits", d, 1, at...)
		for _, c := range []api.Crash{{Torn: -1}, {Keep: []byte{255, 255, 255, 255}, Torn: -1}, {Keep: []byte{byte(k), byte(7 * k), byte(11 * k)}, Torn: k % 20, Cut: k}} {
			left := d.Clone()
			left.Crash(c)
			againstSlow(t, "behind a crash", left, 1, at...)
		}
		fine(t, d.Sync("wal-1"))
		d.Crash(api.Crash{Torn: -1})
		againstSlow(t, "behind a Sync", d, 1, at...)
	}
}

// P24.2: neither looks at another file than that of its number, nor at another one's Epoch.
func TestOneFile(t *testing.T) {
	a, b := stoneOf(t, 5, anything, 20, 300, 20), stoneOf(t, 6, anything, 93, 10, 300)
	d := laid(t, file(heading(5, 1), a.secs), file(heading(6, 2), b.secs), file(heading(6, 10), a.secs), api.File{Name: "free-1", L: append([]api.Sec{slowSector(heading(7, 1))}, b.secs...)})
	for r, at := range a.places {
		reads(t, a, d, api.Place{Seq: 1, At: at}, a.recs[r], api.OK)
	}
	for r, at := range b.places {
		reads(t, b, d, api.Place{Seq: 2, At: at}, b.recs[r], api.OK)
	}
	reads(t, b, d, api.Place{Seq: 10, At: 0}, nil, api.ErrCorrupt)
	tells(t, a, d, 1, scan.Scan(5, a.secs), api.OK)
	tells(t, b, d, 2, scan.Scan(6, b.secs), api.OK)
	tells(t, b, d, 10, scan.Result{Kind: torn}, api.OK)
}
