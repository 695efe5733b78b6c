package live

import (
	"math"
	"slices"
	"strconv"
	"strings"
	"testing"

	"strandline/api"
	"strandline/disk"
)

// P25.2: of segments that are right together, in whatever order their files are told: all of them, by rising Seq.
func TestLoad(t *testing.T) {
	for n, l := range grownAll() {
		f := files(t, l)
		loads(t, "rising", laid(t, f...), l, api.OK)
		slices.Reverse(f)
		loads(t, "falling", laid(t, f...), l, api.OK)
		r := dice(n)
		for i := range f {
			k := i + r.roll(len(f)-i)
			f[i], f[k] = f[k], f[i]
		}
		loads(t, "mixed", laid(t, f...), l, api.OK)
	}
}

// orders are all orders of the numbers below n.
func orders(n int) [][]int {
	if n == 0 {
		return [][]int{{}}
	}
	var l [][]int
	for _, o := range orders(n - 1) {
		for at := range n {
			l = append(l, slices.Insert(slices.Clone(o), at, n-1))
		}
	}
	return l
}

// P25.2: live files that are made, or get their names, in every order.
func TestLoadOrders(t *testing.T) {
	l := grown(heading(5, 8), []int{0, 1}, []int{1}, nil, []int{3, 1}, []int{0})
	f := files(t, l)
	for _, order := range orders(len(l)) {
		var mixed []api.File
		for _, i := range order {
			mixed = append(mixed, f[i])
		}
		loads(t, order, laid(t, mixed...), l, api.OK)
		for i := range mixed {
			mixed[i].Name = "x-" + strconv.Itoa(i)
		}
		d := laid(t, mixed...)
		for i, k := range order {
			fine(t, d.Rename("x-"+strconv.Itoa(i), slowLive(l[k].H.Seq)))
		}
		loads(t, order, d, l, api.OK)
	}
}

// P25.2: numbers of few and of many digits: names rise otherwise than they do.
func TestLoadDigits(t *testing.T) {
	for _, from := range []int{1, 2, 8, 9, 10, 11, 12, 95, 99, 100, 109, 998, 999, 1000, 9999, 99998, 999999, 1<<16 - 2, 1<<24 - 2, 99999999, 999999998, 1 << 30, mostLSN - 3, mostLSN - 2} {
		rows := [][]int{{0, 1}, {}, {2, 2, 1}}
		for range min(20, mostLSN-from-2) {
			rows = append(rows, []int{from % chains})
		}
		l := grown(heading(7, from), rows...)
		if last := l[len(l)-1].H.Seq; last > mostLSN || last < from+2 {
			t.Fatalf("the last Seq is %d", last)
		}
		loads(t, from, laid(t, files(t, l)...), l, api.OK)
	}
}

// P25.2: as many segments as a disk has files, and all beginnings and ends of these.
func TestLoadMany(t *testing.T) {
	var rows [][]int
	for i := range 64 {
		row := make([]int, i%7)
		for k := range row {
			row[k] = (i + k) % chains
		}
		rows = append(rows, row)
	}
	l := grown(heading(1<<32-30, 70), rows...)
	f := files(t, l)
	loads(t, "all", laid(t, f...), l, api.OK)
	for i := range l {
		loads(t, "a beginning", laid(t, f[:i]...), l[:i], api.OK)
		loads(t, "an end", laid(t, f[i:]...), l[i:], api.OK)
	}
}

// otherNames are no live names, though some are near to one.
func otherNames() []string {
	return strings.Fields("a wal wal- wal-0 wal-00 wal-01 wal-001 wal--1 wal-1- wal-1-2 wal-1a wal-a1 wal-2147483648 wal-4294967297 wal-18446744073709551617 awal-1 wal1 1 -1 wal-10000000000 walwal-1 free-0 free-1 free-2 free-3 wall-1 pool-1 wal-1-wal-1")
}

// P25.2: files of other names play no part, whatever they are: alone, and beside live ones.
func TestLoadOtherNames(t *testing.T) {
	l := grown(heading(5, 1), []int{0, 1}, []int{3})
	for _, f := range [][]api.Sec{
		files(t, l)[0].L, files(t, l)[1].L, marks("m", whole), marks("m", 1), make([]api.Sec, whole), make([]api.Sec, 64), file(t, seg(heading(9, 3), rec(0, 70, 69))).L,
	} {
		var others []api.File
		for _, name := range otherNames() {
			loads(t, name, laid(t, api.File{Name: name, L: f}), nil, api.OK)
			loads(t, name, laid(t, append(files(t, l), api.File{Name: name, L: f})...), l, api.OK)
			others = append(others, api.File{Name: name, L: f})
		}
		loads(t, "all", laid(t, others...), nil, api.OK)
		loads(t, "all, and live ones", laid(t, append(others, files(t, l)...)...), l, api.OK)
	}
}

// sized is a record with as much Data that it has so many bytes in all.
func sized(n, chain, lsn, prev int) api.Rec {
	r := api.Rec{Kind: 1 + n%9, Chain: chain, LSN: lsn, Prev: prev}
	r.Data = mixed(n, n-len(bytesOf(r)))
	return r
}

// P25.2: records of each Kind and chain, of each length up to the longest, with their places.
func TestLoadRecords(t *testing.T) {
	lsn := 70
	for n := 12; n <= longest; n++ {
		h := heading(uint64(5+n), 1+n)
		h.First = lsn
		chain := n % chains
		l := []Segment{seg(h, sized(n, chain, lsn, h.Heads[chain]), sized(12+n%90, chain, lsn+1, lsn))}
		loads(t, n, laid(t, files(t, l)...), l, api.OK)
		lsn = max(70, (3*lsn+n)%(1<<(7+n%24)))
	}
	h := api.Header{Epoch: 1, Seq: mostLSN, First: mostLSN, Heads: [chains]int{mostLSN - 1, 0, 1, mostLSN / 2}}
	for chain := range chains {
		for n := 12; n <= longest; n += 50 {
			l := []Segment{seg(h, sized(n, chain, mostLSN, h.Heads[chain]))}
			loads(t, "the greatest number", laid(t, files(t, l)...), l, api.OK)
		}
	}
}

// P25.2: a record of more bytes than one may have isn't told by layer 19: there the segment ends torn.
func TestLoadTooLong(t *testing.T) {
	h := heading(5, 1)
	r, long := sized(20, 1, 70, 0), sized(longest+1, 1, 71, 70)
	one := seg(h, r)
	one.Kind = torn
	loads(t, "too long", laid(t, fileOf(t, h, bytesOf(r), bytesOf(long))), []Segment{one}, api.OK)
	refuses(t, "too long, and not the last one", laid(t, fileOf(t, h, bytesOf(r), bytesOf(long)), file(t, seg(api.Header{Epoch: 6, Seq: 2, First: 71, Heads: [chains]int{69, 70, 31, 1}}))), api.ErrCorrupt)
}

// P25.2: segments that are full to the last byte, and those with as many records as there may be.
func TestLoadFull(t *testing.T) {
	for n := range 180 {
		h := heading(uint64(1+n), 1+n)
		s := Segment{H: h}
		for next, at := h.First, 0; ; next++ {
			r := api.Rec{Kind: 1 + next%9, Chain: 1, LSN: next, Prev: next - 1, Data: mixed(next, n)}
			if next == h.First {
				r.Prev = 0
			}
			_, behind, ok := pieces(at, len(bytesOf(r)))
			if !ok {
				break
			}
			s.Recs, at = append(s.Recs, r), behind
		}
		l := []Segment{seg(h, s.Recs...)}
		loads(t, n, laid(t, files(t, l)...), l, api.OK)
	}
}

// tornTail is the file of a segment, with something behind its end.
func tornTail(t *testing.T, s Segment, n int) api.File {
	t.Helper()
	f := file(t, s)
	last := 1 + (s.End+room-1)/room
	switch {
	case n == 0 && s.End%room != 0:
		f.L[last-1][ahead+s.End%room] = 1
	case n == 1 && s.End%room != 0:
		f.L[last-1][sector-1] = 128
	case n == 2 && last < whole:
		f.L[last] = stamped(s.H.Epoch, last-1, fragment(3, s.H.Epoch, []byte("torn")))
	case n == 3 && last < whole:
		f.L[last][0] = 1
	case n == 4 && last < whole:
		f.L[whole-1][sector-1] = 1
	case n == 5 && s.End%room != 0:
		b := bytesOf(rec(1, 3, 2))
		copy(f.L[last-1][ahead+s.End%room:], fragment(2, s.H.Epoch, b[:2]))
	default:
		f.L[whole-1] = stamped(s.H.Epoch, 0, nil)
	}
	return f
}

// P25.2: a torn segment: the last one is told so, with all that is whole; another one is ErrCorrupt.
func TestLoadTorn(t *testing.T) {
	for _, l := range grownAll() {
		for i := range l {
			for n := range 7 {
				f := files(t, l)
				f[i] = tornTail(t, l[i], n)
				if i < len(l)-1 {
					refuses(t, "torn", laid(t, f...), api.ErrCorrupt)
					continue
				}
				changed := copied(l)
				changed[i].Kind = torn
				loads(t, "torn", laid(t, f...), changed, api.OK)
			}
		}
	}
}

// P25.2: a record that is lost with a sector, and all behind it: of the last segment the others are told; another one isn't whole, so what comes behind it doesn't go on.
func TestLoadLostSectors(t *testing.T) {
	var long []int
	for i := range 20 {
		long = append(long, i%chains)
	}
	l := grown(heading(5, 8), long, []int{1}, long)
	for i, s := range l {
		for k := range (s.End + room - 1) / room {
			f := files(t, l)
			f[i].L[1+k] = api.Sec{}
			if i < len(l)-1 {
				refuses(t, "lost", laid(t, f...), api.ErrCorrupt)
				loads(t, "behind it", laid(t, f[i+1:]...), l[i+1:], api.OK)
			}
			left := 0
			for left < len(s.Recs) && endOf(s, left) <= room*k {
				left++
			}
			got, e := asSlow(t, "the last one", laid(t, f[:i+1]...))
			if e != api.OK || !same(got[:i], l[:i]) {
				t.Fatalf("the sector %d of the segment %d lost: %s, error %d", k, i, text(got), e)
			}
			want := Segment{H: s.H, Recs: s.Recs[:left], Places: s.Places[:left], Kind: got[i].Kind}
			if left > 0 {
				want.End = endOf(s, left-1)
			}
			if !same(got[i:], []Segment{want}) {
				t.Fatalf("the sector %d of the segment %d lost: %s", k, i, text(got[i:]))
			}
		}
	}
}

// endOf is the place behind a segment's i-th record.
func endOf(s Segment, i int) int {
	_, behind, _ := pieces(s.Places[i], len(bytesOf(s.Recs[i])))
	return behind
}

// P25.2: of what waits, what is seen counts; behind a crash what is lasting does.
func TestLoadWaits(t *testing.T) {
	was := grown(heading(5, 1), []int{0, 1}, []int{3})
	is := grown(heading(9, 1), []int{2, 2, 1}, []int{0, 0})
	for k := range 1 << 4 {
		d := laid(t, files(t, was)...)
		fine(t, d.Make("a", 2))
		fine(t, d.Write("a", 0, marks("a", 2)))
		for i, f := range files(t, is) {
			if k>>(2*i)&1 == 1 {
				fine(t, d.Write(f.Name, 0, f.L[:1]))
			}
			if k>>(2*i)&2 == 2 {
				fine(t, d.Write(f.Name, 1, f.L[1:]))
			}
		}
		switch k {
		case 0:
			loads(t, "none waits", d, was, api.OK)
		case 15:
			loads(t, "all wait", d, is, api.OK)
		case 5, 10:
			asSlow(t, "headers, or what is behind", d)
		default:
			asSlow(t, "some wait", d)
		}
		for turn := range 30 {
			r := dice(turn)
			c := d.Clone()
			c.Crash(r.crash())
			asSlow(t, "behind a crash", c)
		}
		for _, f := range files(t, is) {
			fine(t, d.Sync(f.Name))
		}
		want, e := asSlow(t, "synced", d)
		d.Crash(api.Crash{Torn: -1})
		loads(t, "synced, and a crash", d, want, e)
	}
}

// P25.2: a segment that was begun but not renamed yet isn't live; renamed it is.
func TestLoadRenamed(t *testing.T) {
	l := grown(heading(5, 9), []int{0, 1}, []int{3}, nil)
	f := files(t, l)
	for i := range f {
		f[i].Name = "free-" + strconv.Itoa(i)
	}
	d := laid(t, f...)
	loads(t, "free", d, nil, api.OK)
	for i := range f {
		fine(t, d.Rename(f[i].Name, slowLive(l[i].H.Seq)))
		loads(t, "live", d, l[:i+1], api.OK)
	}
	for i := range f {
		fine(t, d.Rename(slowLive(l[i].H.Seq), f[i].Name))
		loads(t, "free once more", d, l[i+1:], api.OK)
	}
	fine(t, d.Rename("free-0", "wal-1"))
	refuses(t, "of another number", d, api.ErrCorrupt)
}

// P25.2: as the first one a segment of any Epoch, Seq, First and Heads is loaded.
func TestLoadAnyFirst(t *testing.T) {
	for _, epoch := range []uint64{1, 1<<32 - 1, 1 << 32, 1 << 63, math.MaxUint64 - 9} {
		for _, seq := range []int{1, 19, mostLSN - 2} {
			for _, first := range []int{1, 2, 1 << 20, mostLSN - 8} {
				l := grown(api.Header{Epoch: epoch, Seq: seq, First: first, Heads: [chains]int{first - 1, 0, first / 2, first - 1}}, []int{0, 2, 3}, nil, []int{1, 1})
				loads(t, "any first one", laid(t, files(t, l)...), l, api.OK)
			}
		}
	}
	loads(t, "no file", disk.New(0), nil, api.OK)
}
