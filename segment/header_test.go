package segment

import (
	"math"
	"testing"

	"strandline/api"
	"strandline/disk"
)

// tells holds Header and Sectors of a number against what they answer; nothing is changed.
func tells(t *testing.T, d *disk.Disk, seq int, h api.Header, data []api.Sec) {
	t.Helper()
	left := told(d)
	headerOf(seq).goesBy(t, d, answer{h: h}, left)
	sectorsOf(seq).goesBy(t, d, answer{data: data}, left)
}

// refuses holds Header and Sectors of a number against their error; nothing is changed.
func refuses(t *testing.T, d *disk.Disk, seq int, e api.Errno) {
	t.Helper()
	left := told(d)
	headerOf(seq).goesBy(t, d, failed(e), left)
	sectorsOf(seq).goesBy(t, d, failed(e), left)
}

// segmentOf is a disk with one more file: the live one of the number, of the sector and marks behind it, all of them lasting.
func segmentOf(t *testing.T, seq int, first api.Sec, n int) *disk.Disk {
	t.Helper()
	l := append([]api.Sec{first}, marks("d", n-1)...)
	d, e := disk.Lay(200, []api.File{{Name: "a", L: marks("a", 17)}, {Name: slowLive(seq), L: l}, {Name: "free-1", L: marks("f", 17)}})
	fine(t, e)
	return d
}

// P22.2: Header and Sectors of right headers: those of its number.
func TestHeader(t *testing.T) {
	for _, h := range rightHeaders() {
		tells(t, segmentOf(t, h.Seq, slowSector(h), whole), h.Seq, h, marks("d", most))
	}
}

// P22.2: Header and Sectors of what Begin made, and of what Prepare did.
func TestHeaderOfMade(t *testing.T) {
	for _, h := range rightHeaders() {
		d := disk.New(whole)
		fine(t, Begin(d, h))
		tells(t, d, h.Seq, h, make([]api.Sec, most))
		for n := range most + 1 {
			fine(t, Prepare(d, slowLive(h.Seq), h, marks("d", n)))
			tells(t, d, h.Seq, h, append(marks("d", n), make([]api.Sec, most-n)...))
		}
	}
}

// P22.2: numbers that have no live name: ErrArg.
func TestHeaderArg(t *testing.T) {
	d := laid(t, "wal-0:17@4/1 wal-1:17@4/1 wal-2147483648:17@4/1 wal--1:17@4/1 wal-:17 free-1:17@4/1", 0)
	for _, seq := range []int{
		math.MinInt, math.MinInt + 1, -1<<32 - 1, -1 << 32, 1 - 1<<32, -mostLSN - 1, -mostLSN, -12, -2, -1, 0,
		mostLSN + 1, mostLSN + 2, 1<<32 - 1, 1 << 32, 1<<32 + 1, 1 << 62, math.MaxInt - 1, math.MaxInt,
	} {
		refuses(t, d, seq, api.ErrArg)
	}
}

// P22.2: numbers whose file isn't there, though others are: ErrNone.
func TestHeaderNone(t *testing.T) {
	for _, files := range []string{"", "a:17", "wal-1:17@4/1 wal-3:17@4/3", "free-1:17@4/2 free-2:17@4/2 wal-12:17@4/2 wal-02:17@4/2 wal-2-:17@4/2 2:17@4/2 wal-20:17@4/2", many(maxFiles)} {
		d := laid(t, files, 40)
		for _, seq := range []int{2, 4, 11, 13, 21, 120, 255, 257, mostLSN - 1, mostLSN} {
			refuses(t, d, seq, api.ErrNone)
		}
	}
}

// P22.2: files of each length: ErrCorrupt, but of SegSectors sectors, whatever their first sector is.
func TestHeaderLengths(t *testing.T) {
	for n := 1; n <= maxSectors; n++ {
		d := segmentOf(t, 12, slowSector(head(5, 12)), n)
		if n == whole {
			tells(t, d, 12, head(5, 12), marks("d", most))
		} else {
			refuses(t, d, 12, api.ErrCorrupt)
		}
		refuses(t, segmentOf(t, 12, api.Sec{}, n), 12, api.ErrCorrupt)
		refuses(t, segmentOf(t, 12, slowSector(head(5, 13)), n), 12, api.ErrCorrupt)
	}
}

// P22.2: a first sector that is no header's, or of another Seq: ErrCorrupt.
func TestHeaderCorrupt(t *testing.T) {
	for _, first := range []api.Sec{{}, {0: 1}, {63: 1}, mark("x", 1), {115, 116, 114, 100, 1}} {
		refuses(t, segmentOf(t, 12, first, whole), 12, api.ErrCorrupt)
	}
	for _, h := range wrongHeaders() {
		// Some are wrong by bytes for which a sector has no room: without them it is a right one's.
		s := slowSector(h)
		if _, ok := slowTold(s); !ok {
			refuses(t, segmentOf(t, 12, s, whole), 12, api.ErrCorrupt)
		}
	}
	for _, h := range []api.Header{
		{Seq: 12, First: 7}, {Epoch: 5, Seq: 12}, {Epoch: 5, Seq: 12, First: mostLSN + 1},
		{Epoch: 5, Seq: 12, First: 7, Heads: [heads]int{7, 0, 0, 0}}, {Epoch: 5, Seq: 12, First: 7, Heads: [heads]int{0, 0, 0, 8}}, {Epoch: 5, Seq: 12, First: 7, Heads: [heads]int{0, -1, 0, 0}},
	} {
		refuses(t, segmentOf(t, 12, slowSector(h), whole), 12, api.ErrCorrupt)
	}
	for _, seq := range []int{1, 2, 11, 13, 120, 268, 12 + 1<<16, 12 + 1<<24, 12 + 1<<30, mostLSN} {
		refuses(t, segmentOf(t, 12, slowSector(head(5, seq)), whole), 12, api.ErrCorrupt)
		tells(t, segmentOf(t, seq, slowSector(head(5, seq)), whole), seq, head(5, seq), marks("d", most))
	}
}

// P22.2: a header's sector with one byte changed, for each byte and each change: ErrCorrupt; a data sector of any bytes is told.
func TestHeaderChanged(t *testing.T) {
	h := api.Header{Epoch: 0x0102030405060708, Seq: 12, First: 0x01020304, Heads: [heads]int{1, 256, 65536, 0}}
	d := segmentOf(t, 12, slowSector(h), whole)
	for at := range slowSector(h) {
		for change := 1; change < 256; change++ {
			s := slowSector(h)
			s[at] ^= byte(change)
			fine(t, d.Write("wal-12", 0, []api.Sec{s}))
			got, e := Header(d, 12)
			l, e2 := Sectors(d, 12)
			if (got != api.Header{}) || e != api.ErrCorrupt || len(l) != 0 || e2 != api.ErrCorrupt {
				t.Fatalf("byte %d changed by %d: %v, %d sectors, errors %d, %d", at, change, got, len(l), e, e2)
			}
		}
	}
	fine(t, d.Write("wal-12", 0, []api.Sec{slowSector(h), sectorOf("9/9"), {}}))
	tells(t, d, 12, h, append([]api.Sec{sectorOf("9/9"), {}}, marks("d", most)[2:]...))
}

// P22.2: what waits is told, as it is seen; behind a crash, what is lasting is.
func TestHeaderWaits(t *testing.T) {
	for _, c := range []struct {
		first     string
		seen, was api.Errno
	}{
		{"@4/12>5/12", api.OK, api.OK},
		{"@0>5/12", api.OK, api.ErrCorrupt},
		{"@x>5/12", api.OK, api.ErrCorrupt},
		{"@4/11>5/12", api.OK, api.ErrCorrupt},
		{"@4/12~30>5/12", api.OK, api.ErrCorrupt},
		{"@4/12>0", api.ErrCorrupt, api.OK},
		{"@4/12>5/11", api.ErrCorrupt, api.OK},
		{"@4/12>5/12~20", api.ErrCorrupt, api.OK},
		{"@4/11>5/11", api.ErrCorrupt, api.ErrCorrupt},
	} {
		d := laid(t, "wal-11:17@9/11 wal-12:17"+c.first, 0)
		lasting, seen := secs(specs("wal-12:17" + c.first)[0])
		for _, e := range []api.Errno{c.seen, c.was} {
			if e == api.OK {
				h, _ := slowTold(seen[0])
				tells(t, d, 12, h, seen[1:])
			} else {
				refuses(t, d, 12, e)
			}
			d.Crash(api.Crash{Torn: -1})
			seen = lasting
		}
	}
}

// P22.2: each sector that waits is told, each alone.
func TestSectorsWait(t *testing.T) {
	for at := 1; at < whole; at++ {
		d := segmentOf(t, 12, slowSector(head(5, 12)), whole)
		fine(t, d.Write("wal-12", at, []api.Sec{mark("w", at)}))
		want := marks("d", most)
		want[at-1] = mark("w", at)
		tells(t, d, 12, head(5, 12), want)
	}
}
