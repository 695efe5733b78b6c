package pool

import (
	"testing"

	"strandline/api"
	"strandline/disk"
)

// P21.1: Spare of disks with and without a spare, with files of other lengths in its place, and with room for it or without.
func TestSpare(t *testing.T) {
	full := answer{e: api.ErrFull}
	for _, r := range []row{
		{"", 1000, answer{}, "free-0=new:17", 1},
		{"", 18, answer{}, "free-0=new:17", 1},
		{"", 17, answer{}, "free-0=new:17", 1},
		{"", 16, full, "", 0},
		{"", 1, full, "", 0},
		{"", 0, full, "", 0},
		{"a:17", 17, answer{}, "a:17 free-0=new:17", 1},
		{"a:17", 16, full, "a:17", 0},
		{"a:64", 0, full, "a:64", 0},
		{"free-0:17", 1000, answer{}, "free-0:17", 0},
		{"free-0:17", 17, answer{}, "free-0:17", 0},
		{"free-0:17", 0, answer{}, "free-0:17", 0},
		{"free-0:16", 1000, answer{}, "free-0=new:17", 2},
		{"free-0:16", 1, answer{}, "free-0=new:17", 2},
		{"free-0:16", 0, full, "", 1},
		{"free-0:18", 0, answer{}, "free-0=new:17", 2},
		{"free-0:18", 1000, answer{}, "free-0=new:17", 2},
		{"free-0:1", 17, answer{}, "free-0=new:17", 2},
		{"free-0:1", 16, answer{}, "free-0=new:17", 2},
		{"free-0:1", 15, full, "", 1},
		{"free-0:1", 0, full, "", 1},
		{"free-0:64", 0, answer{}, "free-0=new:17", 2},
		{"free-1:17 free-2:17", 17, answer{}, "free-0=new:17 free-1:17 free-2:17", 1},
		{"free-1:17 free-2:17", 16, full, "free-1:17 free-2:17", 0},
		{"free-0:17 free-1:1 free-2:18", 17, answer{}, "free-0:17 free-1:1 free-2:18", 0},
		{"a:17 free-0:3 free-1:1 free-2:18 wal-1:17", 14, answer{}, "a:17 free-0=new:17 free-1:1 free-2:18 wal-1:17", 2},
		{"a:17 free-0:3 free-1:1 free-2:18 wal-1:17", 13, full, "a:17 free-1:1 free-2:18 wal-1:17", 1},
	} {
		r.goesBy(t, "spare", spareOf)
	}
}

// P21.1: Spare where there are as many files as a disk may have, or one less.
func TestSpareManyFiles(t *testing.T) {
	full := answer{e: api.ErrFull}
	for _, r := range []row{
		{many(64), 1000, full, many(64), 0},
		{many(63), 1000, answer{}, join(many(63), "free-0=new:17"), 1},
		{join(many(63), "free-0:17"), 1000, answer{}, join(many(63), "free-0:17"), 0},
		{join(many(63), "free-0:3"), 1000, answer{}, join(many(63), "free-0=new:17"), 2},
		{join(many(63), "free-0:3"), 14, answer{}, join(many(63), "free-0=new:17"), 2},
		{join(many(63), "free-0:3"), 13, full, many(63), 1},
		{join(many(63), "free-1:17"), 1000, full, join(many(63), "free-1:17"), 0},
		{join(many(61), "free-0:18 free-1:17 free-2:2"), 0, answer{}, join(many(61), "free-0=new:17 free-1:17 free-2:2"), 2},
		{join(many(62), "free-1:17 free-2:17"), 1000, full, join(many(62), "free-1:17 free-2:17"), 0},
	} {
		r.goesBy(t, "spare", spareOf)
	}
}

// P21.1: Spare with a file of each length in the spare's place, at each room around what it needs.
func TestSpareLengths(t *testing.T) {
	for n := 1; n <= maxSectors; n++ {
		for more := range 20 {
			r := row{sized("free-0", n) + " free-1:2", more, answer{}, "free-0=new:17 free-1:2", 2}
			switch {
			case n == segment:
				r.left, r.ops = r.files, 0
			case n+more < segment:
				r.want, r.left, r.ops = answer{e: api.ErrFull}, "free-1:2", 1
			}
			r.goesBy(t, "spare", spareOf)
		}
	}
}

// P21.1: what Spare made, it finds again; also behind a crash, and whatever was written into it.
func TestSpareAgain(t *testing.T) {
	d := disk.New(17)
	fine(t, Spare(d))
	fine(t, Spare(d))
	fine(t, d.Write("free-0", 3, []api.Sec{mark("x", 1)}))
	fine(t, Spare(d))
	d.Crash(api.Crash{Torn: -1})
	fine(t, Spare(d))
	if d.Ops() != 2 || d.Waiting() != 0 || d.Size("free-0") != 17 {
		t.Errorf("Ops, Waiting, Size = %d, %d, %d", d.Ops(), d.Waiting(), d.Size("free-0"))
	}
}
