package segment

import (
	"math"
	"strconv"
	"testing"

	"strandline/api"
	"strandline/disk"
)

// newest holds Newest against the epoch that it tells; nothing is changed.
func newest(t *testing.T, d *disk.Disk, epoch uint64) {
	t.Helper()
	newestOf().goesBy(t, d, answer{epoch: epoch}, told(d))
}

// P22.2: the greatest epoch of headers that live and free files have lasting; 0, if there is none.
func TestNewest(t *testing.T) {
	for _, c := range []struct {
		files string
		epoch uint64
	}{
		{"", 0},
		{"a:17", 0},
		{"a:17@9/1 b:1@8/1", 0},
		{"wal-1:17", 0},
		{"wal-1:17@0", 0},
		{"wal-1:17@5/1", 5},
		{"wal-1:17@1/1", 1},
		{"wal-1:17@5/1 wal-2:17@6/2", 6},
		{"wal-1:17@6/1 wal-2:17@5/2", 6},
		{"wal-1:17@6/1 wal-2:17@6/2", 6},
		{"wal-1:17@4/1 wal-10:17@9/10 wal-2:17@7/2", 9},
		{"wal-1:17@5/2", 5},
		{"wal-1:17@5/2 wal-2:17@4/2", 5},
		{"wal-2147483647:17@5/1", 5},
		{"wal-1:1@5/1", 5},
		{"wal-1:16@5/1", 5},
		{"wal-1:18@5/1", 5},
		{"wal-1:64@5/1 wal-2:17@4/2", 5},
		{"wal-1:1@5/1 wal-2:2@6/1 wal-3:3@4/1", 6},
		{"free-0:17@5/1", 5},
		{"free-1:17@5/1", 5},
		{"free-2:17@5/1", 5},
		{"free-0:1@5/1 free-1:3@6/1 free-2:17@4/1", 6},
		{"free-0:17@7/1 free-1:17@6/1 free-2:17@4/1", 7},
		{"free-2:64@7/1 wal-1:17@6/1", 7},
		{"free-0:17@6/1 wal-1:17@7/1", 7},
		{"a:17@9/1 free-0:17@5/1 wal-1:17@6/1 z:17@8/2", 6},
		{"wal-1:17@5/1~0 wal-2:17@4/2", 4},
		{"wal-1:17@5/1~5 wal-2:17@4/2", 4},
		{"wal-1:17@5/1~37 wal-2:17@4/2", 4},
		{"wal-1:17@5/1~63 wal-2:17@4/2", 4},
		{"wal-1:17@0/1 wal-2:17@4/2", 4},
		{"wal-1:17@9/0 wal-2:17@4/2", 4},
		{"free-0:17@0/1", 0},
		{"wal-1:17@5/1>6/1", 5},
		{"wal-1:17@6/1>5/1", 6},
		{"wal-1:17@0>5/1", 0},
		{"wal-1:17@5/1>0", 5},
		{"wal-1:17@5/1>x", 5},
		{"free-0:1@5/1>x wal-1:17@0>6/1", 5},
		{"wal-1:17@18446744073709551615/1", math.MaxUint64},
		{"wal-1:17@18446744073709551614/1 wal-2:17@9223372036854775808/2", math.MaxUint64 - 1},
		{"free-2:17@9223372036854775808/1 wal-1:17@9223372036854775807/1", 1 << 63},
		{"free-2:17@4294967296/1 wal-1:17@4294967295/1", 1 << 32},
		{join(many(maxFiles-2), "free-1:17@3/1 wal-1:17@2/1"), 3},
	} {
		newest(t, laid(t, c.files, 0), c.epoch)
	}
}

// P22.2: each epoch from the least to the greatest, of live and of free files, with a smaller one ahead and behind.
func TestNewestEpochs(t *testing.T) {
	for bit := range 64 {
		for _, epoch := range []uint64{1 << bit, 1<<bit - 1, 1<<bit + 1, math.MaxUint64 - 1<<bit, math.MaxUint64 << bit} {
			if epoch == 0 {
				continue
			}
			digits, less := strconv.FormatUint(epoch, 10), strconv.FormatUint(max(epoch-1, 1), 10)
			newest(t, laid(t, "wal-1:17@"+digits+"/1", 0), epoch)
			newest(t, laid(t, "free-0:1@"+less+"/1 wal-1:17@"+digits+"/1 wal-2:3@"+less+"/2", 0), epoch)
			newest(t, laid(t, "free-1:17@"+digits+"/3 wal-1:17@"+less+"/1", 0), epoch)
		}
	}
}

// P22.2: files whose names are nearly live or free ones aren't looked at.
func TestNewestNames(t *testing.T) {
	for _, name := range []string{
		"a", "x", "wal", "wal-", "wal--1", "wal-0", "wal-00", "wal-01", "wal-012", "wal-1-", "wal-1a", "wal1", "wal-a", "wal-2147483648", "wal-4294967297", "wal-99999999999999999999", "awal-1", "-wal-1", "wal-1-1", "wall-1", "wa-1",
		"free", "free-", "free--1", "free-3", "free-00", "free-01", "free-1-", "free-1a", "free1", "free-10", "free-4294967296", "freed-1", "fre-1", "afree-1", "1", "-1", "-",
	} {
		newest(t, laid(t, name+":17@9/1", 0), 0)
		files := []api.File{{Name: name, L: []api.Sec{sectorOf("9/1")}}, {Name: "wal-77", L: []api.Sec{sectorOf("4/77")}}, {Name: "free-2", L: []api.Sec{sectorOf("5/1")}}}
		d, e := disk.Lay(3, files)
		fine(t, e)
		newest(t, d, 5)
	}
	for _, name := range []string{"wal-1", "wal-9", "wal-10", "wal-12", "wal-2147483647", "free-0", "free-1", "free-2"} {
		newest(t, laid(t, name+":17@9/1", 0), 9)
	}
}

// P22.2: a header behind the first sector isn't looked at; one of a file of any length is.
func TestNewestPlaces(t *testing.T) {
	for n := 1; n <= maxSectors; n++ {
		for at := range n {
			l := make([]api.Sec, n)
			l[at] = sectorOf("9/1")
			d, e := disk.Lay(maxSectors, []api.File{{Name: "wal-1", L: l}})
			fine(t, e)
			want := uint64(0)
			if at == 0 {
				want = 9
			}
			if got := Newest(d); got != want {
				t.Fatalf("the header stands at %d of %d: %d, want %d", at, n, got, want)
			}
		}
	}
}

// P22.2: a header that waits counts behind its Sync, or behind a crash that keeps it; one that is written over counts till then.
func TestNewestWaits(t *testing.T) {
	d := laid(t, "free-1:17@0 wal-1:17@5/1", 0)
	fine(t, d.Write("free-1", 0, []api.Sec{sectorOf("8/2")}))
	newest(t, d, 5)
	lost := d.Clone()
	lost.Crash(api.Crash{Torn: -1})
	newest(t, lost, 5)
	kept := d.Clone()
	kept.Crash(api.Crash{Keep: ones(99), Torn: -1})
	newest(t, kept, 8)
	fine(t, d.Sync("free-1"))
	newest(t, d, 8)
	fine(t, d.Write("free-1", 0, []api.Sec{{}}))
	newest(t, d, 8)
	fine(t, d.Sync("free-1"))
	newest(t, d, 5)
	fine(t, d.Rename("wal-1", "a"))
	newest(t, d, 0)
}

// P22.2: Newest of a disk that is down tells what is lasting.
func TestNewestDown(t *testing.T) {
	d := laid(t, "free-1:17@6/1>9/1 wal-1:17@5/1>8/1", 0)
	goDown(t, d)
	newest(t, d, 6)
}

// P22.1, P22.2: behind each Begin the segment's epoch counts.
func TestNewestOfBegun(t *testing.T) {
	d := disk.New(5 * whole)
	for i, epoch := range []uint64{3, 2, 9, math.MaxUint64, 7} {
		if i == 4 {
			fine(t, d.Remove("wal-2"))
		}
		fine(t, Begin(d, head(epoch, 1+i)))
		newest(t, d, []uint64{3, 3, 9, math.MaxUint64, math.MaxUint64}[i])
	}
}
