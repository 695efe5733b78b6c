package segment

import (
	"slices"
	"strings"
	"testing"

	"strandline/api"
)

// prepared holds a Prepare that has no error against what it leaves: the file's sectors, none of which waits, and all else as it was.
func prepared(t *testing.T, files, name string, h api.Header, data []api.Sec) {
	t.Helper()
	d := laid(t, files, 0)
	left := told(d).synced(name, slowLaid(h, data)).done(2)
	prepareOf(name, h, data).goesBy(t, d, answer{}, left)
}

// P22.1: Prepare of right headers, with no data, some, and Data sectors.
func TestPrepare(t *testing.T) {
	for _, h := range rightHeaders() {
		for n := range most + 1 {
			prepared(t, "a:17 b:17 wal-1:17@4/1", "a", h, marks("d", n))
		}
	}
}

// P22.1: whatever stood in the file, lasting or waiting, is gone; whatever name the file has.
func TestPrepareOver(t *testing.T) {
	long := strings.Repeat("z", 24)
	for _, was := range []string{"", "@0", "@x", "@9/9", "@9/9>0", "@0>9/9", "@9/9>8/8", "@9/9~37", "@5/1", "@0>5/1"} {
		for _, name := range []string{"a", "-", "0", "free-0", "free-1", "free-2", "wal-1", "wal-2147483647", "wal-01", long} {
			for _, data := range [][]api.Sec{nil, {}, {{}}, {{}, mark("d", 1)}, marks("d", most), make([]api.Sec, most), {sectorOf("3/1")}, slices.Repeat([]api.Sec{sectorOf("5/1")}, most)} {
				prepared(t, join("a0:17", name+":17"+was, "zz:3"), name, head(5, 1), data)
			}
		}
	}
}

// P22.1: Prepare by headers that aren't right, with each number of data: ErrArg.
func TestPrepareWrongHeader(t *testing.T) {
	d := laid(t, "a:17 b:3", 0)
	left := told(d)
	for _, h := range wrongHeaders() {
		for _, n := range []int{0, 1, most, most + 1} {
			for _, name := range []string{"a", "b", "c"} {
				prepareOf(name, h, marks("d", n)).goesBy(t, d, failed(api.ErrArg), left)
			}
		}
	}
}

// P22.1: Prepare with more than Data sectors, whatever they are: ErrArg.
func TestPrepareTooMany(t *testing.T) {
	d := laid(t, "a:17 b:3 c:18 d:64", 0)
	left := told(d)
	for _, n := range []int{most + 1, most + 2, whole + 1, 2 * most, 63, 64, 65, 1000, 70000} {
		for _, name := range []string{"a", "b", "c", "d", "e"} {
			prepareOf(name, head(5, 1), marks("d", n)).goesBy(t, d, failed(api.ErrArg), left)
			prepareOf(name, head(5, 1), make([]api.Sec, n)).goesBy(t, d, failed(api.ErrArg), left)
		}
	}
}

// P22.1: Prepare of names that no file has, and of texts that are no names: ErrNone.
func TestPrepareNone(t *testing.T) {
	d := laid(t, "a:17 free-1:17 wal-1:17", 0)
	left := told(d)
	for _, name := range []string{
		"", "b", "aa", "A", "a ", " a", "a\x00", "-", "é", "wal-2", "wal-01", "wal-", "wal-1 ", "Wal-1", "free-0", "free-01", "free-2", "free-3",
		strings.Repeat("a", 24), strings.Repeat("a", 25), strings.Repeat("a", 1000), "\xff", "a\n",
	} {
		for _, n := range []int{0, 1, most} {
			prepareOf(name, head(5, 1), marks("d", n)).goesBy(t, d, failed(api.ErrNone), left)
		}
	}
}

// P22.1: Prepare of files of each length: ErrRange, but of SegSectors sectors.
func TestPrepareLengths(t *testing.T) {
	for n := 1; n <= maxSectors; n++ {
		for _, name := range []string{"a", "free-1", "wal-1"} {
			for _, data := range [][]api.Sec{nil, marks("d", 1), marks("d", min(n, most)), marks("d", most)} {
				files := join("a0:17", sized(name, n), "zz:3")
				if n == whole {
					prepared(t, files, name, head(5, 1), data)
					continue
				}
				d := laid(t, files, 100)
				prepareOf(name, head(5, 1), data).goesBy(t, d, failed(api.ErrRange), told(d))
			}
		}
	}
}

// P22.1: Prepare asks nothing of a name's number, nor of other files' headers: it may tell any Seq of any file.
func TestPrepareAnySeq(t *testing.T) {
	for _, h := range rightHeaders() {
		for _, name := range []string{"wal-3", "free-0", "a"} {
			prepared(t, "a:17 free-0:17@8/9 wal-1:17@5/1 wal-3:17@9/3 wal-4:17@9/3", name, h, marks("d", 2))
		}
	}
}

// P22.1: Prepare of a full disk needs no room.
func TestPrepareFull(t *testing.T) {
	prepared(t, join(many(maxFiles-1), "b:17"), "b", head(5, 1), marks("d", 4))
	prepared(t, join(many(10), "b:17@9/9"), "b", head(5, 1), nil)
}

// P22.1: Prepare twice: the second one's header and data are there alone.
func TestPrepareTwice(t *testing.T) {
	d := laid(t, "a:17", 0)
	left := told(d)
	for n := most; n >= 0; n-- {
		h := head(uint64(1+n), 1+n)
		left = left.synced("a", slowLaid(h, marks("d", n))).done(2)
		prepareOf("a", h, marks("d", n)).goesBy(t, d, answer{}, left)
	}
}
