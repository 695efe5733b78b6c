package pool

import (
	"testing"
)

// counted is a text of files, how many of them Count tells, and what Clean leaves.
type counted struct {
	files string
	n     int
	left  string
	ops   int
}

// P21.1: Count and Clean of disks with files in the pool, and with such as aren't.
func TestCountClean(t *testing.T) {
	for _, c := range []counted{
		{"", 0, "", 0},
		{"a:17", 0, "a:17", 0},
		{"wal-1:17 wal-2:3", 0, "wal-1:17 wal-2:3", 0},
		{"free-0:17", 0, "free-0:17", 0},
		{"free-1:17", 1, "free-1:17", 0},
		{"free-2:17", 1, "free-2:17", 0},
		{"free-1:17 free-2:17", 2, "free-1:17 free-2:17", 0},
		{"free-0:17 free-1:17", 1, "free-0:17 free-1:17", 0},
		{"free-0:17 free-2:17", 1, "free-0:17 free-2:17", 0},
		{"free-0:17 free-1:17 free-2:17", 2, "free-0:17 free-1:17 free-2:17", 0},
		{"free-0:16", 0, "", 1},
		{"free-1:16", 0, "", 1},
		{"free-2:16", 0, "", 1},
		{"free-0:18", 0, "", 1},
		{"free-1:18", 0, "", 1},
		{"free-2:18", 0, "", 1},
		{"free-0:1 free-1:17 free-2:64", 1, "free-1:17", 2},
		{"free-0:17 free-1:1 free-2:64", 0, "free-0:17", 2},
		{"free-0:1 free-1:64 free-2:17", 1, "free-2:17", 2},
		{"free-0:16 free-1:17 free-2:17", 2, "free-1:17 free-2:17", 1},
		{"free-0:17 free-1:16 free-2:17", 1, "free-0:17 free-2:17", 1},
		{"free-0:17 free-1:17 free-2:16", 1, "free-0:17 free-1:17", 1},
		{"free-0:16 free-1:18 free-2:1", 0, "", 3},
		{"a:1 b:17 free-0:16 free-1:18 free-2:1 free-3:2 wal-1:17 z:64", 0, "a:1 b:17 free-3:2 wal-1:17 z:64", 3},
	} {
		for _, more := range []int{0, 100} {
			row{c.files, more, answer{n: c.n}, c.files, 0}.goesBy(t, "count", countOf)
			row{c.files, more, answer{}, c.left, c.ops}.goesBy(t, "clean", cleanOf)
		}
	}
}

// P21.1: Count and Clean with files of each length, one of them a free name's.
func TestCountCleanLengths(t *testing.T) {
	for _, name := range frees() {
		for n := 1; n <= maxSectors; n++ {
			c := counted{join("a:17", sized(name, n), "wal-1:3"), 0, "a:17 wal-1:3", 1}
			if n == segment {
				c.left, c.ops = c.files, 0
			}
			if n == segment && name != "free-0" {
				c.n = 1
			}
			row{c.files, 0, answer{n: c.n}, c.files, 0}.goesBy(t, "count", countOf)
			row{c.files, 0, answer{}, c.left, c.ops}.goesBy(t, "clean", cleanOf)
		}
	}
}

// P21.1, P21.2: names that are nearly free ones, of each length: no call but a Give of them looks at them.
func TestNearFrees(t *testing.T) {
	for _, near := range nearFrees() {
		for _, n := range []int{1, segment - 1, segment, segment + 1, maxSectors} {
			for _, frees := range []string{"", "free-0:17 free-1:17 free-2:17", "free-0:3 free-1:4 free-2:5", "free-2:17"} {
				d := laid(t, join(sized(near, n), frees), 2*segment)
				alone := laid(t, frees, 2*segment)
				for _, c := range calls() {
					if got, want := c.do(d), c.slow(alone); got != want {
						t.Errorf("%s with %s of %d beside %s: %v, want %v", c.what, near, n, frees, got, want)
					}
				}
				if d.Size(near) != n || len(d.List()) != 1+len(alone.List()) {
					t.Errorf("%s of %d beside %s: left are %v", near, n, frees, d.List())
				}
				untouched(t, d, near, n)
			}
		}
	}
}

// P21.1: Clean leaves what Count tells; a second Clean does nothing.
func TestCleanTwice(t *testing.T) {
	for _, text := range states() {
		d := laid(t, text, 0)
		n := Count(d)
		fine(t, Clean(d))
		want := told(d)
		fine(t, Clean(d))
		same(t, "clean again of "+text, d, want)
		if Count(d) != n {
			t.Errorf("%s: Count = %d behind Clean, %d ahead", text, Count(d), n)
		}
	}
}

// P21.1: Clean and Count of a full disk, by files and by sectors.
func TestCleanFull(t *testing.T) {
	row{join(many(61), "free-0:1 free-1:17 free-2:2"), 0, answer{n: 1}, join(many(61), "free-0:1 free-1:17 free-2:2"), 0}.goesBy(t, "count", countOf)
	row{join(many(61), "free-0:1 free-1:17 free-2:2"), 0, answer{}, join(many(61), "free-1:17"), 2}.goesBy(t, "clean", cleanOf)
}
