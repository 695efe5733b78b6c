package segment

import (
	"strings"
	"testing"

	"strandline/api"
	"strandline/disk"
)

// cause is an error, and whether it holds.
type cause struct {
	holds bool
	e     api.Errno
}

// firstOf tells the first error that holds.
func firstOf(l ...cause) api.Errno {
	for _, c := range l {
		if c.holds {
			return c.e
		}
	}
	return api.OK
}

// powers are what a disk may be: none, one that is down, one whose next op fails, and one that goes on.
func powers() []string {
	return []string{"nil", "down", "failing", "up"}
}

// powered is a disk of these files that is so.
func powered(t *testing.T, power, files string, more int) *disk.Disk {
	t.Helper()
	d := laid(t, files, more)
	switch power {
	case "nil":
		return nil
	case "down":
		goDown(t, d)
	case "failing":
		fine(t, d.Fail(0))
	}
	return d
}

// answers holds a call that has an error against it, and that it leaves all as it was, but for the power that goes with its first op.
func answers(t *testing.T, c call, d *disk.Disk, power string, want api.Errno) {
	t.Helper()
	if d == nil {
		if got := c.do(nil); !got.equal(failed(want)) {
			t.Fatalf("%s of nil: %v, want error %d", c.what, got, want)
		}
		return
	}
	left := told(d)
	if power == "failing" && want == api.ErrDown {
		left = left.fallen()
	}
	c.goesBy(t, d, failed(want), left)
}

// P22.1: of the errors of Prepare that hold at once, each with each other, the answer is the one that is named first.
func TestPrepareOrder(t *testing.T) {
	for _, power := range powers() {
		for _, h := range []api.Header{head(5, 1), head(0, 1), head(5, 0)} {
			for _, n := range []int{0, most, most + 1} {
				for _, name := range []string{"a", "b", "none", "No Name", ""} {
					want := firstOf(
						cause{h != head(5, 1) || n > most, api.ErrArg},
						cause{power == "nil", api.ErrState},
						cause{power == "down", api.ErrDown},
						cause{name != "a" && name != "b", api.ErrNone},
						cause{name == "b", api.ErrRange},
						cause{power == "failing", api.ErrDown},
					)
					if want != api.OK {
						d := powered(t, power, "a:17 b:16 wal-1:17@4/1", 0)
						answers(t, prepareOf(name, h, marks("d", n)), d, power, want)
					}
				}
			}
		}
	}
}

// P22.1: of the errors of Begin that hold at once, each with each other, the answer is the one that is named first.
func TestBeginOrder(t *testing.T) {
	fulls := []string{"free-1:3 free-2:4", "free-0:17", many(maxFiles - 1), "free-1:3 free-2:17"}
	for _, power := range powers() {
		for _, h := range []api.Header{head(5, 1), head(0, 1), head(5, 0)} {
			for _, live := range []string{"", "wal-1:17@4/1", "wal-1:17", "wal-1:3"} {
				for i, files := range fulls {
					if live == "" {
						live = "wal-2:17"
					}
					want := firstOf(
						cause{h != head(5, 1), api.ErrArg},
						cause{power == "nil", api.ErrState},
						cause{power == "down", api.ErrDown},
						cause{strings.HasPrefix(live, "wal-1"), api.ErrThere},
						cause{i < 3, api.ErrFull},
						cause{power == "failing", api.ErrDown},
					)
					if want != api.OK {
						d := powered(t, power, join(files, live), whole-1)
						answers(t, beginOf(h), d, power, want)
					}
				}
			}
		}
	}
}

// P22.2: of the errors of Header and Sectors that hold at once, each with each other, the answer is the one that is named first.
func TestHeaderOrder(t *testing.T) {
	files := "wal-1:17@4/1 wal-2:16@4/2 wal-3:17@4/1 wal-4:17@0 wal-5:17@4/5>0 wal-6:18@4/6~20 wal-7:17@4/7~20"
	for _, power := range powers() {
		for seq := -3; seq < 12; seq++ {
			want := firstOf(
				cause{seq < 1, api.ErrArg},
				cause{power == "nil", api.ErrState},
				cause{power == "down", api.ErrDown},
				cause{seq > 7, api.ErrNone},
				cause{seq > 1, api.ErrCorrupt},
			)
			if want != api.OK {
				answers(t, headerOf(seq), powered(t, power, files, 0), power, want)
				answers(t, sectorsOf(seq), powered(t, power, files, 0), power, want)
			}
		}
	}
}
