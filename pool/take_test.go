package pool

import (
	"slices"
	"testing"

	"strandline/api"
	"strandline/disk"
)

// taken is the answer that tells a name.
func taken(name string) answer {
	return answer{name: name}
}

// P21.2: Take where the pool has a file: the lowest one's name, and nothing is done.
func TestTake(t *testing.T) {
	for _, r := range []row{
		{"free-1:17", 0, taken("free-1"), "", 0},
		{"free-2:17", 0, taken("free-2"), "", 0},
		{"free-1:17 free-2:17", 0, taken("free-1"), "", 0},
		{"free-0:17 free-1:17", 0, taken("free-1"), "", 0},
		{"free-0:17 free-2:17", 0, taken("free-2"), "", 0},
		{"free-0:17 free-1:17 free-2:17", 0, taken("free-1"), "", 0},
		{"free-0:3 free-1:17 free-2:17", 0, taken("free-1"), "", 0},
		{"free-1:16 free-2:17", 0, taken("free-2"), "", 0},
		{"free-1:18 free-2:17", 0, taken("free-2"), "", 0},
		{"free-1:1 free-2:17", 0, taken("free-2"), "", 0},
		{"free-1:64 free-2:17", 0, taken("free-2"), "", 0},
		{"free-1:17 free-2:16", 0, taken("free-1"), "", 0},
		{"free-1:17 free-2:18", 0, taken("free-1"), "", 0},
		{"a:17 free-0:17 free-1:3 free-2:17 wal-1:17", 0, taken("free-2"), "", 0},
		{"a:17 free-1:17 wal-1:17", 0, taken("free-1"), "", 0},
		{join(many(63), "free-2:17"), 0, taken("free-2"), "", 0},
		{join(many(63), "free-1:17"), 0, taken("free-1"), "", 0},
	} {
		r.left = r.files
		for _, more := range []int{0, 16, 17, 100} {
			r.more = more
			r.goesBy(t, "take", takeOf)
		}
	}
}

// P21.2: Take where the pool has none but the spare: the lowest free name that no file has is made, as far as there is room.
func TestTakeMakes(t *testing.T) {
	full := answer{e: api.ErrFull}
	for _, r := range []row{
		{"", 1000, taken("free-1"), "free-1=new:17", 1},
		{"", 17, taken("free-1"), "free-1=new:17", 1},
		{"", 16, full, "", 0},
		{"", 0, full, "", 0},
		{"free-0:17", 17, taken("free-1"), "free-0:17 free-1=new:17", 1},
		{"free-0:17", 16, full, "free-0:17", 0},
		{"free-0:17", 0, full, "free-0:17", 0},
		{"free-0:3", 17, taken("free-1"), "free-0:3 free-1=new:17", 1},
		{"free-0:3", 16, full, "free-0:3", 0},
		{"free-1:16", 17, taken("free-2"), "free-1:16 free-2=new:17", 1},
		{"free-1:16", 16, full, "free-1:16", 0},
		{"free-1:18", 18, taken("free-2"), "free-1:18 free-2=new:17", 1},
		{"free-2:16", 17, taken("free-1"), "free-1=new:17 free-2:16", 1},
		{"free-2:18", 16, full, "free-2:18", 0},
		{"free-0:17 free-2:1", 17, taken("free-1"), "free-0:17 free-1=new:17 free-2:1", 1},
		{"free-0:17 free-1:64", 17, taken("free-2"), "free-0:17 free-1:64 free-2=new:17", 1},
		{"free-1:16 free-2:18", 1000, full, "free-1:16 free-2:18", 0},
		{"free-1:1 free-2:64", 17, full, "free-1:1 free-2:64", 0},
		{"free-0:17 free-1:16 free-2:16", 1000, full, "free-0:17 free-1:16 free-2:16", 0},
		{"free-0:3 free-1:16 free-2:16", 1000, full, "free-0:3 free-1:16 free-2:16", 0},
		{"a:17 free-3:17 wal-1:17", 17, taken("free-1"), "a:17 free-1=new:17 free-3:17 wal-1:17", 1},
		{"a:17 free-3:17 wal-1:17", 16, full, "a:17 free-3:17 wal-1:17", 0},
		{many(63), 17, taken("free-1"), join(many(63), "free-1=new:17"), 1},
		{many(64), 1000, full, many(64), 0},
		{join(many(62), "free-1:3"), 17, taken("free-2"), join(many(62), "free-1:3 free-2=new:17"), 1},
		{join(many(63), "free-0:17"), 1000, full, join(many(63), "free-0:17"), 0},
		{join(many(63), "free-1:3"), 1000, full, join(many(63), "free-1:3"), 0},
	} {
		r.goesBy(t, "take", takeOf)
	}
}

// P21.2: Take with files of each length in the places of free-1 and free-2, at each room around what a Make needs.
func TestTakeLengths(t *testing.T) {
	for n := 1; n <= maxSectors; n++ {
		for more := 15; more < 20; more++ {
			one, two := sized("free-1", n), sized("free-2", n)
			low := row{one, more, taken("free-2"), one + " free-2=new:17", 1}
			high := row{two, more, taken("free-1"), "free-1=new:17 " + two, 1}
			both := row{join(one, two), more, answer{e: api.ErrFull}, join(one, two), 0}
			if more < segment {
				low = row{one, more, answer{e: api.ErrFull}, one, 0}
				high = row{two, more, answer{e: api.ErrFull}, two, 0}
			}
			if n == segment {
				low = row{one, more, taken("free-1"), one, 0}
				high = row{two, more, taken("free-2"), two, 0}
				both.want = taken("free-1")
			}
			for _, r := range []row{low, high, both} {
				r.goesBy(t, "take", takeOf)
			}
		}
	}
}

// P21.2: what Take tells it tells again, till it is used; the spare is never told.
func TestTakeAgain(t *testing.T) {
	d := disk.New(17 * 5)
	fine(t, Spare(d))
	var got []string
	for _, use := range []string{"wal-1", "", "wal-2", "", "", "wal-3"} {
		name, e := Take(d)
		fine(t, e)
		got = append(got, name)
		if use != "" {
			fine(t, d.Rename(name, use))
		}
	}
	if !slices.Equal(got, slices.Repeat([]string{"free-1"}, 6)) {
		t.Error(got)
	}
	if want := []string{"free-0", "wal-1", "wal-2", "wal-3"}; !slices.Equal(d.List(), want) || d.Ops() != 1+3+3 {
		t.Errorf("%v, Ops = %d", d.List(), d.Ops())
	}
}
