package segment

import (
	"testing"

	"strandline/api"
)

// began is a Begin that has no error: of these files, with room for so many sectors more, it takes that one.
type began struct {
	files string
	more  int
	taken string
	ops   int
}

// goesBy holds a Begin against what it leaves: the taken file has the live name and the segment's sectors, none of which waits; all else is as it was.
func (b began) goesBy(t *testing.T, h api.Header) {
	t.Helper()
	d := laid(t, b.files, b.more)
	left := told(d).without(b.taken).synced(slowLive(h.Seq), slowLaid(h, nil)).done(b.ops)
	beginOf(h).goesBy(t, d, answer{}, left)
}

// allBegan are Begins that have no error, as long as the number 5 has no file.
func allBegan() []began {
	return []began{
		{"", 17, "", 4},
		{"", 1000, "", 4},
		{"a:17", 17, "", 4},
		{"free-0:17", 17, "", 4},
		{"free-0:3", 17, "", 4},
		{"free-0:17@9/9", 18, "", 4},
		{"free-1:16", 17, "", 4},
		{"free-1:18", 17, "", 4},
		{"free-2:16", 17, "", 4},
		{"free-2:64", 17, "", 4},
		{"free-0:17 free-1:3", 17, "", 4},
		{"free-3:17 free-01:17", 17, "", 4},
		{"free-1:17", 0, "free-1", 3},
		{"free-2:17", 0, "free-2", 3},
		{"free-1:17 free-2:17", 0, "free-1", 3},
		{"free-1:17@9/9 free-2:17@8/8", 0, "free-1", 3},
		{"free-1:16 free-2:17@0", 0, "free-2", 3},
		{"free-1:18 free-2:17@0>6/5", 0, "free-2", 3},
		{"free-0:17 free-1:17@6/5>7/5 free-2:3", 0, "free-1", 3},
		{"free-0:3 free-1:17@5/5~20 free-2:17", 100, "free-1", 3},
		{"free-0:17 free-2:17", 16, "free-2", 3},
		{"a:17 free-1:17 wal-1:17@1/1 wal-2:17@2/2", 0, "free-1", 3},
		{"a:17 wal-1:17@1/1 wal-4:17@2/4 wal-6:17@9/6", 17, "", 4},
		{"wal-1:3 wal-4:64 wal-6:1@5/5 wal-50:17@5/5 wal-55:17", 17, "", 4},
		{"wal-05:17 wal-5-:17 wal-15:2 5:1 wal:3 wal-:17", 17, "", 4},
		{many(maxFiles - 1), 17, "", 4},
		{join(many(maxFiles-1), "free-1:17"), 0, "free-1", 3},
		{join(many(maxFiles-1), "free-2:17"), 0, "free-2", 3},
		{join(many(maxFiles-2), "free-1:5"), 17, "", 4},
	}
}

// P22.1: Begin with and without a pool, with other files, full disks whose pool has a file, and disks that are full behind it.
func TestBegin(t *testing.T) {
	for _, b := range allBegan() {
		b.goesBy(t, head(5, 5))
		b.goesBy(t, api.Header{Epoch: 1, Seq: 5, First: 1})
	}
}

// P22.1: Begin by right headers: each has its own live name.
func TestBeginHeaders(t *testing.T) {
	for _, h := range rightHeaders() {
		for _, b := range []began{{"", 17, "", 4}, {"a:3 free-1:17@9/9 wal-99:17", 0, "free-1", 3}} {
			b.goesBy(t, h)
		}
	}
}

// P22.1: Begin by headers that aren't right: ErrArg, whatever the disk has.
func TestBeginWrongHeader(t *testing.T) {
	for _, text := range states() {
		d := laid(t, text, 40)
		left := told(d)
		for _, h := range wrongHeaders() {
			beginOf(h).goesBy(t, d, failed(api.ErrArg), left)
		}
	}
}

// P22.1: Begin where a file has the live name, of each length: ErrThere, whatever is in it, and whatever the pool has.
func TestBeginThere(t *testing.T) {
	for n := 1; n <= maxSectors; n++ {
		for _, first := range []string{"", "@0", "@4/5", "@4/6", "@0>4/5"} {
			for _, pool := range []string{"", "free-1:17", "free-0:17 free-1:3 free-2:4"} {
				for _, more := range []int{0, 100} {
					d := laid(t, join(pool, sized("wal-5", n)+first), more)
					beginOf(head(5, 5)).goesBy(t, d, failed(api.ErrThere), told(d))
				}
			}
		}
	}
}

// P22.1: Begin where no file can be taken, by sectors, by files, and by free names: ErrFull.
func TestBeginFull(t *testing.T) {
	for _, c := range []struct {
		files string
		more  int
	}{
		{"", 0},
		{"", 16},
		{"a:17", 16},
		{"free-0:17", 16},
		{"free-0:17", 0},
		{"free-0:3 free-1:3", 16},
		{"free-2:16", 16},
		{"wal-1:17@4/1 wal-2:17@5/2", 16},
		{"free-1:3 free-2:4", 1000},
		{"free-1:16 free-2:18", 17},
		{"free-0:17 free-1:1@9/9 free-2:64", 1000},
		{many(maxFiles), 1000},
		{join(many(maxFiles-1), "free-0:17"), 1000},
		{join(many(maxFiles-1), "free-1:3"), 1000},
		{join(many(maxFiles-1), "wal-1:17@4/1"), 1000},
		{join(many(maxFiles-2), "free-1:3 free-2:4"), 1000},
	} {
		d := laid(t, c.files, c.more)
		beginOf(head(5, 5)).goesBy(t, d, failed(api.ErrFull), told(d))
	}
}

// P22.1: Begins one behind the other, as long as there is room: each takes a file, and none touches another segment.
func TestBeginMany(t *testing.T) {
	d := laid(t, "free-0:17 free-2:17@9/9", 3*whole+2)
	left := told(d)
	for seq, b := range []began{{taken: "free-2", ops: 3}, {ops: 4}, {ops: 4}, {ops: 4}} {
		h := head(uint64(10+seq), 1+seq)
		left = left.without(b.taken).synced(slowLive(1+seq), slowLaid(h, nil)).done(b.ops)
		beginOf(h).goesBy(t, d, answer{}, left)
		beginOf(h).goesBy(t, d, failed(api.ErrThere), left)
	}
	beginOf(head(20, 5)).goesBy(t, d, failed(api.ErrFull), left)
	for seq := range 4 {
		headerOf(1+seq).goesBy(t, d, answer{h: head(uint64(10+seq), 1+seq)}, left)
	}
	newestOf().goesBy(t, d, answer{epoch: 13}, left)
}
