package segment

import (
	"slices"
	"strconv"
	"testing"

	"strandline/api"
	"strandline/disk"
)

// answer is what a call of the package answers.
type answer struct {
	h     api.Header
	data  []api.Sec
	epoch uint64
	e     api.Errno
}

// equal tells whether two answers are the same.
func (a answer) equal(b answer) bool {
	return a.h == b.h && a.epoch == b.epoch && a.e == b.e && slices.Equal(a.data, b.data)
}

// String tells an answer in few words.
func (a answer) String() string {
	return strconv.FormatUint(a.h.Epoch, 10) + "/" + strconv.Itoa(a.h.Seq) + ", " + begins(a.data) + ", " + strconv.FormatUint(a.epoch, 10) + ", error " + strconv.Itoa(int(a.e))
}

// failed is the answer of an error.
func failed(e api.Errno) answer {
	return answer{e: e}
}

// call is a call of the package, the files that it may change, and the same one by the chapter's words.
type call struct {
	kind, what string
	names      []string
	do, slow   func(d *disk.Disk) answer
}

// prepareOf is Prepare as a call.
func prepareOf(name string, h api.Header, data []api.Sec) call {
	return call{
		"prepare", "prepare " + name + " by " + text(h) + " and " + strconv.Itoa(len(data)) + " sectors", []string{name},
		func(d *disk.Disk) answer { return failed(Prepare(d, name, h, data)) },
		func(d *disk.Disk) answer { return failed(slowPrepare(d, name, h, data)) },
	}
}

// beginOf is Begin as a call.
func beginOf(h api.Header) call {
	return call{
		"begin", "begin by " + text(h), []string{"free-1", "free-2", slowLive(h.Seq)},
		func(d *disk.Disk) answer { return failed(Begin(d, h)) },
		func(d *disk.Disk) answer { return failed(slowBegin(d, h)) },
	}
}

// headerOf is Header as a call.
func headerOf(seq int) call {
	return call{
		"header", "header " + strconv.Itoa(seq), nil,
		func(d *disk.Disk) answer { h, e := Header(d, seq); return answer{h: h, e: e} },
		func(d *disk.Disk) answer { h, _, e := slowSegment(d, seq); return answer{h: h, e: e} },
	}
}

// sectorsOf is Sectors as a call.
func sectorsOf(seq int) call {
	return call{
		"sectors", "sectors " + strconv.Itoa(seq), nil,
		func(d *disk.Disk) answer { l, e := Sectors(d, seq); return answer{data: l, e: e} },
		func(d *disk.Disk) answer { _, l, e := slowSegment(d, seq); return answer{data: l, e: e} },
	}
}

// newestOf is Newest as a call.
func newestOf() call {
	return call{
		"newest", "newest", nil,
		func(d *disk.Disk) answer { return answer{epoch: Newest(d)} },
		func(d *disk.Disk) answer { return answer{epoch: slowNewest(d)} },
	}
}

// text tells a header in few words.
func text(h api.Header) string {
	l := strconv.FormatUint(h.Epoch, 10)
	for _, n := range append([]int{h.Seq, h.First}, h.Heads[:]...) {
		l += "/" + strconv.Itoa(n)
	}
	return l
}

// calls are some of each.
func calls() []call {
	l := []call{
		newestOf(),
		prepareOf("", head(5, 1), nil), prepareOf("nothing", head(5, 1), nil), prepareOf("NO NAME", head(5, 1), nil), prepareOf("aaa", head(5, 1), nil),
		prepareOf("a", head(5, 1), nil), prepareOf("a", head(5, 1), marks("d", 1)), prepareOf("a", head(5, 2), marks("d", most)),
		prepareOf("a", head(5, 1), marks("d", most+1)), prepareOf("a", head(0, 1), nil), prepareOf("wal-1", head(8, 2), marks("e", 3)),
		prepareOf("free-0", head(5, 1), marks("d", 2)), prepareOf("free-1", head(5, 1), nil), prepareOf("free-2", head(5, 1), nil),
		beginOf(head(5, 1)), beginOf(head(6, 2)), beginOf(head(7, 3)), beginOf(head(8, mostLSN)), beginOf(head(0, 1)), beginOf(head(5, 0)),
	}
	for _, seq := range []int{-1, 0, 1, 2, 3, 12, mostLSN, mostLSN + 1} {
		l = append(l, headerOf(seq), sectorsOf(seq))
	}
	return l
}

// states are texts of files, by rising names, in which each call has something to do, or nothing, or an error of its own.
func states() []string {
	return []string{
		"",
		"a:17",
		"a:17@9/1",
		"a:17@0 b:3",
		"a:16 wal-1:17@5/1",
		"a:18 wal-1:17@5/1>0",
		"a:17 wal-1:17@5/1>6/1 wal-2:17@0>7/2",
		"free-0:17@7/2",
		"free-0:17@7/2 free-1:17@8/3 wal-1:17@5/1 wal-2:17@6/2",
		"a:17@0 b:3 free-0:17 free-1:17@3/3>4/3 free-2:17 wal-1:17@5/2",
		"a:17 b:3 free-0:5 free-1:6@9/9 free-2:7 wal-1:17@5/1~20 wal-2:17@6/2",
		"a:17 free-0:5 free-1:17@0 free-2:18 wal-1:16@5/1 wal-2:18@6/2 wal-3:1@7/3",
		"free-1:17@x wal-12:17@18446744073709551615/12",
		"free-2:17@2/2 wal-2147483647:17@4/2147483647",
		"free-1:4@12/1 wal-01:17@30/1 wal-1:17@5/1>0 wal-2147483648:17@31/1",
		join(many(maxFiles-1), "wal-1:17@5/1"),
		join(many(maxFiles-1), "free-2:17"),
		many(maxFiles),
	}
}

// goesBy holds a call against what is wanted: its answer, and what is told of the disk then.
func (c call) goesBy(t *testing.T, d *disk.Disk, want answer, left state) {
	t.Helper()
	before := short(told(d))
	if got := c.do(d); !got.equal(want) {
		t.Fatalf("%s of %s: %v, want %v", c.what, before, got, want)
	}
	same(t, c.what+" of "+before, d, left)
}

// againstSlow holds a call of d against the same one, by the chapter's words, of a twin.
func (c call) againstSlow(t *testing.T, what string, d, twin *disk.Disk) {
	t.Helper()
	if got, want := c.do(d), c.slow(twin); !got.equal(want) {
		t.Fatalf("%s, %s: %v, want %v", what, c.what, got, want)
	}
	same(t, what+", "+c.what, d, told(twin))
}
