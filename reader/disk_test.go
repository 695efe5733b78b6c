package reader

import (
	"slices"
	"strconv"
	"strings"
	"testing"

	"strandline/api"
	"strandline/disk"
	"strandline/scan"
)

// endless is what until tells, if no Fail is told.
const endless = 12

// heading is a right header.
func heading(epoch uint64, seq int) api.Header {
	return api.Header{Epoch: epoch, Seq: seq, First: 7, Heads: [4]int{6, 0, 3, 1}}
}

// mark is a sector that no other name, and no other number, has; it is no header's.
func mark(name string, i int) api.Sec {
	s := api.Sec{0: byte(i + 1), 63: byte(i + 1)}
	copy(s[1:], name)
	return s
}

// marks are n of them.
func marks(name string, n int) []api.Sec {
	var l []api.Sec
	for i := range n {
		l = append(l, mark(name, i))
	}
	return l
}

// file is a live one's name and sectors: a header's, and those behind it.
func file(h api.Header, data []api.Sec) api.File {
	return api.File{Name: slowLive(h.Seq), L: append([]api.Sec{slowSector(h)}, data...)}
}

// laid is a disk of these files, all of them lasting.
func laid(t *testing.T, l ...api.File) *disk.Disk {
	t.Helper()
	d, e := disk.Lay(4000, l)
	fine(t, e)
	return d
}

// fileState is all that is told of a file: which sectors wait just if the disk is up.
type fileState struct {
	name          string
	lasting, seen []api.Sec
	waits         []bool
}

// state is all that is told of a disk, of what it does till it is down too.
type state struct {
	files              []fileState
	used, waiting, ops int
	down               bool
	until              int
}

// told tells all that is told of d.
func told(d *disk.Disk) state {
	if d == nil {
		return state{}
	}
	s := state{used: d.Used(), waiting: d.Waiting(), ops: d.Ops(), down: d.Down(), until: until(d)}
	for _, f := range d.Files() {
		seen, _ := slowSeen(d, f.Name)
		s.files = append(s.files, fileState{f.Name, f.L, seen, waits(d, f.Name)})
	}
	return s
}

// waits tells of each sector of a file whether it waits: by a clone, in which one that waits may be written with none waiting more; none of a disk that is down.
func waits(d *disk.Disk, name string) []bool {
	if d.Down() {
		return nil
	}
	c := d.Clone()
	c.Fail(1 << 30)
	var l []bool
	for i := range c.Size(name) {
		n := c.Waiting()
		c.Write(name, i, []api.Sec{{}})
		l = append(l, c.Waiting() == n)
	}
	return l
}

// ones are bytes whose first n bits are true.
func ones(n int) []byte {
	b := make([]byte, (n+7)/8)
	for i := range n {
		b[i/8] |= 1 << (i % 8)
	}
	return b
}

// until tells how many ops d does till it is down: endless, if it goes on; -1, if it is down.
func until(d *disk.Disk) int {
	if d.Down() {
		return -1
	}
	c, n, name := d.Clone(), 0, "until"
	if l := d.List(); len(l) > 0 {
		name = l[0]
	} else if c.Make(name, 1) == api.OK {
		n = 1
	}
	for ; n < endless; n++ {
		if e := c.Sync(name); e == api.ErrDown {
			return n
		}
	}
	return endless
}

// equal tells whether all that is told is the same.
func (s state) equal(other state) bool {
	return s.used == other.used && s.waiting == other.waiting && s.ops == other.ops && s.down == other.down && s.until == other.until &&
		slices.EqualFunc(s.files, other.files, fileState.equal)
}

// equal tells whether all that is told is the same.
func (f fileState) equal(other fileState) bool {
	return f.name == other.name && slices.Equal(f.lasting, other.lasting) && slices.Equal(f.seen, other.seen) && slices.Equal(f.waits, other.waits)
}

// String tells a state in few words.
func (s state) String() string {
	var l []string
	for _, f := range s.files {
		l = append(l, f.name+":"+strconv.Itoa(len(f.seen)))
	}
	for _, n := range []int{s.used, s.waiting, s.ops, s.until} {
		l = append(l, strconv.Itoa(n))
	}
	return strings.Join(append(l, strconv.FormatBool(s.down)), " ")
}

// goDown takes the disk its power, at its next op.
func goDown(t *testing.T, d *disk.Disk) {
	t.Helper()
	fine(t, d.Fail(0))
	if l := d.List(); len(l) > 0 {
		d.Sync(l[0])
	} else {
		d.Make("x", 1)
	}
	if !d.Down() {
		t.Fatal("the disk is up")
	}
}

// reads holds Read against what is wanted.
func reads(t *testing.T, what any, d *disk.Disk, at api.Place, want []byte, wanted api.Errno) {
	t.Helper()
	if got, e := Read(d, at); e != wanted || !slices.Equal(got, want) {
		t.Fatalf("%v: Read at %v: %d bytes, error %d, not %d bytes, error %d", what, at, len(got), e, len(want), wanted)
	}
}

// tells holds All against what is wanted.
func tells(t *testing.T, what any, d *disk.Disk, seq int, want scan.Result, wanted api.Errno) {
	t.Helper()
	if got, e := All(d, seq); e != wanted || !sameResult(got, want) {
		t.Fatalf("%v: All of %d: %s, error %d, not %s, error %d", what, seq, text(got), e, text(want), wanted)
	}
}

// refuses holds both against an error, at each of some places.
func refuses(t *testing.T, what any, d *disk.Disk, seq int, e api.Errno) {
	t.Helper()
	for _, at := range []int{0, 13, 52, 416, all, -1, all + 1} {
		reads(t, what, d, api.Place{Seq: seq, At: at}, nil, e)
	}
	tells(t, what, d, seq, scan.Result{}, e)
}

// againstSlow holds both, of a number, against the slow ones, at these places, and that they leave the disk as it was.
func againstSlow(t *testing.T, what any, d *disk.Disk, seq int, places ...int) {
	t.Helper()
	before := told(d)
	for _, at := range places {
		want, e := slowRead(d, api.Place{Seq: seq, At: at})
		reads(t, what, d, api.Place{Seq: seq, At: at}, want, e)
	}
	want, e := slowAll(d, seq)
	tells(t, what, d, seq, want, e)
	if after := told(d); !after.equal(before) {
		t.Fatalf("%v: %v, it was %v", what, after, before)
	}
}
