package segment

import (
	"math"
	"slices"
	"strconv"
	"strings"
	"testing"

	"strandline/api"
	"strandline/disk"
)

// A segment's, a header's and a disk's numbers, as they are told in no code but here.
const (
	whole      = 17
	most       = 16
	heads      = 4
	mostLSN    = 2147483647
	maxFiles   = 64
	maxSectors = 64
	endless    = 20 // what until tells, if no Fail is told
)

// frees are the free names, rising; the first one is the spare's.
func frees() []string {
	return []string{"free-0", "free-1", "free-2"}
}

// head is a right header.
func head(epoch uint64, seq int) api.Header {
	return api.Header{Epoch: epoch, Seq: seq, First: 7, Heads: [heads]int{6, 0, 3, 1}}
}

// rightHeaders are at the bounds of what is right, and between.
func rightHeaders() []api.Header {
	l := []api.Header{
		head(1, 1), head(5, 1), head(6, 2), head(7, 12), head(math.MaxUint64, 3), head(1<<63, mostLSN), head(1<<32, mostLSN-1),
		{Epoch: 1, Seq: 1, First: 1},
		{Epoch: 9, Seq: 4, First: mostLSN},
		{Epoch: 9, Seq: 4, First: mostLSN, Heads: [heads]int{mostLSN - 1, 1, mostLSN - 2, mostLSN - 1}},
	}
	for i := range heads {
		h := api.Header{Epoch: 0x0102030405060708, Seq: 0x01020304, First: 0x0a0b0c0d}
		h.Heads[i] = 0x0a0b0c0d - 1
		l = append(l, h)
	}
	return l
}

// wrongHeaders are wrong in one way each, at its bounds, and in all ways.
func wrongHeaders() []api.Header {
	l := []api.Header{{}, {Heads: [heads]int{-1, -1, -1, -1}}, {Epoch: 5}, head(0, 1)}
	for _, n := range []int{math.MinInt, -mostLSN, -1, 0, mostLSN + 1, 1 << 32, 1<<32 + 1, math.MaxInt} {
		h := head(5, 1)
		h.Seq = n
		l = append(l, h)
		h = head(5, 1)
		h.First, h.Heads = n, [heads]int{}
		l = append(l, h)
	}
	for i := range heads {
		for _, n := range []int{math.MinInt, -mostLSN, -1, 7, 8, mostLSN, 1 << 32, 1<<32 + 1, math.MaxInt} {
			h := head(5, 1)
			h.Heads[i] = n
			l = append(l, h)
		}
	}
	return l
}

// spec is a file that is wanted: its sectors are marks, unless the first one is told, as it is lasting and as it is seen.
type spec struct {
	name    string
	n       int
	was, is string
}

// specs tells the files of a text such as a:3 wal-1:17@5/1>0: name, sectors, the first one lasting and seen (see sectorOf).
func specs(text string) []spec {
	var l []spec
	for _, word := range strings.Fields(text) {
		word, tell, told := strings.Cut(word, "@")
		name, digits, _ := strings.Cut(word, ":")
		f := spec{name: name, n: number(digits)}
		if told {
			was, is, differ := strings.Cut(tell, ">")
			f.was, f.is = was, is
			if !differ {
				f.is = was
			}
		}
		l = append(l, f)
	}
	return l
}

// number is the number of these digits.
func number(digits string) int {
	n, err := strconv.Atoi(digits)
	if err != nil {
		panic("no number in " + digits)
	}
	return n
}

// sectorOf is the sector that is told by: 0, an empty one; x, a mark; 5/2, the header's of epoch 5 and number 2; 5/2~20, that one with the byte 20 changed.
func sectorOf(text string) api.Sec {
	switch text {
	case "0":
		return api.Sec{}
	case "x":
		return mark("x", 1)
	}
	text, at, changed := strings.Cut(text, "~")
	epoch, seq, _ := strings.Cut(text, "/")
	n, err := strconv.ParseUint(epoch, 10, 64)
	if err != nil {
		panic("no epoch in " + text)
	}
	s := slowSector(head(n, number(seq)))
	if changed {
		s[number(at)] ^= 1
	}
	return s
}

// secs tells a file's sectors, as they are lasting and as they are seen; each third one of marks differs.
func secs(f spec) (lasting, seen []api.Sec) {
	lasting, seen = make([]api.Sec, f.n), make([]api.Sec, f.n)
	for i := range f.n {
		lasting[i] = mark(f.name, i)
		seen[i] = lasting[i]
		if i%3 == 0 {
			seen[i] = mark(f.name, i+100)
		}
	}
	if f.was != "" {
		lasting[0], seen[0] = sectorOf(f.was), sectorOf(f.is)
	}
	return lasting, seen
}

// mark is a sector that no other name, and no other number, has; it is no header's.
func mark(name string, i int) api.Sec {
	s := api.Sec{0: byte(i + 1), 63: byte(i + 1)}
	copy(s[1:], name)
	return s
}

// marks are n of them.
func marks(name string, n int) []api.Sec {
	var l []api.Sec
	for i := range n {
		l = append(l, mark(name, i))
	}
	return l
}

// laid is a disk of these files, with room for so many sectors more.
func laid(t *testing.T, text string, more int) *disk.Disk {
	t.Helper()
	var l []api.File
	used := 0
	for _, f := range specs(text) {
		lasting, _ := secs(f)
		l = append(l, api.File{Name: f.name, L: lasting})
		used += f.n
	}
	d, e := disk.Lay(used+more, l)
	if e != api.OK {
		t.Fatalf("%s is not laid: error %d", text, e)
	}
	for _, f := range specs(text) {
		lasting, seen := secs(f)
		for i := range seen {
			if seen[i] != lasting[i] {
				fine(t, d.Write(f.name, i, seen[i:i+1]))
			}
		}
	}
	return d
}

// fileState is all that is told of a file: how many sectors wait just if the disk is up.
type fileState struct {
	name          string
	lasting, seen []api.Sec
	waiting       int
}

// state is all that is told of a disk, of what it does till it is down too.
type state struct {
	files              []fileState
	used, waiting, ops int
	down               bool
	until              int
}

// told tells all that is told of d.
func told(d *disk.Disk) state {
	s := state{used: d.Used(), waiting: d.Waiting(), ops: d.Ops(), down: d.Down(), until: until(d)}
	// A disk that is down reads nothing, but a crash that keeps all has what is seen lasting.
	c := d.Clone()
	c.Crash(api.Crash{Keep: ones(d.Waiting()), Torn: -1})
	seen := c.Files()
	waiting := waitings(d)
	for i, f := range d.Files() {
		s.files = append(s.files, fileState{f.Name, f.L, seen[i].L, waiting[i]})
	}
	return s
}

// waitings tells, file by file, how many sectors wait; zeros of a disk that is down.
func waitings(d *disk.Disk) []int {
	var l []int
	c := d.Clone()
	c.Fail(maxFiles)
	before := c.Waiting()
	for _, name := range d.List() {
		c.Remove(name)
		n := c.Waiting()
		l = append(l, before-n)
		before = n
	}
	return l
}

// ones are bytes whose first n bits are true.
func ones(n int) []byte {
	b := make([]byte, (n+7)/8)
	for i := range n {
		b[i/8] |= 1 << (i % 8)
	}
	return b
}

// until tells how many ops d does till it is down: endless, if it goes on, or can do none; -1, if it is down.
func until(d *disk.Disk) int {
	c, n, name := d.Clone(), 0, "until"
	if d.Down() {
		return -1
	}
	if l := d.List(); len(l) > 0 {
		name = l[0]
	} else if c.Make(name, 1) == api.OK {
		n = 1
	}
	for ; n < endless; n++ {
		if e := c.Sync(name); e == api.ErrDown {
			return n
		}
	}
	return endless
}

// without is s, but without that file.
func (s state) without(name string) state {
	l := slices.Clone(s.files)
	s.files = slices.DeleteFunc(l, func(f fileState) bool { return f.name == name })
	return s.reckoned()
}

// with is s, with that file, of these sectors, of which so many wait, in the place of one that has its name.
func (s state) with(name string, lasting, seen []api.Sec, waiting int) state {
	s = s.without(name)
	s.files = append(s.files, fileState{name, lasting, seen, waiting})
	slices.SortFunc(s.files, func(a, b fileState) int { return strings.Compare(a.name, b.name) })
	return s.reckoned()
}

// synced is s, with that file of these sectors, none of which waits.
func (s state) synced(name string, l []api.Sec) state {
	return s.with(name, l, l, 0)
}

// reckoned is s, with the sums over all files.
func (s state) reckoned() state {
	s.used, s.waiting = 0, 0
	for _, f := range s.files {
		s.used += len(f.lasting)
		s.waiting += f.waiting
	}
	return s
}

// done is s behind so many ops.
func (s state) done(ops int) state {
	s.ops += ops
	return s
}

// fallen is s without power.
func (s state) fallen() state {
	s.files = slices.Clone(s.files)
	for i := range s.files {
		s.files[i].waiting = 0
	}
	s.down, s.until = true, -1
	return s
}

// equal tells whether all that is told is the same.
func (s state) equal(other state) bool {
	return s.used == other.used && s.waiting == other.waiting && s.ops == other.ops && s.down == other.down && s.until == other.until &&
		slices.EqualFunc(s.files, other.files, fileState.equal)
}

// equal tells whether all that is told is the same.
func (f fileState) equal(other fileState) bool {
	return f.name == other.name && f.waiting == other.waiting && slices.Equal(f.lasting, other.lasting) && slices.Equal(f.seen, other.seen)
}

// same holds what is told of d against what is wanted.
func same(t *testing.T, what string, d *disk.Disk, want state) {
	t.Helper()
	if got := told(d); !got.equal(want) {
		t.Fatalf("%s: %s\nwant: %s", what, short(got), short(want))
	}
}

// short tells a state in few words.
func short(s state) string {
	var l []string
	for _, f := range s.files {
		l = append(l, f.name+":"+strconv.Itoa(len(f.lasting))+"/"+strconv.Itoa(f.waiting)+" "+begins(f.lasting)+begins(f.seen))
	}
	for _, n := range []int{s.used, s.waiting, s.ops, s.until} {
		l = append(l, strconv.Itoa(n))
	}
	return strings.Join(append(l, strconv.FormatBool(s.down)), " ")
}

// begins tells the first byte of each sector.
func begins(l []api.Sec) string {
	text := "("
	for _, s := range l {
		text += strconv.Itoa(int(s[0])) + " "
	}
	return text + ")"
}

// fine ends the test, if there is an error.
func fine(t *testing.T, e api.Errno) {
	t.Helper()
	if e != api.OK {
		t.Fatalf("error %d", e)
	}
}

// goDown does an op of a disk whose next one fails.
func goDown(t *testing.T, d *disk.Disk) {
	t.Helper()
	fine(t, d.Fail(0))
	if l := d.List(); len(l) > 0 {
		d.Sync(l[0])
	} else {
		d.Make("x", 1)
	}
	if !d.Down() {
		t.Fatal("the disk is up")
	}
}

// many are the texts of n files of one sector, whose names stand ahead of the free ones.
func many(n int) string {
	var l []string
	for i := range n {
		l = append(l, string([]byte{'a', byte('a' + i/26), byte('a' + i%26)})+":1")
	}
	return strings.Join(l, " ")
}

// join puts texts of files one behind the other.
func join(l ...string) string {
	return strings.TrimSpace(strings.Join(l, " "))
}

// sized is the text of a file of n sectors.
func sized(name string, n int) string {
	return name + ":" + strconv.Itoa(n)
}
