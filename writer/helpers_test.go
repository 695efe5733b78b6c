package writer

import (
	"math"
	"slices"
	"strconv"
	"strings"
	"testing"

	"strandline/api"
	"strandline/disk"
	"strandline/segment"
)

// A sector's, a body's, a fragment's and a segment's numbers, as they are told in no code but here.
const (
	sector  = 64
	stamped = 12
	room    = 52
	sectors = 16
	block   = 208
	all     = 832
	head    = 11
	most    = 788 // bytes of a record that a whole segment has room for
	whole   = 17
	mostLSN = 2147483647
	endless = 12 // what until tells, if no Fail is told
)

// epochs are the bounds of their type's bits, and some between; some are the same in their lowest 32 bits.
func epochs() []uint64 {
	return []uint64{0, 1, 3, 1<<32 - 1, 1 << 32, 1<<32 + 3, 1<<63 + 3, math.MaxUint64, 0x0102030405060708}
}

// beyond are places below 0 and above SegRoom, some the same as a place in fewer bits.
func beyond() []int {
	return []int{
		math.MinInt, math.MinInt + 1, math.MinInt + 60, -1<<32 - 1, -1 << 32, -1<<32 + 60, math.MinInt32, -65536 + 60, -all - 1, -all, -256 + 60, -block, -room, -head, -2, -1,
		all + 1, all + 2, all + head, all + room, 2 * all, 65536, 65536 + 60, math.MaxInt32, math.MaxInt32 + 1, 1 << 32, 1<<32 + 60, 1<<32 + all, math.MaxInt - all, math.MaxInt - 1, math.MaxInt,
	}
}

// edges are the places at and beside each end of a sector, and so of a block, and those where a head has just room.
func edges() []int {
	var l []int
	for at := range all + 1 {
		if off := at % room; off < 2 || off > 39 {
			l = append(l, at)
		}
	}
	return l
}

// lengths are those of records at the bounds of pieces, sectors, blocks and segments.
func lengths() []int {
	return []int{0, 1, 2, 10, 29, 30, 31, 40, 41, 42, 92, 93, 94, 185, 186, 187, 196, 197, 198, 207, 208, 209, 393, 394, 395, 500, 511, 512, 513, 590, 591, 592, 786, 787, 788, 789, 832, 5000}
}

// scatter tells bytes that look like any, the same ones in each run.
func scatter(count int) []byte {
	var l []byte
	n := uint64(88172645463325252)
	for range count {
		n ^= n << 13
		n ^= n >> 7
		n ^= n << 17
		l = append(l, byte(n>>32))
	}
	return l
}

// bytesOf tells so many bytes, others for each which.
func bytesOf(which, count int) []byte {
	b := make([]byte, count)
	for i := range b {
		b[i] = byte(which*31 + i*7 + i*i>>5 + 1)
	}
	return b
}

// roomy is b, with bytes behind its end that are not its own.
func roomy(b []byte) []byte {
	return append(slices.Clone(b), slices.Repeat([]byte{171}, all)...)[:len(b)]
}

// bodies are nil, none, and such that lack bytes, have just enough, and have more, some with room behind their end.
func bodies() [][]byte {
	l := [][]byte{nil, {}, roomy(nil), make([]byte, all), roomy(slices.Repeat([]byte{255}, all)), slices.Repeat([]byte{255}, all+1)}
	for _, n := range []int{1, 11, 51, 52, 53, 207, 208, 209, 415, 831, 832, 833, 884, 1664} {
		l = append(l, roomy(scatter(n)))
	}
	return l
}

// heading is a right header.
func heading(epoch uint64, seq int) api.Header {
	return api.Header{Epoch: epoch, Seq: seq, First: 7, Heads: [4]int{6, 0, 3, 1}}
}

// mark is a sector that no other name, and no other number, has.
func mark(name string, i int) api.Sec {
	s := api.Sec{0: byte(i + 1), 63: byte(i + 1)}
	copy(s[1:], name)
	return s
}

// marks are n of them, from the number from on.
func marks(name string, from, n int) []api.Sec {
	var l []api.Sec
	for i := range n {
		l = append(l, mark(name, from+i))
	}
	return l
}

// laid is a disk of the files of a text such as a:3 wal-1:17, of marks, each third one of which waits; it has room for more.
func laid(t *testing.T, text string) *disk.Disk {
	t.Helper()
	d := disk.New(4000)
	for _, word := range strings.Fields(text) {
		name, digits, _ := strings.Cut(word, ":")
		n, err := strconv.Atoi(digits)
		if err != nil {
			t.Fatal(err)
		}
		fine(t, d.Make(name, n))
		fine(t, d.Write(name, 0, marks(name, 0, n)))
		fine(t, d.Sync(name))
		for i := 0; i < n; i += 3 {
			fine(t, d.Write(name, i, marks(name, 100+i, 1)))
		}
	}
	return d
}

// begun is a disk of these files, on which a segment was begun, too.
func begun(t *testing.T, text string, h api.Header) *disk.Disk {
	t.Helper()
	d := laid(t, text)
	fine(t, segment.Begin(d, h))
	return d
}

// fileState is all that is told of a file: which sectors wait just if the disk is up.
type fileState struct {
	name          string
	lasting, seen []api.Sec
	waits         []bool
}

// state is all that is told of a disk, of what it does till it is down too.
type state struct {
	files              []fileState
	used, waiting, ops int
	down               bool
	until              int
}

// told tells all that is told of d.
func told(d *disk.Disk) state {
	s := state{used: d.Used(), waiting: d.Waiting(), ops: d.Ops(), down: d.Down(), until: until(d)}
	// A disk that is down reads nothing, but a crash that keeps all has what is seen lasting.
	c := d.Clone()
	c.Crash(api.Crash{Keep: ones(d.Waiting()), Torn: -1})
	seen := c.Files()
	for i, f := range d.Files() {
		s.files = append(s.files, fileState{f.Name, f.L, seen[i].L, waits(d, f.Name)})
	}
	return s
}

// waits tells of each sector of a file whether it waits: by a clone, in which one that waits may be written with none waiting more; none of a disk that is down.
func waits(d *disk.Disk, name string) []bool {
	if d.Down() {
		return nil
	}
	c := d.Clone()
	c.Fail(1 << 30)
	var l []bool
	for i := range c.Size(name) {
		n := c.Waiting()
		c.Write(name, i, []api.Sec{{}})
		l = append(l, c.Waiting() == n)
	}
	return l
}

// ones are bytes whose first n bits are true.
func ones(n int) []byte {
	b := make([]byte, (n+7)/8)
	for i := range n {
		b[i/8] |= 1 << (i % 8)
	}
	return b
}

// until tells how many ops d does till it is down: endless, if it goes on; -1, if it is down.
func until(d *disk.Disk) int {
	if d.Down() {
		return -1
	}
	c, n, name := d.Clone(), 0, "until"
	if l := d.List(); len(l) > 0 {
		name = l[0]
	} else if c.Make(name, 1) == api.OK {
		n = 1
	}
	for ; n < endless; n++ {
		if e := c.Sync(name); e == api.ErrDown {
			return n
		}
	}
	return endless
}

// equal tells whether all that is told is the same.
func (s state) equal(other state) bool {
	return s.used == other.used && s.waiting == other.waiting && s.ops == other.ops && s.down == other.down && s.until == other.until &&
		slices.EqualFunc(s.files, other.files, fileState.equal)
}

// equal tells whether all that is told is the same.
func (f fileState) equal(other fileState) bool {
	return f.name == other.name && slices.Equal(f.lasting, other.lasting) && slices.Equal(f.seen, other.seen) && slices.Equal(f.waits, other.waits)
}

// without are the files that are told, but that one.
func (s state) without(name string) []fileState {
	return slices.DeleteFunc(slices.Clone(s.files), func(f fileState) bool { return f.name == name })
}

// of is what is told of a file.
func (s state) of(t *testing.T, name string) fileState {
	t.Helper()
	i := slices.IndexFunc(s.files, func(f fileState) bool { return f.name == name })
	if i < 0 {
		t.Fatalf("there is no file %s", name)
	}
	return s.files[i]
}

// String tells a state in few words: of each file the first byte of its sectors' rooms, lasting and seen, and which wait.
func (s state) String() string {
	var l []string
	for _, f := range s.files {
		text := f.name + "("
		for i := range f.lasting {
			text += strconv.Itoa(int(f.lasting[i][stamped])) + ">" + strconv.Itoa(int(f.seen[i][stamped]))
			if i < len(f.waits) && f.waits[i] {
				text += "*"
			}
			text += " "
		}
		l = append(l, text+")")
	}
	for _, n := range []int{s.used, s.waiting, s.ops, s.until} {
		l = append(l, strconv.Itoa(n))
	}
	return strings.Join(append(l, strconv.FormatBool(s.down)), " ")
}

// differ tells in which sector, and where there, one list is another one.
func differ(got, want []api.Sec) string {
	for i := range min(len(got), len(want)) {
		for k := range sector {
			if got[i][k] != want[i][k] {
				return "sector " + strconv.Itoa(i) + " has at " + strconv.Itoa(k) + " " + strconv.Itoa(int(got[i][k])) + ", not " + strconv.Itoa(int(want[i][k]))
			}
		}
	}
	return strconv.Itoa(len(got)) + " sectors, not " + strconv.Itoa(len(want))
}

// same holds what is told of d against what is wanted.
func same(t *testing.T, what string, d *disk.Disk, want state) {
	t.Helper()
	if got := told(d); !got.equal(want) {
		t.Fatalf("%s: %v\nwant: %v", what, got, want)
	}
}

// fine ends the test, if there is an error.
func fine(t *testing.T, e api.Errno) {
	t.Helper()
	if e != api.OK {
		t.Fatalf("error %d", e)
	}
}

// goDown takes the disk its power, at a Sync of its first file.
func goDown(t *testing.T, d *disk.Disk) {
	t.Helper()
	fine(t, d.Fail(0))
	d.Sync(d.List()[0])
	if !d.Down() {
		t.Fatal("the disk is up")
	}
}

// is holds an answer of Append against what is wanted.
func is(t *testing.T, what string, at int, e api.Errno, wantAt int, want api.Errno) {
	t.Helper()
	if at != wantAt || e != want {
		t.Fatalf("%s: %d, error %d, want %d, error %d", what, at, e, wantAt, want)
	}
}

// puts appends data, which has to be told at a place.
func puts(t *testing.T, w *Writer, data []byte, place int) {
	t.Helper()
	at, e := w.Append(data)
	is(t, strconv.Itoa(len(data))+" bytes", at, e, place, api.OK)
}
