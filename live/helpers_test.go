package live

import (
	"fmt"
	"slices"
	"strconv"
	"strings"
	"testing"

	"strandline/api"
	"strandline/disk"
)

// A record's, a segment's and a disk's numbers, as they are told in no code but here.
const (
	chains  = 4
	mostLSN = 2147483647
	longest = 512 // bytes of a record
	sector  = 64
	ahead   = 12
	room    = 52
	sectors = 16
	block   = 208
	all     = 832
	head    = 11
	whole   = 17 // sectors of a segment
	clean   = 1
	torn    = 2
	endless = 12 // what until tells, if no Fail is told
)

// dice are numbers that come one behind the other, always the same ones.
type dice uint64

// roll tells a number from 0 to n - 1.
func (r *dice) roll(n int) int {
	*r = *r*6364136223846793005 + 1442695040888963407
	return int(uint64(*r)>>33) % n
}

// pick tells one of l.
func pick[T any](r *dice, l ...T) T {
	return l[r.roll(len(l))]
}

// bytes tells so many that look like any.
func (r *dice) bytes(n int) []byte {
	var l []byte
	for range n {
		l = append(l, byte(r.roll(256)))
	}
	return l
}

// crash tells a crash.
func (r *dice) crash() api.Crash {
	return api.Crash{Keep: r.bytes(r.roll(10)), Torn: r.roll(20) - 8, Cut: pick(r, -1, 0, 1, 11, 12, 13, 23, 41, 63, 64, 65)}
}

// mixed are so many bytes, others for each which.
func mixed(which, count int) []byte {
	r := dice(which)
	return r.bytes(count)
}

// heading is a right header.
func heading(epoch uint64, seq int) api.Header {
	return api.Header{Epoch: epoch, Seq: seq, First: 70, Heads: [chains]int{69, 0, 31, 1}}
}

// rec is a record, whose Kind and Data go by its number.
func rec(chain, lsn, prev int) api.Rec {
	return api.Rec{Kind: 1 + (lsn&0xff)%9, Chain: chain, LSN: lsn, Prev: prev, Data: mixed(lsn, lsn&0xff%40)}
}

// seg is a segment with these records, which ends cleanly.
func seg(h api.Header, recs ...api.Rec) Segment {
	s := Segment{H: h, Recs: recs, Kind: clean}
	for _, r := range recs {
		l, behind, _ := pieces(s.End, len(bytesOf(r)))
		if len(l) == 0 {
			l, behind = []piece{{at: s.End}}, s.End
		}
		s.Places, s.End = append(s.Places, l[0].at), behind
	}
	return s
}

// grown are segments that are right together: the first one has that header, and each one records of these chains.
func grown(h api.Header, rows ...[]int) []Segment {
	var l []Segment
	for _, row := range rows {
		var recs []api.Rec
		next, heads := h.First, h.Heads
		for _, chain := range row {
			recs = append(recs, rec(chain, next, heads[chain]))
			heads[chain] = next
			next++
		}
		l = append(l, seg(h, recs...))
		h = api.Header{Epoch: h.Epoch + 1 + uint64(len(row)%3), Seq: h.Seq + 1, First: next, Heads: heads}
	}
	return l
}

// rows are the chains of records, segment by segment: of no segment, of one and of several, with records and without.
func rows() [][][]int {
	return [][][]int{
		{},
		{{}},
		{{0}},
		{{3, 1, 1, 0}},
		{{}, {}},
		{{}, {2}},
		{{1}, {}},
		{{1}, {1}},
		{{0, 1, 2, 3}, {3, 2, 1, 0}},
		{{}, {}, {}},
		{{0, 0}, {}, {0}},
		{{}, {0, 1}, {}},
		{{2, 2}, {1, 2, 1}, {3, 3}},
		{{0, 1, 2, 3, 0}, {}, {}, {1, 0, 0}, {3}},
		{{0, 1}, {1, 2}, {2, 3}, {3, 0}, {0}, {}, {1}},
	}
}

// grownAll are segments of all rows.
func grownAll() [][]Segment {
	var l [][]Segment
	for i, row := range rows() {
		l = append(l, grown(heading(uint64(1+7*i), 1+3*i), row...))
	}
	return l
}

// copied is a copy of l that shares nothing with it.
func copied(l []Segment) []Segment {
	l = slices.Clone(l)
	for i := range l {
		l[i].Recs, l[i].Places = slices.Clone(l[i].Recs), slices.Clone(l[i].Places)
		for k := range l[i].Recs {
			l[i].Recs[k].Data = slices.Clone(l[i].Recs[k].Data)
		}
	}
	return l
}

// same tells whether segments are the same; none and an empty list are.
func same(a, b []Segment) bool {
	return slices.EqualFunc(a, b, func(a, b Segment) bool {
		return a.H == b.H && a.End == b.End && a.Kind == b.Kind && slices.Equal(a.Places, b.Places) &&
			slices.EqualFunc(a.Recs, b.Recs, func(a, b api.Rec) bool {
				return a.Kind == b.Kind && a.Chain == b.Chain && a.LSN == b.LSN && a.Prev == b.Prev && slices.Equal(a.Data, b.Data)
			})
	})
}

// text is segments in a test's words.
func text(l []Segment) string {
	var words []string
	for _, s := range l {
		words = append(words, fmt.Sprintf("%v, at %v, up to %d, %d:", s.H, s.Places, s.End, s.Kind))
		for _, r := range s.Recs {
			words = append(words, fmt.Sprintf("%d/%d/%d/%d(%d)", r.Kind, r.Chain, r.LSN, r.Prev, len(r.Data)))
		}
	}
	return strings.Join(words, " ")
}

// checks holds Check against what is wanted.
func checks(t *testing.T, what any, l []Segment, want api.Errno) {
	t.Helper()
	if e := Check(l); e != want {
		t.Fatalf("%v: Check tells %d, not %d, of %s", what, e, want, text(l))
	}
	if e := slowCheck(l); e != want {
		t.Fatalf("%v: the slow one tells %d, not %d, of %s", what, e, want, text(l))
	}
}

// tells holds Next and Heads against what is wanted.
func tells(t *testing.T, what any, l []Segment, next int, heads [chains]int) {
	t.Helper()
	if got := Next(l); got != next {
		t.Fatalf("%v: Next tells %d, not %d, of %s", what, got, next, text(l))
	}
	if got := Heads(l); got != heads {
		t.Fatalf("%v: Heads tells %v, not %v, of %s", what, got, heads, text(l))
	}
}

// againstSlow holds what is told of segments against the slow readings.
func againstSlow(t *testing.T, what any, l []Segment) api.Errno {
	t.Helper()
	e := slowCheck(l)
	checks(t, what, l, e)
	tells(t, what, l, slowNext(l), slowHeads(l))
	return e
}

// file is the file of a segment: its header's sector, and its records laid one behind the other.
func file(t *testing.T, s Segment) api.File {
	t.Helper()
	var l [][]byte
	for _, r := range s.Recs {
		l = append(l, bytesOf(r))
	}
	return fileOf(t, s.H, l...)
}

// fileOf is the file of a segment that has these bytes in the place of records.
func fileOf(t *testing.T, h api.Header, l ...[]byte) api.File {
	t.Helper()
	body, at := make([]byte, all), 0
	for _, b := range l {
		parts, behind, ok := pieces(at, len(b))
		if !ok {
			t.Fatalf("a segment has no room for %d records", len(l))
		}
		for _, p := range parts {
			copy(body[p.at:], fragment(p.kind, h.Epoch, b[p.from:p.to]))
		}
		at = behind
	}
	return api.File{Name: slowLive(h.Seq), L: append([]api.Sec{slowSector(h)}, sealed(h.Epoch, body, at)...)}
}

// files are those of segments.
func files(t *testing.T, l []Segment) []api.File {
	t.Helper()
	var f []api.File
	for _, s := range l {
		f = append(f, file(t, s))
	}
	return f
}

// laid is a disk of these files, all of them lasting.
func laid(t *testing.T, l ...api.File) *disk.Disk {
	t.Helper()
	d, e := disk.Lay(4000, l)
	fine(t, e)
	return d
}

// mark is a sector that no other name, and no other number, has; it is no header's.
func mark(name string, i int) api.Sec {
	s := api.Sec{0: byte(i + 1), 63: byte(i + 1)}
	copy(s[1:], name)
	return s
}

// marks are n of them.
func marks(name string, n int) []api.Sec {
	var l []api.Sec
	for i := range n {
		l = append(l, mark(name, i))
	}
	return l
}

// loads holds Load against what is wanted, and that it leaves the disk as it was; what is loaded is right together.
func loads(t *testing.T, what any, d *disk.Disk, want []Segment, wanted api.Errno) {
	t.Helper()
	before := told(d)
	l, e := Load(d)
	if e != wanted || !same(l, want) {
		t.Fatalf("%v: Load tells %s, error %d, not %s, error %d", what, text(l), e, text(want), wanted)
	}
	if e == api.OK {
		checks(t, what, l, api.OK)
	}
	if after := told(d); !after.equal(before) {
		t.Fatalf("%v: %v, it was %v", what, after, before)
	}
	if l, e := slowLoad(d); e != wanted || !same(l, want) {
		t.Fatalf("%v: the slow one tells %s, error %d, not %s, error %d", what, text(l), e, text(want), wanted)
	}
}

// refuses holds Load against an error.
func refuses(t *testing.T, what any, d *disk.Disk, e api.Errno) {
	t.Helper()
	loads(t, what, d, nil, e)
}

// asSlow holds Load against the slow one; it tells what is loaded.
func asSlow(t *testing.T, what any, d *disk.Disk) ([]Segment, api.Errno) {
	t.Helper()
	l, e := slowLoad(d)
	loads(t, what, d, l, e)
	return l, e
}

// fileState is all that is told of a file: which sectors wait just if the disk is up.
type fileState struct {
	name          string
	lasting, seen []api.Sec
	waits         []bool
}

// state is all that is told of a disk, of what it does till it is down too.
type state struct {
	files              []fileState
	used, waiting, ops int
	down               bool
	until              int
}

// told tells all that is told of d.
func told(d *disk.Disk) state {
	if d == nil {
		return state{}
	}
	s := state{used: d.Used(), waiting: d.Waiting(), ops: d.Ops(), down: d.Down(), until: until(d)}
	seen := slowSeen(d)
	for i, f := range d.Files() {
		s.files = append(s.files, fileState{f.Name, f.L, seen[i].L, waits(d, f.Name)})
	}
	return s
}

// waits tells of each sector of a file whether it waits: by a clone, in which one that waits may be written with none waiting more; none of a disk that is down.
func waits(d *disk.Disk, name string) []bool {
	if d.Down() || d.Waiting() == 0 {
		return nil
	}
	c := d.Clone()
	c.Fail(1 << 30)
	var l []bool
	for i := range c.Size(name) {
		n := c.Waiting()
		c.Write(name, i, []api.Sec{{}})
		l = append(l, c.Waiting() == n)
	}
	return l
}

// ones are bytes whose first n bits are true.
func ones(n int) []byte {
	b := make([]byte, (n+7)/8)
	for i := range n {
		b[i/8] |= 1 << (i % 8)
	}
	return b
}

// until tells how many ops d does till it is down: endless, if it goes on; -1, if it is down.
func until(d *disk.Disk) int {
	if d.Down() {
		return -1
	}
	c, n, name := d.Clone(), 0, "until"
	if l := d.List(); len(l) > 0 {
		name = l[0]
	} else if c.Make(name, 1) == api.OK {
		n = 1
	}
	for ; n < endless; n++ {
		if e := c.Sync(name); e == api.ErrDown {
			return n
		}
	}
	return endless
}

// equal tells whether all that is told is the same.
func (s state) equal(other state) bool {
	return s.used == other.used && s.waiting == other.waiting && s.ops == other.ops && s.down == other.down && s.until == other.until &&
		slices.EqualFunc(s.files, other.files, fileState.equal)
}

// equal tells whether all that is told is the same.
func (f fileState) equal(other fileState) bool {
	return f.name == other.name && slices.Equal(f.lasting, other.lasting) && slices.Equal(f.seen, other.seen) && slices.Equal(f.waits, other.waits)
}

// String tells a state in few words.
func (s state) String() string {
	var l []string
	for _, f := range s.files {
		l = append(l, f.name+":"+strconv.Itoa(len(f.seen)))
	}
	for _, n := range []int{s.used, s.waiting, s.ops, s.until} {
		l = append(l, strconv.Itoa(n))
	}
	return strings.Join(append(l, strconv.FormatBool(s.down)), " ")
}

// goDown takes the disk its power, at its next op.
func goDown(t *testing.T, d *disk.Disk) {
	t.Helper()
	fine(t, d.Fail(0))
	if l := d.List(); len(l) > 0 {
		d.Sync(l[0])
	} else {
		d.Make("x", 1)
	}
	if !d.Down() {
		t.Fatal("the disk is up")
	}
}

// fine ends the test, if there is an error.
func fine(t *testing.T, e api.Errno) {
	t.Helper()
	if e != api.OK {
		t.Fatalf("error %d", e)
	}
}
