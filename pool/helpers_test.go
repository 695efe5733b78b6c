package pool

import (
	"reflect"
	"strconv"
	"strings"
	"testing"

	"strandline/api"
	"strandline/disk"
)

// A disk's and a pool's numbers, as they are told in no code but here.
const (
	segment    = 17
	maxFiles   = 64
	maxSectors = 64
	endless    = 50 // what until tells, if no Fail is told
)

// frees are the free names, rising; the first one is the spare's.
func frees() []string {
	return []string{"free-0", "free-1", "free-2"}
}

// nearFrees are names that are nearly free ones.
func nearFrees() []string {
	return []string{
		"free", "free-", "free--", "free-3", "free-4", "free-9", "free-10", "free-11", "free-12", "free-20", "free-100",
		"free-00", "free-01", "free-02", "free-001", "free-0000000000000000002", "free--0", "free--1", "free-1-", "-free-1", "free-0-0", "free-1-2",
		"free0", "free1", "free-a", "free-1a", "free-a1", "free-0x1", "free-1e0", "ffree-1", "frees-1", "fre-1", "ree-0", "f-1", "-0", "-1", "0", "1", "2", "-",
		"free-2147483647", "free-4294967296", "free-4294967297", "free-281474976710658",
		"wal-0", "wal-1", "wal-2", "wal-3", "wal-17", "wal-01", "live-1", "pool-1", "spare", "a",
	}
}

// spec is a file that is wanted, with the bytes of the file that had that origin's name in the beginning; new is one of empty sectors.
type spec struct {
	name, origin string
	n            int
}

// specs tells the files of a text such as free-0:17 a:3 free-2=b:17: name, origin if it is another one, sectors.
func specs(text string) []spec {
	var l []spec
	for _, word := range strings.Fields(text) {
		head, digits, _ := strings.Cut(word, ":")
		n, err := strconv.Atoi(digits)
		if err != nil {
			panic("no number in " + word)
		}
		name, origin, ok := strings.Cut(head, "=")
		if !ok {
			origin = name
		}
		l = append(l, spec{name, origin, n})
	}
	return l
}

// secs tells the sectors of an origin that has n, as they are lasting and as they are seen. Each third one waits.
func secs(origin string, n int) (lasting, seen []api.Sec) {
	lasting, seen = make([]api.Sec, n), make([]api.Sec, n)
	for i := range n {
		if origin != "new" {
			lasting[i] = mark(origin, i)
			seen[i] = lasting[i]
		}
		if waits(origin, i) {
			seen[i] = mark(origin, i+100)
		}
	}
	return lasting, seen
}

// waits tells whether an origin's i-th sector waits.
func waits(origin string, i int) bool {
	return origin != "new" && i%3 == 0
}

// mark is a sector that no other origin, and no other number, has.
func mark(origin string, i int) api.Sec {
	var s api.Sec
	copy(s[:], origin)
	s[30], s[63] = byte(i+1), byte(i+1)
	return s
}

// used tells how many sectors these files have.
func used(l []spec) int {
	n := 0
	for _, f := range l {
		n += f.n
	}
	return n
}

// laid is a disk of these files, with room for so many sectors more.
func laid(t *testing.T, text string, more int) *disk.Disk {
	t.Helper()
	var l []api.File
	files := specs(text)
	for _, f := range files {
		lasting, _ := secs(f.origin, f.n)
		l = append(l, api.File{Name: f.name, L: lasting})
	}
	d, e := disk.Lay(used(files)+more, l)
	if e != api.OK {
		t.Fatalf("%s is not laid: error %d", text, e)
	}
	for _, f := range files {
		_, seen := secs(f.origin, f.n)
		for i := range seen {
			if waits(f.origin, i) {
				fine(t, d.Write(f.name, i, seen[i:i+1]))
			}
		}
	}
	return d
}

// state is all that is told of a disk, of what it does till it is down too.
type state struct {
	names              []string
	sizes              []int
	lasting, seen      []api.File
	used, waiting, ops int
	down               bool
	until              int
}

// told tells all that is told of d.
func told(d *disk.Disk) state {
	s := state{names: d.List(), lasting: d.Files(), used: d.Used(), waiting: d.Waiting(), ops: d.Ops(), down: d.Down(), until: until(d)}
	for _, name := range s.names {
		s.sizes = append(s.sizes, d.Size(name))
	}
	// A disk that is down reads nothing, but a crash that keeps all has what is seen lasting.
	c := d.Clone()
	c.Crash(api.Crash{Keep: ones(d.Waiting()), Torn: -1})
	s.seen = c.Files()
	return s
}

// ones are bytes whose first n bits are true.
func ones(n int) []byte {
	b := make([]byte, (n+7)/8)
	for i := range n {
		b[i/8] |= 1 << (i % 8)
	}
	return b
}

// until tells how many ops d does till it is down: endless, if it goes on, or has no file; -1, if it is down.
func until(d *disk.Disk) int {
	if d.Down() {
		return -1
	}
	l := d.List()
	if len(l) == 0 {
		return endless
	}
	c := d.Clone()
	for n := range endless {
		if c.Sync(l[0]) == api.ErrDown {
			return n
		}
	}
	return endless
}

// wanted tells what is told of a disk that is up, without a Fail, and has just these files, by rising names.
func wanted(text string, ops int) state {
	s := state{ops: ops, until: endless}
	for _, f := range specs(text) {
		lasting, seen := secs(f.origin, f.n)
		s.names = append(s.names, f.name)
		s.sizes = append(s.sizes, f.n)
		s.lasting = append(s.lasting, api.File{Name: f.name, L: lasting})
		s.seen = append(s.seen, api.File{Name: f.name, L: seen})
		s.used += f.n
		for i := range f.n {
			if waits(f.origin, i) {
				s.waiting++
			}
		}
	}
	return s
}

// same holds what is told of d against what is wanted.
func same(t *testing.T, what string, d *disk.Disk, want state) {
	t.Helper()
	if got := told(d); !reflect.DeepEqual(got, want) {
		t.Fatalf("%s: %s\nwant: %s", what, short(got), short(want))
	}
}

// untouched holds one file of d, as it is lasting and seen, against what it was in the beginning.
func untouched(t *testing.T, d *disk.Disk, name string, n int) {
	t.Helper()
	bytesOf(t, d, name, name, n)
}

// bytesOf holds one file of d, as it is lasting and seen, against the origin's n sectors.
func bytesOf(t *testing.T, d *disk.Disk, name, origin string, n int) {
	t.Helper()
	got, want := told(d), wanted(name+"="+sized(origin, n), 0)
	for i := range got.names {
		if got.names[i] != name {
			continue
		}
		if got.sizes[i] != n || !reflect.DeepEqual(got.lasting[i], want.lasting[0]) || !reflect.DeepEqual(got.seen[i], want.seen[0]) {
			t.Errorf("%s isn't %s of %d sectors as it was", name, origin, n)
		}
		return
	}
	t.Errorf("%s is gone", name)
}

// short tells a state in few words.
func short(s state) string {
	var l []string
	for i, name := range s.names {
		l = append(l, name+":"+strconv.Itoa(s.sizes[i]))
	}
	for _, n := range []int{s.used, s.waiting, s.ops, s.until} {
		l = append(l, strconv.Itoa(n))
	}
	return strings.Join(append(l, strconv.FormatBool(s.down)), " ")
}

// fine ends the test, if there is an error.
func fine(t *testing.T, e api.Errno) {
	t.Helper()
	if e != api.OK {
		t.Fatalf("error %d", e)
	}
}

// answer is what a call of the package answers: a name, a number, an error.
type answer struct {
	name string
	n    int
	e    api.Errno
}

// call is a call of the package, and the same one by the chapter's words.
type call struct {
	what     string
	do, slow func(d *disk.Disk) answer
}

// spareOf is Spare as a call.
func spareOf(d *disk.Disk) answer {
	return answer{e: Spare(d)}
}

// takeOf is Take as a call.
func takeOf(d *disk.Disk) answer {
	name, e := Take(d)
	return answer{name: name, e: e}
}

// giveOf is Give of a name as a call.
func giveOf(name string) func(d *disk.Disk) answer {
	return func(d *disk.Disk) answer { return answer{e: Give(d, name)} }
}

// countOf is Count as a call.
func countOf(d *disk.Disk) answer {
	return answer{n: Count(d)}
}

// cleanOf is Clean as a call.
func cleanOf(d *disk.Disk) answer {
	return answer{e: Clean(d)}
}

// calls are all calls, Give with each of these names.
func calls(names ...string) []call {
	l := []call{{"spare", spareOf, slowSpare}, {"take", takeOf, slowTake}, {"count", countOf, slowCount}, {"clean", cleanOf, slowClean}}
	for _, name := range names {
		l = append(l, call{"give " + name, giveOf(name), func(d *disk.Disk) answer { return slowGive(d, name) }})
	}
	return l
}

// row is a call of a disk, and what it comes to.
type row struct {
	files string // the disk's files
	more  int    // the sectors that it has room for beside them
	want  answer
	left  string // the files then
	ops   int    // the ops that were done
}

// goesBy holds a call against a row.
func (r row) goesBy(t *testing.T, what string, do func(d *disk.Disk) answer) {
	t.Helper()
	what += " of " + r.files + ", room for " + strconv.Itoa(r.more)
	d := laid(t, r.files, r.more)
	ops := d.Ops()
	if got := do(d); got != r.want {
		t.Errorf("%s: %v, want %v", what, got, r.want)
	}
	same(t, what, d, wanted(r.left, ops+r.ops))
}

// many are the texts of n files of one sector, whose names stand ahead of the free ones.
func many(n int) string {
	var l []string
	for i := range n {
		l = append(l, string([]byte{'a', byte('a' + i/26), byte('a' + i%26)})+":1")
	}
	return strings.Join(l, " ")
}

// join puts texts of files one behind the other.
func join(l ...string) string {
	return strings.TrimSpace(strings.Join(l, " "))
}

// sized is the text of a file of n sectors.
func sized(name string, n int) string {
	return name + ":" + strconv.Itoa(n)
}
