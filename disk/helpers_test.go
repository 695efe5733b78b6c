package disk

import (
	"reflect"
	"testing"

	"strandline/api"
)

// A disk's numbers, as they are told in no code but here.
const (
	size       = 64
	maxFiles   = 64
	maxSectors = 64
	maxName    = 24
)

// mark is a sector that is at each of its bytes unlike that of another mark from 1 to 250, and unlike the empty one, which is that of 0.
func mark(k int) api.Sec {
	var s api.Sec
	if k == 0 {
		return s
	}
	for i := range s {
		s[i] = byte(1 + (5*k+i)%251)
	}
	return s
}

// marks are the sectors of some marks.
func marks(l ...int) []api.Sec {
	var out []api.Sec
	for _, k := range l {
		out = append(out, mark(k))
	}
	return out
}

// file is a file of the sectors of some marks.
func file(name string, l ...int) api.File {
	return api.File{Name: name, L: marks(l...)}
}

// torn is a sector whose first bytes are those of the mark fresh, the others those of the mark old.
func torn(fresh, old, cut int) api.Sec {
	s := mark(old)
	for i := range cut {
		s[i] = mark(fresh)[i]
	}
	return s
}

// numbered are n names of files, rising.
func numbered(n int) []string {
	var l []string
	for i := range n {
		l = append(l, string([]byte{'n', byte('a' + i/26), byte('a' + i%26)}))
	}
	return l
}

// fine ends the test, if there is an error.
func fine(t *testing.T, e api.Errno) {
	t.Helper()
	if e != api.OK {
		t.Fatalf("error %d", e)
	}
}

// is holds an error against the one that is wanted.
func is(t *testing.T, what string, got, want api.Errno) {
	t.Helper()
	if got != want {
		t.Errorf("%s: error %d, want %d", what, got, want)
	}
}

// laid is a disk that has just these files.
func laid(t *testing.T, capacity int, l ...api.File) *Disk {
	t.Helper()
	d, e := Lay(capacity, l)
	fine(t, e)
	return d
}

// put writes the sectors of some marks.
func put(t *testing.T, d *Disk, name string, at int, l ...int) {
	t.Helper()
	fine(t, d.Write(name, at, marks(l...)))
}

// view tells all files as they are seen; nothing of a disk that is down.
func view(d *Disk) []api.File {
	var out []api.File
	for _, name := range d.List() {
		if l, e := d.Read(name, 0, d.Size(name)); e == api.OK {
			out = append(out, api.File{Name: name, L: l})
		}
	}
	return out
}

// seen holds what is seen against what is wanted.
func seen(t *testing.T, d *Disk, want ...api.File) {
	t.Helper()
	if got := view(d); !reflect.DeepEqual(got, want) {
		t.Errorf("seen: %v\nwant: %v", got, want)
	}
}

// lasting holds what is lasting against what is wanted.
func lasting(t *testing.T, d *Disk, want ...api.File) {
	t.Helper()
	if got := d.Files(); !reflect.DeepEqual(got, want) {
		t.Errorf("lasting: %v\nwant: %v", got, want)
	}
}

// counts holds Used, Waiting and Ops against what is wanted.
func counts(t *testing.T, d *Disk, used, waiting, ops int) {
	t.Helper()
	if d.Used() != used || d.Waiting() != waiting || d.Ops() != ops {
		t.Errorf("Used, Waiting, Ops = %d, %d, %d, want %d, %d, %d", d.Used(), d.Waiting(), d.Ops(), used, waiting, ops)
	}
}

// until tells how many ops d does till it is down, by a clone: 50, if it goes on; -1, if it is down.
func until(d *Disk) int {
	c, name := d.Clone(), ""
	if c.Down() {
		return -1
	}
	if l := c.List(); len(l) > 0 {
		name = l[0]
	}
	for n := range 50 {
		if c.Sync(name) == api.ErrDown {
			return n
		}
	}
	return 50
}

// state is all that is told of a disk.
type state struct {
	names               []string
	lasting, seen       []api.File
	sizes               []int
	used, waiting, ops  int
	down                bool
	until               int
	kept, lost          []api.File // behind a crash that keeps all, or nothing
	crashOps, crashUsed int
}

// told tells all that is told of a disk, a crash of it by clones too.
func told(d *Disk) state {
	s := state{used: d.Used(), waiting: d.Waiting(), ops: d.Ops(), down: d.Down(), until: until(d)}
	for _, name := range d.List() {
		s.names = append(s.names, name)
		s.sizes = append(s.sizes, d.Size(name))
	}
	s.lasting, s.seen = d.Files(), view(d)
	all, none := d.Clone(), d.Clone()
	all.Crash(api.Crash{Keep: ones(d.Waiting()), Torn: -1})
	none.Crash(api.Crash{Torn: -1})
	s.kept, s.lost = all.Files(), none.Files()
	s.crashOps, s.crashUsed = all.Ops(), all.Used()
	return s
}

// same ends the test, if what is told of d is not what is wanted.
func same(t *testing.T, what string, d *Disk, want state) {
	t.Helper()
	if got := told(d); !reflect.DeepEqual(got, want) {
		t.Fatalf("%s: %v\nwant: %v", what, got, want)
	}
}

// ones are bytes whose first n bits are true.
func ones(n int) []byte {
	b := make([]byte, (n+7)/8)
	for i := range n {
		b[i/8] |= 1 << (i % 8)
	}
	return b
}
