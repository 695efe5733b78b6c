package disk

import (
	"math"
	"reflect"
	"sort"
	"testing"

	"strandline/api"
)

// slow is a disk by the chapter's words, with a list of files that is searched through, and a log of what each sector was.
type slow struct {
	capacity, ops, fail int // fail is below 0, if no Fail is told
	down                bool
	files               []*slowFile
}

// slowFile is a file; waits tells the places of its sectors that wait.
type slowFile struct {
	name          string
	lasting, seen []api.Sec
	waits         map[int]int
}

// find tells the file of that name.
func (s *slow) find(name string) *slowFile {
	for _, f := range s.files {
		if f.name == name {
			return f
		}
	}
	return nil
}

// drop takes the file of that name away.
func (s *slow) drop(name string) {
	var left []*slowFile
	for _, f := range s.files {
		if f.name != name {
			left = append(left, f)
		}
	}
	s.files = left
}

// op tells whether an op that finds no error is done.
func (s *slow) op() api.Errno {
	if s.fail == 0 {
		s.down = true
		return api.ErrDown
	}
	s.fail--
	if s.fail < 0 {
		s.fail = -1
	}
	s.ops++
	return api.OK
}

// made is Make.
func (s *slow) made(name string, n int) api.Errno {
	used := 0
	for _, f := range s.files {
		used += len(f.seen)
	}
	switch {
	case s.down:
		return api.ErrDown
	case name == "" || name[0] == 'W':
		return api.ErrName
	case s.find(name) != nil:
		return api.ErrThere
	case n < 1 || n > maxSectors:
		return api.ErrRange
	case used+n > s.capacity || len(s.files) == maxFiles:
		return api.ErrFull
	}
	if e := s.op(); e != api.OK {
		return e
	}
	s.files = append(s.files, &slowFile{name, make([]api.Sec, n), make([]api.Sec, n), map[int]int{}})
	return api.OK
}

// wrote is Write.
func (s *slow) wrote(name string, at int, l []api.Sec) api.Errno {
	f := s.find(name)
	switch {
	case s.down:
		return api.ErrDown
	case f == nil:
		return api.ErrNone
	case at < 0 || at > maxSectors || at+len(l) > len(f.seen):
		return api.ErrRange
	}
	if e := s.op(); e != api.OK {
		return e
	}
	for i := range l {
		f.seen[at+i] = l[i]
		f.waits[at+i] = 1
	}
	return api.OK
}

// synced is Sync.
func (s *slow) synced(name string) api.Errno {
	f := s.find(name)
	switch {
	case s.down:
		return api.ErrDown
	case f == nil:
		return api.ErrNone
	}
	if e := s.op(); e != api.OK {
		return e
	}
	copy(f.lasting, f.seen)
	clear(f.waits)
	return api.OK
}

// renamed is Rename.
func (s *slow) renamed(from, to string) api.Errno {
	f := s.find(from)
	switch {
	case s.down:
		return api.ErrDown
	case f == nil:
		return api.ErrNone
	case to == "" || to[0] == 'W':
		return api.ErrName
	case from == to:
		return api.OK
	}
	if e := s.op(); e != api.OK {
		return e
	}
	s.drop(to)
	f.name = to
	return api.OK
}

// removed is Remove.
func (s *slow) removed(name string) api.Errno {
	switch {
	case s.down:
		return api.ErrDown
	case s.find(name) == nil:
		return api.ErrNone
	}
	if e := s.op(); e != api.OK {
		return e
	}
	s.drop(name)
	return api.OK
}

// failed is Fail.
func (s *slow) failed(after int) api.Errno {
	switch {
	case s.down:
		return api.ErrDown
	case after < 0:
		return api.ErrRange
	}
	s.fail = after
	return api.OK
}

// crashed is Crash.
func (s *slow) crashed(c api.Crash) {
	s.rise()
	i := 0
	for _, f := range s.files {
		for at := range f.seen {
			if f.waits[at] == 0 {
				continue
			}
			for k := range size {
				keep := i/8 < len(c.Keep) && c.Keep[i/8]&(1<<(i%8)) != 0
				if i == c.Torn {
					keep = k < c.Cut
				}
				if keep {
					f.lasting[at][k] = f.seen[at][k]
				}
			}
			i++
		}
		copy(f.seen, f.lasting)
		clear(f.waits)
	}
	s.down, s.fail = false, -1
}

// rise puts the files in order.
func (s *slow) rise() {
	sort.Slice(s.files, func(a, b int) bool { return s.files[a].name < s.files[b].name })
}

// telling is what a disk tells at once.
type telling struct {
	names              []string
	lasting, seen      []api.File
	used, waiting, ops int
	down               bool
}

// tells is what the slow disk tells.
func (s *slow) tells() telling {
	s.rise()
	w := telling{ops: s.ops, down: s.down}
	for _, f := range s.files {
		w.names = append(w.names, f.name)
		w.lasting = append(w.lasting, api.File{Name: f.name, L: f.lasting})
		if !s.down {
			w.seen = append(w.seen, api.File{Name: f.name, L: f.seen})
		}
		w.used += len(f.seen)
		w.waiting += len(f.waits)
	}
	return w
}

// dice are numbers that come one behind the other, always the same ones.
type dice uint64

// roll tells a number from 0 to n - 1.
func (r *dice) roll(n int) int {
	*r = *r*6364136223846793005 + 1442695040888963407
	return int(uint64(*r)>>33) % n
}

// pick tells one of l.
func pick[T any](r *dice, l ...T) T {
	return l[r.roll(len(l))]
}

// name tells a name of a file, seldom one that is none.
func (r *dice) name() string {
	return pick(r, "m", "a", "z", "b-1", "b", "a0", "wal-10", "wal-9", "W", "")
}

// secs tells some sectors.
func (r *dice) secs() []api.Sec {
	var l []api.Sec
	for range pick(r, 0, 1, 1, 2, 3, 5) {
		l = append(l, mark(r.roll(200)))
	}
	return l
}

// crash tells a crash.
func (r *dice) crash() api.Crash {
	c := api.Crash{Torn: r.roll(30) - 3, Cut: pick(r, math.MinInt, -1, 0, 1, 12, 33, 63, 64, 65, math.MaxInt)}
	for range r.roll(6) {
		c.Keep = append(c.Keep, byte(r.roll(256)))
	}
	return c
}

// P8.1, P8.2, P8.3: many calls, one behind the other, held against the slow disk.
func TestAgainstSlow(t *testing.T) {
	for turn := range 60 {
		r := dice(turn)
		capacity := pick(&r, 7, 20, 60)
		d, s := New(capacity), &slow{capacity: capacity, fail: -1}
		for n := range 300 {
			got, want := one(&r, &d, s)
			if got != want {
				t.Fatalf("turn %d, call %d: error %d, want %d", turn, n, got, want)
			}
			got1 := telling{names: d.List(), lasting: d.Files(), seen: view(d), used: d.Used(), waiting: d.Waiting(), ops: d.Ops(), down: d.Down()}
			if want1 := s.tells(); !reflect.DeepEqual(got1, want1) {
				t.Fatalf("turn %d, call %d: %v\nwant %v", turn, n, got1, want1)
			}
		}
	}
}

// one does one call in both disks, and tells both errors.
func one(r *dice, d **Disk, s *slow) (api.Errno, api.Errno) {
	name := r.name()
	switch r.roll(16) {
	case 0, 1, 2:
		n := pick(r, -1, 0, 1, 1, 2, 3, 5, 8, 64, 65)
		return (*d).Make(name, n), s.made(name, n)
	case 3, 4, 5, 6:
		at, l := pick(r, -1, 0, 0, 0, 1, 1, 2, 3, 5, math.MaxInt), r.secs()
		return (*d).Write(name, at, l), s.wrote(name, at, l)
	case 7, 8:
		return (*d).Sync(name), s.synced(name)
	case 9, 10:
		to := r.name()
		return (*d).Rename(name, to), s.renamed(name, to)
	case 11:
		return (*d).Remove(name), s.removed(name)
	case 12:
		after := pick(r, -1, 0, 1, 2, 5, 9)
		return (*d).Fail(after), s.failed(after)
	case 13, 14:
		c := r.crash()
		(*d).Crash(c)
		s.crashed(c)
	case 15:
		*d = (*d).Clone()
	}
	return api.OK, api.OK
}
