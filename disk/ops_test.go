package disk

import (
	"math"
	"reflect"
	"slices"
	"strings"
	"testing"

	"strandline/api"
)

// wrongNames are texts that are no names.
func wrongNames() []string {
	return []string{"", "A", "a b", "a_b", "a.b", "a/b", "é", "a\x00", "{", "`", ":", "wal-12 ", strings.Repeat("a", maxName+1), strings.Repeat("-", 100)}
}

// P8.1: Make of each number of sectors around the bounds, and that they are empty.
func TestMake(t *testing.T) {
	for _, c := range []struct {
		n    int
		want api.Errno
	}{
		{math.MinInt, api.ErrRange},
		{-maxSectors, api.ErrRange},
		{-1, api.ErrRange},
		{0, api.ErrRange},
		{1, api.OK},
		{2, api.OK},
		{maxSectors - 1, api.OK},
		{maxSectors, api.OK},
		{maxSectors + 1, api.ErrRange},
		{1 << 20, api.ErrRange},
		{math.MaxUint32 + 2, api.ErrRange},
		{math.MaxInt, api.ErrRange},
	} {
		d := New(1 << 20)
		is(t, "make", d.Make("wal-1", c.n), c.want)
		if c.want != api.OK {
			same(t, "not made", d, state{until: 50})
			continue
		}
		want := file("wal-1", make([]int, c.n)...)
		seen(t, d, want)
		lasting(t, d, want)
		counts(t, d, c.n, 0, 1)
		if d.Size("wal-1") != c.n {
			t.Errorf("Size = %d, want %d", d.Size("wal-1"), c.n)
		}
	}
}

// P8.1: Make of names, and of texts that are none.
func TestMakeNames(t *testing.T) {
	d := New(100)
	for _, name := range wrongNames() {
		is(t, name, d.Make(name, 1), api.ErrName)
	}
	same(t, "none made", d, state{until: 50})
	for _, name := range []string{"a", "-", "0", "wal-1", "wal-001", "free-9", strings.Repeat("z", maxName)} {
		is(t, name, d.Make(name, 1), api.OK)
		is(t, name, d.Make(name, 1), api.ErrThere)
	}
	counts(t, d, 7, 0, 7)
}

// P8.1: the order of Make's errors, and that they change nothing.
func TestMakeErrors(t *testing.T) {
	full := laid(t, 3, file("a", 1, 2), file("b", 3))
	files := laid(t, 999, many(maxFiles)...)
	for _, c := range []struct {
		what string
		d    *Disk
		name string
		n    int
		want api.Errno
	}{
		{"name, range, full", full, "B", 65, api.ErrName},
		{"name, range below, full", full, "", -1, api.ErrName},
		{"name, full", full, "B", 1, api.ErrName},
		{"name, full of files", files, "B", 1, api.ErrName},
		{"there, range, full", full, "a", 65, api.ErrThere},
		{"there, range of none", full, "a", 0, api.ErrThere},
		{"there, full", full, "b", 1, api.ErrThere},
		{"there, full of files", files, numbered(1)[0], 1, api.ErrThere},
		{"range, full", full, "c", 65, api.ErrRange},
		{"range of none, full", full, "c", 0, api.ErrRange},
		{"range, full of files", files, "c", -1, api.ErrRange},
		{"full", full, "c", 1, api.ErrFull},
		{"full of more", full, "c", 64, api.ErrFull},
		{"full of files", files, "c", 1, api.ErrFull},
	} {
		put(t, c.d, c.d.List()[0], 0, 9)
		want := told(c.d)
		is(t, c.what, c.d.Make(c.name, c.n), c.want)
		same(t, c.what, c.d, want)
	}
}

// P8.1: the capacity just full, and room again behind Remove, and behind Rename to a file that is there.
func TestMakeRoomAgain(t *testing.T) {
	d := New(10)
	fine(t, d.Make("a", 4))
	is(t, "one too many", d.Make("b", 7), api.ErrFull)
	fine(t, d.Make("b", 6))
	is(t, "full", d.Make("c", 1), api.ErrFull)
	fine(t, d.Remove("a"))
	is(t, "one too many", d.Make("c", 5), api.ErrFull)
	fine(t, d.Make("c", 4))
	fine(t, d.Rename("c", "b"))
	is(t, "one too many", d.Make("c", 7), api.ErrFull)
	fine(t, d.Make("c", 6))
	lasting(t, d, file("b", 0, 0, 0, 0), file("c", 0, 0, 0, 0, 0, 0))
	files := laid(t, 999, many(maxFiles)...)
	fine(t, files.Remove(numbered(maxFiles)[63]))
	fine(t, files.Make("c", 1))
	is(t, "65 files", files.Make("d", 1), api.ErrFull)
}

// places are starts and lengths in a file of 4 sectors, and whether that is one of its parts.
func places() []struct {
	at, n int
	ok    bool
} {
	return []struct {
		at, n int
		ok    bool
	}{
		{0, 0, true},
		{0, 1, true},
		{0, 4, true},
		{0, 5, false},
		{0, 65, false},
		{1, 3, true},
		{1, 4, false},
		{3, 0, true},
		{3, 1, true},
		{3, 2, false},
		{4, 0, true},
		{4, 1, false},
		{5, 0, false},
		{5, 1, false},
		{-1, 0, false},
		{-1, 1, false},
		{-1, 2, false},
		{-4, 4, false},
		{math.MinInt, 0, false},
		{math.MinInt, 1, false},
		{math.MinInt, 4, false},
		{math.MaxInt, 0, false},
		{math.MaxInt, 1, false},
		{math.MaxInt, 2, false},
		{math.MaxInt - 1, 2, false},
		{math.MaxInt - 3, 4, false},
		{math.MaxInt - 3, 5, false},
	}
}

// P8.1: Write at the bounds, of no sectors too: what is written is seen and waits, the rest stays.
func TestWrite(t *testing.T) {
	for _, c := range places() {
		d := laid(t, 9, file("a", 1, 2, 3, 4), file("b", 5))
		want := told(d)
		var fresh []int
		for i := range c.n {
			fresh = append(fresh, 10+i)
		}
		e := d.Write("a", c.at, marks(fresh...))
		if !c.ok {
			is(t, "write", e, api.ErrRange)
			same(t, "not written", d, want)
			continue
		}
		fine(t, e)
		now := []int{1, 2, 3, 4}
		copy(now[c.at:], fresh)
		seen(t, d, file("a", now...), file("b", 5))
		lasting(t, d, file("a", 1, 2, 3, 4), file("b", 5))
		counts(t, d, 5, c.n, 1)
	}
}

// P8.1: Write over sectors that wait, and over others: the last one is seen, each waits once.
func TestWriteAgain(t *testing.T) {
	d := laid(t, 9, file("a", 1, 2, 3, 4))
	put(t, d, "a", 1, 5, 6)
	put(t, d, "a", 2, 7, 8)
	seen(t, d, file("a", 1, 5, 7, 8))
	lasting(t, d, file("a", 1, 2, 3, 4))
	counts(t, d, 4, 3, 2)
	// What is written as it is lasting waits too.
	put(t, d, "a", 0, 1, 2)
	seen(t, d, file("a", 1, 2, 7, 8))
	counts(t, d, 4, 4, 3)
}

// P8.1: Read at the bounds, below 0 too, of no sectors too: what is seen, waiting or not.
func TestRead(t *testing.T) {
	d := laid(t, 9, file("a", 1, 2, 3, 4), file("b", 5))
	put(t, d, "a", 1, 6, 7)
	now := marks(1, 6, 7, 4)
	want := told(d)
	check := func(at, n int, ok bool) {
		t.Helper()
		l, e := d.Read("a", at, n)
		if !ok {
			is(t, "read", e, api.ErrRange)
			if len(l) > 0 {
				t.Errorf("Read(%d, %d) = %v", at, n, l)
			}
			return
		}
		is(t, "read", e, api.OK)
		if len(l) != n || !slices.Equal(l, now[at:at+n]) {
			t.Errorf("Read(%d, %d) = %v", at, n, l)
		}
	}
	for _, c := range places() {
		check(c.at, c.n, c.ok)
	}
	for _, at := range []int{math.MinInt, -1, 0, 2, 4, 5, math.MaxInt} {
		for _, n := range []int{math.MinInt, -5, -1, math.MaxInt - 5, math.MaxInt - 1, math.MaxInt} {
			check(at, n, false)
		}
	}
	same(t, "read", d, want)
}

// P8.1: Write, Read, Sync, Rename and Remove of no such file, ahead of all other errors; nothing is changed.
func TestNone(t *testing.T) {
	d := laid(t, 9, file("a", 1, 2))
	put(t, d, "a", 0, 3)
	fine(t, d.Fail(9))
	want := told(d)
	for _, name := range append(wrongNames(), "b", "aa", "-") {
		is(t, "write", d.Write(name, 0, marks(1)), api.ErrNone)
		is(t, "write of nothing", d.Write(name, 0, nil), api.ErrNone)
		is(t, "write, range", d.Write(name, -1, marks(1)), api.ErrNone)
		is(t, "write, range above", d.Write(name, math.MaxInt, marks(1, 2, 3)), api.ErrNone)
		for _, at := range []int{-1, 0, math.MaxInt} {
			for _, n := range []int{-1, 0, 1, math.MaxInt} {
				l, e := d.Read(name, at, n)
				is(t, "read", e, api.ErrNone)
				if len(l) > 0 {
					t.Errorf("Read = %v", l)
				}
			}
		}
		is(t, "sync", d.Sync(name), api.ErrNone)
		is(t, "rename", d.Rename(name, "c"), api.ErrNone)
		is(t, "rename to what is there", d.Rename(name, "a"), api.ErrNone)
		is(t, "rename to itself", d.Rename(name, name), api.ErrNone)
		for _, to := range wrongNames() {
			is(t, "rename, name", d.Rename(name, to), api.ErrNone)
		}
		is(t, "remove", d.Remove(name), api.ErrNone)
	}
	same(t, "none", d, want)
}

// P8.1: Sync makes lasting what is seen of its file, and leaves the others.
func TestSync(t *testing.T) {
	d := laid(t, 9, file("a", 1, 2, 3), file("b", 4, 5))
	put(t, d, "a", 0, 6)
	put(t, d, "a", 2, 7)
	put(t, d, "b", 1, 8)
	fine(t, d.Sync("a"))
	lasting(t, d, file("a", 6, 2, 7), file("b", 4, 5))
	seen(t, d, file("a", 6, 2, 7), file("b", 4, 8))
	counts(t, d, 5, 1, 4)
	put(t, d, "a", 1, 9)
	d.Crash(api.Crash{Torn: -1})
	seen(t, d, file("a", 6, 2, 7), file("b", 4, 5))
	fine(t, d.Sync("b"))
	lasting(t, d, file("a", 6, 2, 7), file("b", 4, 5))
	counts(t, d, 5, 0, 6)
}

// P8.1: Rename takes along what waits; a file that had the name is gone, with what waits of it.
func TestRename(t *testing.T) {
	for _, c := range []struct {
		to         string
		used, left int
	}{
		{"c", 5, 3},
		{"b", 3, 2},
	} {
		d := laid(t, 9, file("a", 1, 2, 3), file("b", 4, 5))
		put(t, d, "a", 1, 6, 7)
		put(t, d, "b", 0, 8)
		fine(t, d.Rename("a", c.to))
		counts(t, d, c.used, c.left, 3)
		now, last := []api.File{file(c.to, 1, 6, 7)}, []api.File{file(c.to, 1, 2, 3)}
		if c.to == "c" {
			now, last = append([]api.File{file("b", 8, 5)}, now...), append([]api.File{file("b", 4, 5)}, last...)
		}
		seen(t, d, now...)
		lasting(t, d, last...)
		if d.Size("a") != 0 || d.Size(c.to) != 3 {
			t.Errorf("sizes %d, %d", d.Size("a"), d.Size(c.to))
		}
		lost := d.Clone()
		lost.Crash(api.Crash{Torn: -1})
		lasting(t, lost, last...)
		fine(t, d.Sync(c.to))
		counts(t, d, c.used, c.left-2, 4)
		is(t, "the elder name", d.Sync("a"), api.ErrNone)
		fine(t, d.Make("a", 1))
		seen(t, d, append([]api.File{file("a", 0)}, now...)...)
	}
}

// P8.1: that a file is renamed, removed or made is lasting at once.
func TestLastingAtOnce(t *testing.T) {
	d := laid(t, 9, file("a", 1), file("b", 2), file("c", 3))
	fine(t, d.Rename("a", "d"))
	fine(t, d.Rename("b", "c"))
	fine(t, d.Make("e", 2))
	fine(t, d.Remove("d"))
	fine(t, d.Make("a", 1))
	d.Crash(api.Crash{Torn: -1})
	lasting(t, d, file("a", 0), file("c", 2), file("e", 0, 0))
	seen(t, d, file("a", 0), file("c", 2), file("e", 0, 0))
}

// P8.1: Rename to what is no name, and to the same name, which does nothing and is no op.
func TestRenameNames(t *testing.T) {
	d := laid(t, 9, file("a", 1, 2), file("b", 3))
	put(t, d, "a", 0, 4)
	fine(t, d.Fail(0))
	want := told(d)
	for _, to := range wrongNames() {
		is(t, "rename", d.Rename("a", to), api.ErrName)
	}
	for range 3 {
		is(t, "the same name", d.Rename("a", "a"), api.OK)
		is(t, "the same name", d.Rename("b", "b"), api.OK)
	}
	same(t, "not renamed", d, want)
	is(t, "the next op", d.Rename("a", "b"), api.ErrDown)
	is(t, "the same name, down", d.Rename("a", "a"), api.ErrDown)
	d = laid(t, 9, file("a", 1))
	fine(t, d.Rename("a", strings.Repeat("9", maxName)))
	seen(t, d, file(strings.Repeat("9", maxName), 1))
}

// P8.1: Remove takes a file with all that waits of it; another one of its name is empty.
func TestRemove(t *testing.T) {
	d := laid(t, 9, file("a", 1, 2), file("b", 3))
	put(t, d, "a", 0, 4)
	put(t, d, "b", 0, 5)
	fine(t, d.Remove("a"))
	counts(t, d, 1, 1, 3)
	seen(t, d, file("b", 5))
	lasting(t, d, file("b", 3))
	is(t, "again", d.Remove("a"), api.ErrNone)
	fine(t, d.Make("a", 3))
	counts(t, d, 4, 1, 4)
	d.Crash(api.Crash{Keep: []byte{255}, Torn: -1})
	seen(t, d, file("a", 0, 0, 0), file("b", 5))
	fine(t, d.Remove("a"))
	fine(t, d.Remove("b"))
	counts(t, d, 0, 0, 6)
	seen(t, d)
}

// all calls each method that answers an error, with what has no fault, and with what has several, and tells the errors.
func all(d *Disk) []api.Errno {
	l := []api.Errno{
		d.Make("new", 1), d.Make("", 99), d.Make("a", 0),
		d.Write("a", 0, marks(9)), d.Write("a", -1, marks(9)), d.Write("none", 0, nil), d.Write("", math.MaxInt, marks(1, 2)),
		d.Sync("a"), d.Sync("none"), d.Sync(""),
		d.Rename("a", "new"), d.Rename("a", "a"), d.Rename("a", ""), d.Rename("none", "none"), d.Rename("", ""), d.Rename("none", "B"),
		d.Remove("a"), d.Remove("none"), d.Remove(""),
		d.Fail(0), d.Fail(5), d.Fail(-1), d.Fail(math.MinInt),
	}
	for _, name := range []string{"a", "none", ""} {
		for _, n := range []int{-1, 0, 1, 99} {
			got, e := d.Read(name, 0, n)
			if len(got) > 0 {
				return nil
			}
			l = append(l, e)
		}
	}
	return l
}

// Errors, P8.3: of a nil disk ErrState is answered ahead of all others, and nothing is told of it.
func TestNil(t *testing.T) {
	var d *Disk
	got := all(d)
	if len(got) != 35 {
		t.Fatalf("%d errors", len(got))
	}
	for i, e := range got {
		if e != api.ErrState {
			t.Errorf("call %d: error %d", i, e)
		}
	}
	d.Crash(api.Crash{})
	d.Crash(api.Crash{Keep: []byte{255}, Torn: 3, Cut: 9})
	if d.Size("a") != 0 || d.Size("") != 0 || len(d.List()) != 0 || len(d.Files()) != 0 || d.Used() != 0 || d.Waiting() != 0 || d.Ops() != 0 || d.Down() || d.Clone() != nil {
		t.Error("something is told of no disk")
	}
}

// Errors, P8.3: of a disk that is down ErrDown is answered ahead of all others, and nothing changes; what tells so still does.
func TestDown(t *testing.T) {
	d := laid(t, 2, file("a", 1, 2))
	put(t, d, "a", 0, 3)
	fine(t, d.Fail(0))
	is(t, "the op", d.Sync("a"), api.ErrDown)
	want := told(d)
	got := all(d)
	if len(got) != 35 {
		t.Fatalf("%d errors", len(got))
	}
	for i, e := range got {
		if e != api.ErrDown {
			t.Errorf("call %d: error %d", i, e)
		}
	}
	same(t, "down", d, want)
	if !d.Down() || d.Size("a") != 2 || !reflect.DeepEqual(d.List(), []string{"a"}) {
		t.Error("it tells otherwise")
	}
	counts(t, d, 2, 1, 1)
	lasting(t, d, file("a", 1, 2))
}
