package disk

import (
	"math"
	"reflect"
	"slices"
	"strings"
	"testing"

	"strandline/api"
)

// The chapter's example, and the limits.
func TestExample(t *testing.T) {
	d := New(8)
	fine(t, d.Make("a", 1))
	put(t, d, "a", 0, 1)
	d.Crash(api.Crash{Torn: -1})
	seen(t, d, file("a", 0))
	lasting(t, d, file("a", 0))
	if api.Sector != size || api.MaxFiles != maxFiles || api.MaxSectors != maxSectors || api.MaxName != maxName {
		t.Errorf("Sector, MaxFiles, MaxSectors, MaxName = %d, %d, %d, %d", api.Sector, api.MaxFiles, api.MaxSectors, api.MaxName)
	}
}

// P8.1: New, with its capacity as the nearer one of 0 and 2^20.
func TestNew(t *testing.T) {
	for _, c := range []struct{ capacity, want int }{
		{math.MinInt, 0},
		{math.MinInt + 1, 0},
		{math.MinInt32 - 1, 0},
		{-1 << 20, 0},
		{-2, 0},
		{-1, 0},
		{0, 0},
		{1, 1},
		{63, 63},
		{100, 100},
		{4096, 4096},
		{1<<20 - 1, 1<<20 - 1},
		{1 << 20, 1 << 20},
		{1<<20 + 1, 1 << 20},
		{math.MaxInt32, 1 << 20},
		{math.MaxUint32 + 1, 1 << 20},
		{math.MaxInt - 1, 1 << 20},
		{math.MaxInt, 1 << 20},
	} {
		d := New(c.capacity)
		same(t, "new", d, state{until: 50})
		// More than 64 files of 64 sectors there can't be, so a capacity above that is seen in the field alone.
		if d.capacity != c.want {
			t.Errorf("New(%d) has %d", c.capacity, d.capacity)
		}
		d, e := Lay(c.capacity, nil)
		fine(t, e)
		same(t, "laid", d, state{until: 50})
		if d.capacity != c.want {
			t.Errorf("Lay(%d) has %d", c.capacity, d.capacity)
		}
	}
}

// P8.1: what a capacity has room for, by files of one sector, and by files of 64.
func TestCapacity(t *testing.T) {
	for _, c := range []struct{ capacity, small, great int }{
		{math.MinInt, 0, 0},
		{-1, 0, 0},
		{0, 0, 0},
		{1, 1, 0},
		{5, 5, 0},
		{63, 63, 0},
		{64, 64, 1},
		{65, 64, 1},
		{127, 64, 1},
		{128, 64, 2},
		{4095, 64, 63},
		{4096, 64, 64},
		{4097, 64, 64},
		{1 << 20, 64, 64},
		{1<<20 + 1, 64, 64},
		{math.MaxInt, 64, 64},
	} {
		for n, want := range map[int]int{1: c.small, maxSectors: c.great} {
			d := New(c.capacity)
			for i, name := range numbered(maxFiles + 3) {
				e := d.Make(name, n)
				if (e == api.OK) != (i < want) || e != api.OK && e != api.ErrFull {
					t.Errorf("capacity %d, file %d of %d: error %d", c.capacity, i, n, e)
				}
			}
			counts(t, d, want*n, 0, want)
		}
	}
}

// P8.1: Lay of some files: seen and lasting, none of its sectors waiting, without ops.
func TestLay(t *testing.T) {
	for _, l := range [][]api.File{
		nil,
		{},
		{file("a", 1)},
		{file("a", 0)},
		{file("b", 1, 2, 3), file("a", 4), file("wal-12", 0, 5)},
		{file("z", 1, 0), file("free-2", 2), file("-", 3), file("0", 4, 5, 6)},
		{file("a", slices.Repeat([]int{7}, maxSectors)...)},
	} {
		used := 0
		for _, f := range l {
			used += len(f.L)
		}
		d := laid(t, used, l...)
		want := slices.Clone(l)
		slices.SortFunc(want, func(a, b api.File) int { return strings.Compare(a.Name, b.Name) })
		if len(want) == 0 {
			want = nil
		}
		seen(t, d, want...)
		lasting(t, d, want...)
		counts(t, d, used, 0, 0)
		if d.Down() || until(d) != 50 {
			t.Error("it is down, or will be")
		}
		d.Crash(api.Crash{Torn: 0, Cut: 5})
		lasting(t, d, want...)
		// The capacity is just full: there is room for nothing more.
		is(t, "one more", d.Make("more", 1), api.ErrFull)
	}
}

// P8.1: what is laid may be read, written, made lasting and lost as what was made.
func TestLayGoesOn(t *testing.T) {
	d := laid(t, 10, file("b", 1, 2), file("a", 3))
	put(t, d, "b", 1, 9)
	put(t, d, "a", 0, 8)
	counts(t, d, 3, 2, 2)
	d.Crash(api.Crash{Keep: []byte{2}, Torn: -1})
	seen(t, d, file("a", 3), file("b", 1, 9))
	fine(t, d.Make("c", 7))
	counts(t, d, 10, 0, 3)
}

// many are n files of one sector each.
func many(n int) []api.File {
	var l []api.File
	for _, name := range numbered(n) {
		l = append(l, file(name, 1))
	}
	return l
}

// P8.1: Lay with one fault: its error alone, and no disk.
func TestLayErrors(t *testing.T) {
	long := slices.Repeat([]int{1}, maxSectors+1)
	good := file("a", 1)
	for _, c := range []struct {
		what     string
		capacity int
		l        []api.File
		want     api.Errno
	}{
		{"no name", 9, []api.File{good, file("", 1)}, api.ErrName},
		{"a wrong byte", 9, []api.File{file("A", 1)}, api.ErrName},
		{"a name too long", 9, []api.File{file(strings.Repeat("a", maxName+1), 1)}, api.ErrName},
		{"a name just as long", 9, []api.File{file(strings.Repeat("a", maxName), 1)}, api.OK},
		{"the same name", 9, []api.File{good, file("b", 1), good}, api.ErrThere},
		{"the same name, of other sectors", 9, []api.File{good, file("a", 1, 2)}, api.ErrThere},
		{"no sector", 9, []api.File{good, file("b")}, api.ErrRange},
		{"no sector, alone", 0, []api.File{file("b")}, api.ErrRange},
		{"too many sectors", 99, []api.File{file("b", long...)}, api.ErrRange},
		{"just as many sectors", 99, []api.File{file("b", long[1:]...)}, api.OK},
		{"the capacity", 3, []api.File{good, file("b", 1, 2)}, api.OK},
		{"above the capacity", 2, []api.File{good, file("b", 1, 2)}, api.ErrFull},
		{"above no capacity", 0, []api.File{good}, api.ErrFull},
		{"above a capacity below 0", -5, []api.File{good}, api.ErrFull},
		{"64 files", 999, many(maxFiles), api.OK},
		{"65 files", 999, many(maxFiles + 1), api.ErrFull},
	} {
		d, e := Lay(c.capacity, c.l)
		is(t, c.what, e, c.want)
		if (d == nil) != (c.want != api.OK) {
			t.Errorf("%s: disk %v", c.what, d)
		}
	}
}

// P8.1: Lay with several faults: the first file's is answered, and of one file the one that is named first.
func TestLayFirstFault(t *testing.T) {
	long := slices.Repeat([]int{1}, maxSectors+1)
	good := file("a", 1)
	for _, c := range []struct {
		what     string
		capacity int
		l        []api.File
		want     api.Errno
	}{
		{"name, range", 9, []api.File{file("B", long...)}, api.ErrName},
		{"name, full", 1, []api.File{good, file("", 1)}, api.ErrName},
		{"name, range of none", 0, []api.File{file("")}, api.ErrName},
		{"there, range", 9, []api.File{good, file("a")}, api.ErrThere},
		{"there, full", 1, []api.File{good, good}, api.ErrThere},
		{"range, full", 9, []api.File{file("b", long...)}, api.ErrRange},
		{"range of none, full of files", 999, append(many(maxFiles), file("b")), api.ErrRange},
		{"full, then name", 0, []api.File{good, file("", 1)}, api.ErrFull},
		{"full, then there", 0, []api.File{good, good}, api.ErrFull},
		{"range, then name", 9, []api.File{file("b"), file("", 1)}, api.ErrRange},
		{"there, then name", 9, []api.File{good, good, file("", 1)}, api.ErrThere},
		{"range, then there", 9, []api.File{good, file("b"), good}, api.ErrRange},
		{"name, then there, range, full", 2, []api.File{good, file("*", 1), good, file("b"), file("c", 1, 2)}, api.ErrName},
		{"full of files, then there", 999, append(many(maxFiles+1), many(1)...), api.ErrFull},
	} {
		d, e := Lay(c.capacity, c.l)
		is(t, c.what, e, c.want)
		if d != nil {
			t.Errorf("%s: disk %v", c.what, d)
		}
	}
}

// P8.3: List and Files by rising names, however the files came.
func TestRising(t *testing.T) {
	want := []string{"-", "--", "-a", "0", "00", "1", "9", "a", "a-", "a-b", "a0", "aa", "ab", "b", "free-0", "wal-1", "wal-10", "wal-2", "z"}
	if !slices.IsSorted(want) {
		t.Fatal("the names don't rise")
	}
	for turn := range len(want) {
		d := New(100)
		var l []api.File
		for i := range want {
			// 7 and the number of names have no common divisor, so each is taken once.
			name := want[(turn+7*i)%len(want)]
			fine(t, d.Make(name, 1))
		}
		for _, name := range want {
			l = append(l, file(name, 0))
		}
		if got := d.List(); !reflect.DeepEqual(got, want) {
			t.Fatalf("List = %v", got)
		}
		lasting(t, d, l...)
	}
}

// P8.3: Size, Used, Waiting, Ops and Down behind each op, written out.
func TestCounts(t *testing.T) {
	d := New(20)
	step := func(what string, e api.Errno, used, waiting, ops int) {
		t.Helper()
		is(t, what, e, api.OK)
		counts(t, d, used, waiting, ops)
		if d.Down() {
			t.Errorf("%s: down", what)
		}
	}
	counts(t, d, 0, 0, 0)
	step("make a", d.Make("a", 3), 3, 0, 1)
	step("make b", d.Make("b", 2), 5, 0, 2)
	step("write a", d.Write("a", 0, marks(1, 2)), 5, 2, 3)
	step("write a again", d.Write("a", 1, marks(2, 3)), 5, 3, 4)
	step("write b", d.Write("b", 1, marks(4)), 5, 4, 5)
	step("write what is there", d.Write("b", 0, marks(0)), 5, 5, 6)
	step("write nothing", d.Write("b", 2, nil), 5, 5, 7)
	step("sync a", d.Sync("a"), 5, 2, 8)
	step("sync a again", d.Sync("a"), 5, 2, 9)
	step("rename b", d.Rename("b", "c"), 5, 2, 10)
	step("rename a", d.Rename("a", "c"), 3, 0, 11)
	step("write c", d.Write("c", 0, marks(5)), 3, 1, 12)
	step("fail", d.Fail(7), 3, 1, 12)
	step("make d", d.Make("d", 4), 7, 1, 13)
	step("remove c", d.Remove("c"), 4, 0, 14)
	for name, want := range map[string]int{"a": 0, "b": 0, "c": 0, "d": 4, "": 0, "no name": 0} {
		if got := d.Size(name); got != want {
			t.Errorf("Size(%q) = %d, want %d", name, got, want)
		}
	}
}

// P8.3: what is read, counted or asked is no op, and changes nothing.
func TestTellingChangesNothing(t *testing.T) {
	d := laid(t, 9, file("b", 1, 2), file("a", 3))
	put(t, d, "a", 0, 4)
	fine(t, d.Fail(3))
	want := told(d)
	for range 5 {
		d.Size("a")
		d.List()
		d.Files()
		d.Used()
		d.Waiting()
		d.Ops()
		d.Down()
		d.Clone()
		_, e := d.Read("a", 0, 1)
		fine(t, e)
	}
	same(t, "told", d, want)
	if want.until != 3 || want.ops != 1 || want.waiting != 1 {
		t.Errorf("until, ops, waiting = %d, %d, %d", want.until, want.ops, want.waiting)
	}
}
