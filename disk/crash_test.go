package disk

import (
	"math"
	"slices"
	"testing"

	"strandline/api"
)

// ops are one call of each op that finds no error, in a disk of the files a and b, by their names.
func ops() map[string]func(d *Disk) api.Errno {
	return map[string]func(d *Disk) api.Errno{
		"make":        func(d *Disk) api.Errno { return d.Make("c", 2) },
		"write":       func(d *Disk) api.Errno { return d.Write("a", 0, marks(7, 8)) },
		"write none":  func(d *Disk) api.Errno { return d.Write("a", 2, nil) },
		"sync":        func(d *Disk) api.Errno { return d.Sync("a") },
		"sync at all": func(d *Disk) api.Errno { return d.Sync("b") },
		"rename":      func(d *Disk) api.Errno { return d.Rename("a", "c") },
		"rename over": func(d *Disk) api.Errno { return d.Rename("a", "b") },
		"remove":      func(d *Disk) api.Errno { return d.Remove("a") },
	}
}

// two is a disk of the files a, of which a sector waits, and b.
func two(t *testing.T) *Disk {
	t.Helper()
	d := laid(t, 9, file("a", 1, 2), file("b", 3))
	put(t, d, "a", 1, 4)
	return d
}

// P8.2: Fail at each op: it is not done, the disk is down, and what waits still does.
func TestFailAtEach(t *testing.T) {
	for what, op := range ops() {
		d := two(t)
		fine(t, d.Fail(0))
		if d.Down() {
			t.Errorf("%s: down ahead", what)
		}
		is(t, what, op(d), api.ErrDown)
		if !d.Down() {
			t.Errorf("%s: not down", what)
		}
		lasting(t, d, file("a", 1, 2), file("b", 3))
		counts(t, d, 3, 1, 1)
		d.Crash(api.Crash{Keep: []byte{1}, Torn: -1})
		seen(t, d, file("a", 1, 4), file("b", 3))
		counts(t, d, 3, 0, 1)
		is(t, what, op(d), api.OK)
		if d.Down() || d.Ops() != 2 || until(d) != 50 {
			t.Errorf("%s: down, or will be, or %d ops", what, d.Ops())
		}
	}
}

// P8.2: Fail counts each op, and no other call.
func TestFailCounts(t *testing.T) {
	for what, op := range ops() {
		for after := range 5 {
			d := two(t)
			fine(t, d.Make("z", 1))
			fine(t, d.Fail(after))
			for n := range after {
				if n == 0 {
					is(t, what, op(d), api.OK)
					continue
				}
				is(t, what, d.Sync("z"), api.OK)
			}
			if d.Down() || d.Ops() != 2+after {
				t.Errorf("%s: down, or %d ops", what, d.Ops())
			}
			is(t, what, d.Sync("z"), api.ErrDown)
			is(t, what, d.Sync("z"), api.ErrDown)
			if !d.Down() || d.Ops() != 2+after {
				t.Errorf("%s: not down, or %d ops", what, d.Ops())
			}
		}
	}
}

// P8.2: an op that finds an error, a Rename to the same name, and what only tells are no ops: they neither count nor fail.
func TestNoOps(t *testing.T) {
	for after := range 3 {
		d := two(t)
		fine(t, d.Fail(after))
		for range 4 {
			is(t, "make", d.Make("", 1), api.ErrName)
			is(t, "make", d.Make("a", 1), api.ErrThere)
			is(t, "make", d.Make("c", 0), api.ErrRange)
			is(t, "make", d.Make("c", 7), api.ErrFull)
			is(t, "write", d.Write("c", 0, nil), api.ErrNone)
			is(t, "write", d.Write("a", 2, marks(1)), api.ErrRange)
			is(t, "read", second(d.Read("a", 0, 2)), api.OK)
			is(t, "read", second(d.Read("a", 0, 3)), api.ErrRange)
			is(t, "sync", d.Sync("c"), api.ErrNone)
			is(t, "rename", d.Rename("c", "d"), api.ErrNone)
			is(t, "rename", d.Rename("a", "D"), api.ErrName)
			is(t, "rename", d.Rename("a", "a"), api.OK)
			is(t, "remove", d.Remove("c"), api.ErrNone)
			is(t, "fail", d.Fail(-1), api.ErrRange)
			is(t, "fail", d.Fail(math.MinInt), api.ErrRange)
			counts(t, d, 3, 1, 1)
			if d.Down() || until(d) != after {
				t.Fatalf("down, or %d ops are left, not %d", until(d), after)
			}
		}
	}
}

// second is a call's error.
func second(_ []api.Sec, e api.Errno) api.Errno {
	return e
}

// P8.2: Fail below 0, at 0 and above; a later one takes an elder one's place, an error doesn't.
func TestFailAgain(t *testing.T) {
	d := two(t)
	for _, after := range []int{0, 3, 1, 0, 17, 2, 49} {
		fine(t, d.Fail(after))
		if got := until(d); got != after {
			t.Errorf("%d ops are left, want %d", got, after)
		}
		for _, wrong := range []int{-1, -2, math.MinInt, math.MinInt32} {
			is(t, "below 0", d.Fail(wrong), api.ErrRange)
		}
		if got := until(d); got != after {
			t.Errorf("%d ops are left, want %d", got, after)
		}
	}
	fine(t, d.Fail(2))
	fine(t, d.Sync("a"))
	fine(t, d.Fail(2))
	if got := until(d); got != 2 {
		t.Errorf("%d ops are left, want 2", got)
	}
	for _, after := range []int{math.MaxInt, math.MaxInt - 1, math.MaxInt32, math.MaxUint32 + 1} {
		fine(t, d.Fail(after))
		if got := until(d); got != 50 {
			t.Errorf("Fail(%d): %d ops are left", after, got)
		}
	}
}

// P8.2: behind a Crash it is up, no Fail is told, and the Ops stay, whether it was down, or a Fail had not come.
func TestCrashEndsFail(t *testing.T) {
	for _, down := range []bool{false, true} {
		for after := range 3 {
			d := two(t)
			fine(t, d.Fail(after))
			if down {
				for range after {
					fine(t, d.Sync("b"))
				}
				is(t, "the op", d.Sync("b"), api.ErrDown)
			}
			n := d.Ops()
			d.Crash(api.Crash{})
			if d.Down() || d.Ops() != n || until(d) != 50 {
				t.Errorf("down, or %d ops, not %d, or %d are left", d.Ops(), n, until(d))
			}
			is(t, "fail again", d.Fail(1), api.OK)
			is(t, "the op", d.Sync("b"), api.OK)
			is(t, "the op", d.Sync("b"), api.ErrDown)
		}
	}
}

// P8.2: a Crash of none, of all and of some that wait, by rising names, each file's from the first one on.
func TestCrashKeeps(t *testing.T) {
	for _, c := range []struct {
		keep    []byte
		m, a, z []int
	}{
		{nil, []int{1, 2, 3}, []int{4, 5}, []int{6}},
		{[]byte{}, []int{1, 2, 3}, []int{4, 5}, []int{6}},
		{[]byte{0}, []int{1, 2, 3}, []int{4, 5}, []int{6}},
		{[]byte{255}, []int{11, 2, 13}, []int{14, 15}, []int{16}},
		{[]byte{31}, []int{11, 2, 13}, []int{14, 15}, []int{16}},
		{[]byte{15}, []int{11, 2, 13}, []int{14, 15}, []int{6}},
		{[]byte{1}, []int{1, 2, 3}, []int{14, 5}, []int{6}},
		{[]byte{2}, []int{1, 2, 3}, []int{4, 15}, []int{6}},
		{[]byte{4}, []int{11, 2, 3}, []int{4, 5}, []int{6}},
		{[]byte{8}, []int{1, 2, 13}, []int{4, 5}, []int{6}},
		{[]byte{16}, []int{1, 2, 3}, []int{4, 5}, []int{16}},
		{[]byte{32, 255, 255}, []int{1, 2, 3}, []int{4, 5}, []int{6}},
		{[]byte{10, 1}, []int{1, 2, 13}, []int{4, 15}, []int{6}},
	} {
		// The names rise otherwise than the files come, and than they are written.
		d := laid(t, 9, file("m", 1, 2, 3), file("a", 4, 5), file("z", 6))
		put(t, d, "z", 0, 16)
		put(t, d, "m", 2, 13)
		put(t, d, "a", 1, 15)
		put(t, d, "m", 0, 11)
		put(t, d, "a", 0, 14)
		counts(t, d, 6, 5, 5)
		d.Crash(api.Crash{Keep: c.keep, Torn: -1})
		seen(t, d, file("a", c.a...), file("m", c.m...), file("z", c.z...))
		lasting(t, d, file("a", c.a...), file("m", c.m...), file("z", c.z...))
		counts(t, d, 6, 0, 5)
	}
}

// P8.2: what waits is counted by the names that the files have at the crash.
func TestCrashByNewNames(t *testing.T) {
	d := laid(t, 9, file("a", 1), file("b", 2))
	put(t, d, "a", 0, 11)
	put(t, d, "b", 0, 12)
	fine(t, d.Rename("a", "c"))
	d.Crash(api.Crash{Keep: []byte{1}, Torn: -1})
	seen(t, d, file("b", 12), file("c", 1))
}

// P8.2: more than 64 sectors wait, over three files.
func TestCrashOfMany(t *testing.T) {
	keep := []byte{0b10110010, 0, 255, 1, 128, 77, 19, 200, 0b1010, 0, 255, 7}
	keeps := func(i int) bool { return i < 8*len(keep) && keep[i/8]>>(i%8)&1 == 1 }
	for _, which := range []int{-1, 0, 63, 64, 65, 95, 96, 129, 130, 131, 1000} {
		d := New(1000)
		var want []api.File
		i := 0
		for _, name := range []string{"c", "b", "a"} {
			fine(t, d.Make(name, maxSectors))
		}
		for f, name := range []string{"a", "b", "c"} {
			w := file(name, make([]int, maxSectors)...)
			for at := range []int{64, 3, 63}[f] {
				put(t, d, name, at, 1+i)
				switch {
				case i == which:
					w.L[at] = torn(1+i, 0, 20)
				case keeps(i):
					w.L[at] = mark(1 + i)
				}
				i++
			}
			want = append(want, w)
		}
		counts(t, d, 192, 130, 133)
		d.Crash(api.Crash{Keep: keep, Torn: which, Cut: 20})
		lasting(t, d, want...)
		seen(t, d, want...)
		counts(t, d, 192, 0, 133)
	}
}

// P8.2: Torn below 0, among those that wait and beyond them, with Cut below 0, at 0, between, at 64 and above, whatever Keep tells of it.
func TestCrashTears(t *testing.T) {
	for _, which := range []int{math.MinInt, -3, -2, -1, 0, 1, 2, 3, 4, 64, math.MaxInt} {
		for _, c := range []struct{ cut, want int }{
			{math.MinInt, 0}, {-1, 0}, {0, 0}, {1, 1}, {2, 2}, {11, 11}, {12, 12}, {31, 31}, {32, 32}, {62, 62}, {63, 63}, {64, 64}, {65, 64}, {128, 64}, {1 << 32, 64}, {math.MaxInt, 64},
		} {
			for keep := range byte(16) {
				d := laid(t, 9, file("b", 1, 2), file("a", 3, 4))
				put(t, d, "b", 0, 11)
				put(t, d, "a", 0, 13, 14)
				d.Crash(api.Crash{Keep: []byte{keep}, Torn: which, Cut: c.want})
				// Those that wait are a's two and b's first one.
				got := slices.Concat(d.Files()[0].L, d.Files()[1].L)
				for i, k := range []int{3, 4, 1} {
					want := mark(k)
					switch {
					case i == which:
						want = torn(10+k, k, c.want)
					case keep>>i&1 == 1:
						want = mark(10 + k)
					}
					if got[i] != want {
						t.Fatalf("Keep %d, Torn %d, Cut %d: sector %d is %v", keep, which, c.cut, i, got[i])
					}
				}
				if got[3] != mark(2) {
					t.Fatalf("one that doesn't wait is %v", got[3])
				}
				// Once more, with the Cut that is brought near 0 and 64.
				near := laid(t, 9, file("b", 1, 2), file("a", 3, 4))
				put(t, near, "b", 0, 11)
				put(t, near, "a", 0, 13, 14)
				near.Crash(api.Crash{Keep: []byte{keep}, Torn: which, Cut: c.cut})
				lasting(t, near, d.Files()...)
			}
		}
	}
}

// P8.2: a crash of a disk in which none waits changes nothing, whatever it would keep or tear.
func TestCrashOfNoneWaiting(t *testing.T) {
	d := two(t)
	fine(t, d.Sync("a"))
	want := told(d)
	for _, c := range []api.Crash{{}, {Keep: []byte{255, 255}}, {Torn: 0, Cut: 64}, {Torn: 0, Cut: 0}, {Torn: 1, Cut: 9}, {Torn: -1}} {
		d.Crash(c)
		same(t, "crash", d, want)
	}
	empty := New(3)
	empty.Crash(api.Crash{Keep: []byte{1}, Torn: 0, Cut: 3})
	same(t, "crash of no files", empty, state{until: 50})
}

// P8.2: what was lost is gone for good, what was kept stays.
func TestCrashAgain(t *testing.T) {
	d := laid(t, 9, file("a", 1, 2, 3))
	put(t, d, "a", 0, 11, 12, 13)
	d.Crash(api.Crash{Keep: []byte{1}, Torn: 1, Cut: 30})
	want := api.File{Name: "a", L: []api.Sec{mark(11), torn(12, 2, 30), mark(3)}}
	lasting(t, d, want)
	d.Crash(api.Crash{Keep: []byte{255}, Torn: 2, Cut: 64})
	lasting(t, d, want)
	seen(t, d, want)
	fine(t, d.Sync("a"))
	lasting(t, d, want)
	put(t, d, "a", 1, 22)
	counts(t, d, 3, 1, 3)
	d.Crash(api.Crash{Torn: 0, Cut: 10})
	// The old one is what was lasting ahead of this crash: a torn one itself.
	old := torn(12, 2, 30)
	twice := mark(22)
	copy(twice[10:], old[10:])
	lasting(t, d, api.File{Name: "a", L: []api.Sec{mark(11), twice, mark(3)}})
}

// P8.4: of a few sectors that wait, by all crashes there are: what was synced is read, and each sector that waits is the old one, the new one, or, at most one, a beginning of the new one with the old one's end; and each of these comes.
func TestAllCrashes(t *testing.T) {
	from := laid(t, 9, file("b", 1, 2), file("a", 3, 4))
	put(t, from, "b", 0, 5)
	fine(t, from.Sync("b"))
	put(t, from, "b", 1, 12)
	put(t, from, "a", 0, 13, 14)
	old, fresh := []int{3, 4, 2}, []int{13, 14, 12}
	came := map[[3]int]bool{}
	for keep := range byte(8) {
		for which := -1; which <= 3; which++ {
			for cut := range size + 1 {
				d := from.Clone()
				d.Crash(api.Crash{Keep: []byte{keep}, Torn: which, Cut: cut})
				a, e := d.Read("a", 0, 2)
				fine(t, e)
				b, e := d.Read("b", 0, 2)
				fine(t, e)
				if b[0] != mark(5) {
					t.Fatalf("what was synced is %v", b[0])
				}
				var ends [3]int
				for i, s := range []api.Sec{a[0], a[1], b[1]} {
					ends[i] = end(t, s, old[i], fresh[i])
				}
				came[ends] = true
				lasting(t, d, api.File{Name: "a", L: a}, api.File{Name: "b", L: b})
			}
		}
	}
	counts(t, from, 4, 3, 4)
	ends(t, came)
}

// end tells how many of s's first bytes are those of the mark fresh, the others being those of the mark old.
func end(t *testing.T, s api.Sec, old, fresh int) int {
	t.Helper()
	for cut := range size + 1 {
		if s == torn(fresh, old, cut) {
			return cut
		}
	}
	t.Fatalf("neither old nor new: %v", s)
	return 0
}

// ends holds what came against all that may come: each of three sectors is lost or kept, and of one there may be any beginning.
func ends(t *testing.T, came map[[3]int]bool) {
	t.Helper()
	for e := range came {
		cut := 0
		for _, n := range e {
			if n > 0 && n < size {
				cut++
			}
		}
		if cut > 1 {
			t.Errorf("%d are torn: %v", cut, e)
		}
	}
	// 8 ways to keep whole ones, and 3 places, 4 ways for the others, 63 cuts.
	if len(came) != 8+3*4*63 {
		t.Errorf("%d ends", len(came))
	}
}
