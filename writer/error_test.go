package writer

import (
	"fmt"
	"slices"
	"strconv"
	"testing"

	"strandline/api"
	"strandline/disk"
	"strandline/image"
)

// trouble is what keeps a writer from writing: any of these, at once.
type trouble struct{ long, down, missing, short, failing bool }

// troubles are all combinations.
func troubles() []trouble {
	var l []trouble
	for i := range 32 {
		l = append(l, trouble{i&1 > 0, i&2 > 0, i&4 > 0, i&8 > 0, i&16 > 0})
	}
	return l
}

// disk is one that has these.
func (x trouble) disk(t *testing.T) *disk.Disk {
	t.Helper()
	files := "a:2 wal-1:17"
	switch {
	case x.missing && x.short:
		files = "a:2 wal-2:3"
	case x.missing:
		files = "a:2 wal-2:17"
	case x.short:
		files = "a:2 wal-1:3"
	}
	d := laid(t, files)
	if x.down {
		goDown(t, d)
	} else if x.failing {
		fine(t, d.Fail(0))
	}
	return d
}

// append is the error that Append has to answer; Sync's, of none that is too long or too short.
func (x trouble) append() api.Errno {
	switch {
	case x.long:
		return api.ErrFull
	case x.down:
		return api.ErrDown
	case x.missing:
		return api.ErrNone
	case x.short:
		return api.ErrRange
	case x.failing:
		return api.ErrDown
	}
	return api.OK
}

// P23.2: of errors that apply at once the first one is answered, with the place 0; nothing has changed in the writer, and of the disk at most its power.
func TestAppendErrors(t *testing.T) {
	for _, x := range troubles() {
		what := fmt.Sprintf("%+v", x)
		d := x.disk(t)
		w := New(d, heading(3, 1), scatter(100), 100)
		n := 100
		if x.long {
			n = 690
		}
		left, want := told(d), x.append()
		at, e := w.Append(bytesOf(1, n))
		if want == api.OK {
			is(t, what, at, e, 104, api.OK)
			continue
		}
		is(t, what, at, e, 0, want)
		if w.End() != 100 || !w.Fits(684) || w.Fits(685) {
			t.Errorf("%s: End = %d", what, w.End())
		}
		if x.failing && !x.down && want == api.ErrDown {
			left = fallen(left)
		}
		same(t, what, d, left)
	}
}

// P23.2: Sync asks no more than the disk's Sync does.
func TestSyncErrors(t *testing.T) {
	for _, x := range troubles() {
		d := x.disk(t)
		w := New(d, heading(3, 1), nil, 100)
		y := x
		y.long, y.short = false, false
		left, want := told(d), y.append()
		if e := w.Sync(); e != want || w.End() != 100 {
			t.Errorf("%+v: error %d, want %d, End = %d", x, e, want, w.End())
		}
		if x.failing && !x.down && want == api.ErrDown {
			left = fallen(left)
		}
		if want == api.OK {
			twin := twinOf(x.disk(t))
			fine(t, twin.sync("wal-1"))
			left = twin.told()
		}
		same(t, "Sync", d, left)
	}
}

// fallen is a state without power.
func fallen(s state) state {
	s.down, s.until = true, -1
	l := s.files
	s.files = nil
	for _, f := range l {
		f.waits = nil
		s.files = append(s.files, f)
	}
	return s
}

// P23.2: files of each size: what lies within is written, by one Write, or nothing is: ErrRange.
func TestSizes(t *testing.T) {
	for size := 1; size <= 64; size++ {
		for _, c := range allWrote() {
			what := strconv.Itoa(size) + " sectors"
			p := pairOf(t, what, laid(t, "a:2 wal-1:"+strconv.Itoa(size)))
			b := p.writer(heading(3, 1), nil, c.end)
			at, e := b.append(bytesOf(c.n, c.n))
			if c.first+c.count > size {
				is(t, what, at, e, 0, api.ErrRange)
			} else {
				is(t, what, at, e, c.place, api.OK)
			}
			if e := b.sync(); e != api.OK {
				t.Errorf("%s: Sync: error %d", what, e)
			}
		}
	}
}

// P23.2: behind a record that the file was too short for, one that it has room for is written as if there had been no other one.
func TestBehindRange(t *testing.T) {
	for size := 2; size < whole; size++ {
		d := laid(t, "wal-1:"+strconv.Itoa(size))
		w := New(d, heading(3, 1), nil, 0)
		puts(t, w, []byte("ab"), 0)
		at, e := w.Append(make([]byte, 775-11))
		is(t, "a long one", at, e, 0, api.ErrRange)
		puts(t, w, bytesOf(2, 5), 13)
		want, _ := image.Sectors(3, [][]byte{[]byte("ab"), bytesOf(2, 5)})
		if got, e := d.Read("wal-1", 1, 1); e != api.OK || got[0] != want[0] || w.End() != 29 {
			t.Errorf("%d sectors: error %d, End = %d, %s", size, e, w.End(), differ(got, want[:1]))
		}
	}
}

// P23.2: without a file ErrNone, of each call; once it is there, all goes as if there had been none.
func TestMissing(t *testing.T) {
	for _, files := range []string{"a:17", "free-1:17", "wal-01:17 wal-11:17 wal-10:17 wal-2:17", "wal-:17 1:17 wal:17"} {
		d := laid(t, files)
		w := New(d, heading(3, 1), nil, 0)
		left := told(d)
		for range 3 {
			at, e := w.Append([]byte("lost"))
			is(t, files, at, e, 0, api.ErrNone)
			if e := w.Sync(); e != api.ErrNone || w.End() != 0 || !w.Fits(788) {
				t.Errorf("%s: error %d, End = %d", files, e, w.End())
			}
		}
		same(t, files, d, left)
		fine(t, d.Make("wal-1", whole))
		puts(t, w, []byte("ab"), 0)
		fine(t, w.Sync())
		want, _ := image.Sectors(3, [][]byte{[]byte("ab")})
		if got, e := d.Read("wal-1", 1, sectors); e != api.OK || !slices.Equal(got, want) || w.End() != 13 {
			t.Errorf("%s: error %d, End = %d, %s", files, e, w.End(), differ(got, want))
		}
	}
}

// P23.2: a file that is renamed, or removed, behind some Appends: ErrNone; it comes back, and the writer goes on as it stood.
func TestGoneAndBack(t *testing.T) {
	for _, n := range lengths()[:20] {
		p := pairOf(t, "length "+strconv.Itoa(n), laid(t, "b:17 wal-1:17"))
		b := p.writer(heading(3, 1), nil, 0)
		b.append(bytesOf(1, n))
		fine(t, p.d.Rename("wal-1", "x"))
		fine(t, p.twin.rename("wal-1", "x"))
		if _, e := b.append(bytesOf(2, n)); e != api.ErrNone || b.sync() != api.ErrNone {
			t.Errorf("%s: error %d", p.what, e)
		}
		fine(t, p.d.Rename("x", "wal-1"))
		fine(t, p.twin.rename("x", "wal-1"))
		b.append(bytesOf(3, n))
		b.sync()
		fine(t, p.d.Remove("wal-1"))
		fine(t, p.twin.remove("wal-1"))
		if _, e := b.append(bytesOf(4, n)); e != api.ErrNone || b.sync() != api.ErrNone {
			t.Errorf("%s: error %d", p.what, e)
		}
		fine(t, p.d.Rename("b", "wal-1"))
		fine(t, p.twin.rename("b", "wal-1"))
		b.append(bytesOf(5, n))
		b.sync()
	}
}

// P23.2: the op that fails is the next one, the one behind it, and each later one: till then all goes as ever, then nothing, and behind a crash, which keeps nothing, all, or some, the writer goes on as it stood.
func TestFails(t *testing.T) {
	for fail := range 18 {
		for _, keep := range [][]byte{nil, {255, 255, 255}, {0x55, 0x55, 0x55}, {1}, {2}} {
			p := pairOf(t, "the op that fails: "+strconv.Itoa(fail), begun(t, "a:3", heading(3, 1)))
			b := p.writer(heading(3, 1), nil, 0)
			p.fail(fail)
			for i, n := range []int{10, 0, 41, 197, 5, 788, 100} {
				b.append(bytesOf(i, n))
				if i%2 == 0 {
					b.sync()
				}
				b.append(bytesOf(i, n/2))
			}
			if b.d.Down() != (fail < 16) {
				t.Fatalf("%s: down is %t", p.what, b.d.Down())
			}
			p.crash(api.Crash{Keep: keep, Torn: -1})
			b.append(bytesOf(9, 3))
			b.sync()
			p.fail(0)
			b.append(bytesOf(9, 3))
			b.append(bytesOf(9, 4))
			b.sync()
			p.crash(api.Crash{Keep: keep, Torn: 0, Cut: 20})
			b.sync()
			b.append(bytesOf(9, 3))
		}
	}
}

// P23.2: a record that the disk refused isn't there behind the next Append, which writes what it would have written without it.
func TestBehindFail(t *testing.T) {
	for _, refused := range []int{0, 1, 30, 41, 197, 500, 700} {
		for _, next := range []int{0, 1, 30, 41, 197, 500, 700} {
			h := heading(3, 1)
			d := begun(t, "", h)
			w := New(d, h, nil, 0)
			puts(t, w, bytesOf(1, 20), 0)
			fine(t, w.Sync())
			fine(t, d.Fail(0))
			for range 3 {
				at, e := w.Append(bytesOf(2, refused))
				is(t, "refused", at, e, 0, api.ErrDown)
				if w.End() != 31 || !w.Fits(757) || w.Fits(758) || w.Sync() != api.ErrDown {
					t.Fatalf("refused: End = %d", w.End())
				}
			}
			d.Crash(api.Crash{Torn: -1})
			puts(t, w, bytesOf(3, next), 31)
			want, _ := image.Sectors(3, [][]byte{bytesOf(1, 20), bytesOf(3, next)})
			if got, e := d.Read("wal-1", 1, sectors); e != api.OK || !slices.Equal(got, want) {
				t.Errorf("%d refused, %d behind: error %d, %s", refused, next, e, differ(got, want))
			}
		}
	}
}
