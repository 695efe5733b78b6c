package writer

import (
	"slices"
	"strconv"
	"testing"

	"strandline/api"
	"strandline/disk"
)

// spoil turns all bits of b, and of the room behind its end.
func spoil(b []byte) {
	for i := range b[:cap(b)] {
		b[:cap(b)][i] ^= 255
	}
}

// P23.1: the body is a copy: what the caller changes in it, behind New or between Appends, changes nothing.
func TestBodyApart(t *testing.T) {
	for i, body := range bodies() {
		for _, end := range []int{0, 30, 52, 100, 300} {
			p := pairOf(t, "body "+strconv.Itoa(i), laid(t, "wal-1:17"))
			given := slices.Grow(slices.Clone(body), 900)
			b := p.writer(heading(3, 1), given, end)
			spoil(given)
			b.append(bytesOf(1, 20))
			spoil(given)
			b.append(bytesOf(2, 200))
			copy(given, bytesOf(7, 900))
			b.append(nil)
			b.sync()
		}
	}
}

// P23.1, P23.2: neither New nor Append changes the caller's body, nor the room behind its end.
func TestBodyUnchanged(t *testing.T) {
	for i, body := range bodies() {
		was := slices.Clone(body[:cap(body)])
		for _, end := range []int{0, 30, 52, 100, 300, 800} {
			w := New(laid(t, "wal-1:17"), heading(3, 1), body, end)
			for _, n := range []int{20, 0, 200, 5, 788} {
				w.Append(bytesOf(1, n))
			}
			if !slices.Equal(body[:cap(body)], was) {
				t.Fatalf("body %d is changed", i)
			}
		}
	}
}

// P23.1: two writers of one body: neither sees what the other one writes.
func TestBodyOfTwo(t *testing.T) {
	body := roomy(scatter(all))
	p := pairOf(t, "one body", laid(t, "wal-1:17 wal-2:17"))
	a, b := p.writer(heading(3, 1), body, 20), p.writer(heading(4, 2), body, 20)
	for i := range 5 {
		a.append(bytesOf(i, 25))
		b.append(bytesOf(i, 2))
	}
}

// P23.2: Append changes nothing of data, nor of the room behind its end, whatever it answers; what becomes of data afterwards changes nothing.
func TestDataApart(t *testing.T) {
	for _, n := range []int{0, 1, 10, 41, 100, 197, 300, 700, 788, 789, 5000} {
		for _, fail := range []int{0, 5} {
			p := pairOf(t, strconv.Itoa(n)+" bytes", laid(t, "wal-1:17"))
			b := p.writer(heading(3, 1), nil, 0)
			p.fail(fail)
			data := roomy(bytesOf(3, n))
			was := slices.Clone(data[:cap(data)])
			b.append(data)
			if !slices.Equal(data[:cap(data)], was) {
				t.Fatalf("%s: data is changed", p.what)
			}
			spoil(data)
			b.alike("data is changed")
			b.append(bytesOf(4, 3))
			b.sync()
		}
	}
}

// P23.2: data that are a part of the body that New was given.
func TestDataOfBody(t *testing.T) {
	for _, from := range []int{0, 5, 50, 100, 300, 600} {
		body := scatter(all)
		p := pairOf(t, "from "+strconv.Itoa(from), laid(t, "wal-1:17"))
		b := p.writer(heading(3, 1), body, 100)
		b.append(body[from : from+200])
		b.append(body[from : from+100])
		if !slices.Equal(body, scatter(all)) {
			t.Errorf("%s: the body is changed", p.what)
		}
	}
}

// does are calls of a writer on a disk, by their names, some of which have errors.
func does() map[string]func(w *Writer) {
	return map[string]func(w *Writer){
		"nothing":     func(w *Writer) { w.Append(nil) },
		"short":       func(w *Writer) { w.Append([]byte("ab")) },
		"long":        func(w *Writer) { w.Append(bytesOf(1, 500)) },
		"too long":    func(w *Writer) { w.Append(bytesOf(1, 900)) },
		"sync":        func(w *Writer) { w.Sync() },
		"append sync": func(w *Writer) { w.Append(bytesOf(2, 60)); w.Sync() },
		"fits":        func(w *Writer) { w.Fits(5); w.End() },
	}
}

// P23.1, P23.2: a writer on a clone of the disk leaves the first one as it was, and does the same; so the other way round.
func TestClone(t *testing.T) {
	for _, files := range []string{"a:3 wal-1:17 z:4", "a:3 wal-1:5", "a:3 z:4"} {
		for _, fail := range []int{-1, 0, 1, 2} {
			for what, do := range does() {
				d := laid(t, files)
				if fail >= 0 {
					fine(t, d.Fail(fail))
				}
				c, was := d.Clone(), told(d)
				first, second := New(c, heading(3, 1), nil, 50), New(d, heading(3, 1), nil, 50)
				do(first)
				same(t, what+" on the clone of "+files, d, was)
				then := told(c)
				do(second)
				same(t, what+" of "+files, d, then)
				same(t, what+" of "+files+", the clone", c, then)
				if first.End() != second.End() {
					t.Errorf("%s of %s: End = %d, %d", what, files, first.End(), second.End())
				}
			}
		}
	}
}

// P23.2: no other file is changed, whatever is appended and synced, and whichever op fails.
func TestNoOtherFile(t *testing.T) {
	for _, files := range []string{"a:3 free-0:17 free-1:17 wal-1:17 wal-10:17 wal-11:17 wal-2:17 z:4", "free-1:17 wal-1:5 wal-2:17", "wal-10:17 wal-2:17 z:64"} {
		for _, fail := range []int{-1, 0, 1, 2} {
			for what, do := range does() {
				d := laid(t, files)
				before := told(d).without("wal-1")
				if fail >= 0 {
					fine(t, d.Fail(fail))
				}
				w := New(d, heading(3, 1), nil, 50)
				do(w)
				do(w)
				if d.Down() {
					d, before = crashed(d), lastOf(before)
				}
				if after := told(d).without("wal-1"); !slices.EqualFunc(after, before, fileState.equal) {
					t.Errorf("%s of %s, op %d fails: another file is changed", what, files, fail)
				}
			}
		}
	}
}

// crashed is a clone of d behind a crash that keeps nothing.
func crashed(d *disk.Disk) *disk.Disk {
	c := d.Clone()
	c.Crash(api.Crash{Torn: -1})
	return c
}

// lastOf are files behind a crash that keeps nothing.
func lastOf(l []fileState) []fileState {
	var out []fileState
	for _, f := range l {
		out = append(out, fileState{f.name, f.lasting, f.lasting, make([]bool, len(f.lasting))})
	}
	return out
}

// P23.2: what the disk keeps is its own: a record that was written stays as it was, whatever the writer does then behind an error.
func TestDiskApart(t *testing.T) {
	d := laid(t, "wal-1:17")
	w := New(d, heading(3, 1), nil, 0)
	puts(t, w, bytesOf(1, 20), 0)
	left := told(d)
	at, e := w.Append(bytesOf(2, 900))
	is(t, "too long", at, e, 0, api.ErrFull)
	same(t, "too long", d, left)
	fine(t, d.Fail(0))
	at, e = w.Append(bytesOf(2, 9))
	is(t, "no power", at, e, 0, api.ErrDown)
	same(t, "no power", d, fallen(left))
}
