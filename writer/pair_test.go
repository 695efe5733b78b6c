package writer

import (
	"math"
	"strconv"
	"testing"

	"strandline/api"
	"strandline/disk"
)

// pair is a disk with writers of it, and a slow one that has had the same.
type pair struct {
	t    *testing.T
	what string
	d    *disk.Disk
	twin *slowDisk
}

// pairOf is a pair of a disk that is up.
func pairOf(t *testing.T, what string, d *disk.Disk) *pair {
	return &pair{t, what, d, twinOf(d)}
}

// both are a writer, and a slow one that has had the same.
type both struct {
	*pair
	w    *Writer
	slow *slowWriter
}

// writer is New, of each of the two.
func (p *pair) writer(h api.Header, body []byte, end int) *both {
	p.t.Helper()
	b := &both{p, New(p.d, h, body, end), slowNew(p.twin, h, body, end)}
	if b.w == nil || b.slow == nil {
		p.t.Fatalf("%s: New by the number %d, from %d on: none", p.what, h.Seq, end)
	}
	b.alike("New")
	return b
}

// alike holds what is told of the writer and its disk against the slow ones.
func (b *both) alike(call string) {
	b.t.Helper()
	if b.w.End() != b.slow.end {
		b.t.Fatalf("%s, %s: End = %d, want %d", b.what, call, b.w.End(), b.slow.end)
	}
	for _, n := range []int{math.MinInt, -1, 0, 1, 40, 197, 198, 500, 788, 789, 1 << 32, math.MaxInt} {
		b.fits(call, n)
	}
	same(b.t, b.what+", "+call, b.d, b.twin.told())
}

// fits holds Fits against the slow writer.
func (b *both) fits(call string, n int) {
	b.t.Helper()
	if got, want := b.w.Fits(n), b.slow.fits(n); got != want {
		b.t.Fatalf("%s, %s: at %d Fits(%d) = %t", b.what, call, b.slow.end, n, got)
	}
}

// append is Append of each of the two: the place, and the error, of both.
func (b *both) append(data []byte) (int, api.Errno) {
	b.t.Helper()
	call := "Append of " + strconv.Itoa(len(data)) + " bytes at " + strconv.Itoa(b.slow.end)
	if b.w.Fits(len(data)) != b.slow.fits(len(data)) {
		b.t.Fatalf("%s, %s: Fits = %t", b.what, call, b.w.Fits(len(data)))
	}
	wantAt, want := b.slow.append(data)
	at, e := b.w.Append(data)
	is(b.t, b.what+", "+call, at, e, wantAt, want)
	b.alike(call)
	return at, e
}

// sync is Sync of each of the two: the error of both.
func (b *both) sync() api.Errno {
	b.t.Helper()
	want := b.slow.sync()
	if e := b.w.Sync(); e != want {
		b.t.Fatalf("%s, Sync: error %d, want %d", b.what, e, want)
	}
	b.alike("Sync")
	return want
}

// fail is Fail of both disks.
func (p *pair) fail(after int) {
	p.t.Helper()
	if e, want := p.d.Fail(after), p.twin.fail(after); e != want {
		p.t.Fatalf("%s, Fail: error %d, want %d", p.what, e, want)
	}
}

// crash is Crash of both disks.
func (p *pair) crash(c api.Crash) {
	p.t.Helper()
	p.d.Crash(c)
	p.twin.crash(c)
	same(p.t, p.what+", Crash", p.d, p.twin.told())
}

// crashes holds each of some crashes against the slow disk, by clones.
func (p *pair) crashes(l []api.Crash) {
	p.t.Helper()
	for i, c := range l {
		d, twin := p.d.Clone(), p.twin.clone()
		d.Crash(c)
		twin.crash(c)
		same(p.t, p.what+", crash "+strconv.Itoa(i), d, twin.told())
	}
}
