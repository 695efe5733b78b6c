package writer

import (
	"math"
	"strconv"
	"testing"

	"strandline/api"
)

// liveHeaders are those whose Seq has a live name, right ones and such as aren't.
func liveHeaders() []api.Header {
	l := []api.Header{heading(3, 1), heading(3, 2), heading(3, 12), heading(3, 1<<16), heading(3, mostLSN-1), heading(3, mostLSN), {Seq: 1}, {Epoch: math.MaxUint64, Seq: mostLSN}}
	for _, epoch := range epochs() {
		l = append(l, heading(epoch, 1), api.Header{Epoch: epoch, Seq: 12})
	}
	for _, n := range []int{math.MinInt, -1, 0, 1, mostLSN, mostLSN + 1, math.MaxInt} {
		h := heading(3, 1)
		h.First = n
		l = append(l, h)
		for i := range h.Heads {
			h := heading(3, 12)
			h.Heads[i] = n
			l = append(l, h)
		}
	}
	return l
}

// deadHeaders are those whose Seq has no live name, whatever else they have.
func deadHeaders() []api.Header {
	l := []api.Header{{}, {Epoch: 3, First: 1}}
	for _, seq := range []int{math.MinInt, math.MinInt + 1, -1 << 32, 1 - 1<<32, -mostLSN, -2, -1, 0, mostLSN + 1, mostLSN + 2, 1 << 32, 1<<32 + 1, 1<<32 + 12, math.MaxInt} {
		for _, epoch := range epochs() {
			l = append(l, heading(epoch, seq))
		}
		l = append(l, api.Header{Epoch: 3, Seq: seq, First: seq})
	}
	return l
}

// P23.1: New of no disk is nil, whatever else it is given.
func TestNewWithoutDisk(t *testing.T) {
	for _, h := range append(liveHeaders(), deadHeaders()...) {
		for _, body := range bodies() {
			if New(nil, h, body, 0) != nil || New(nil, h, body, 52) != nil {
				t.Errorf("New(nil, %v, %d bytes)", h, len(body))
			}
		}
	}
}

// P23.1: New by a header whose Seq has no live name is nil, whatever the disk has.
func TestNewWithoutName(t *testing.T) {
	d := laid(t, "a:17 free-1:17 wal-0:17 wal-1:17 wal-12:17 wal-2147483648:17")
	left := told(d)
	for _, h := range deadHeaders() {
		for _, end := range []int{-1, 0, 52, all, all + 1} {
			if New(d, h, nil, end) != nil {
				t.Errorf("New by the number %d: a writer", h.Seq)
			}
		}
	}
	same(t, "New", d, left)
}

// P23.1: New asks nothing but the disk and the live name: of any other header, disk and file there is a writer, and nothing is done.
func TestNewAsksNoMore(t *testing.T) {
	for _, files := range []string{"", "a:1", "wal-1:17", "wal-1:1", "wal-12:64 wal-1:16"} {
		for _, down := range []bool{false, true} {
			d := laid(t, "z:2 "+files)
			if down {
				goDown(t, d)
			} else {
				fine(t, d.Fail(0))
			}
			left := told(d)
			for _, h := range liveHeaders() {
				for _, body := range bodies() {
					w := New(d, h, body, 41)
					if w == nil || w.End() != 41 || !w.Fits(747) || w.Fits(748) {
						t.Fatalf("%s, New by %v and %d bytes: End = %d", files, h, len(body), w.End())
					}
				}
			}
			same(t, files, d, left)
		}
	}
}

// P23.1, P23.2: by a header whose First and Heads are any, also none that a segment may have, all is written as by a right one.
func TestHeadersWrite(t *testing.T) {
	for _, h := range liveHeaders() {
		name := slowLive(h.Seq)
		p := pairOf(t, name+" by the epoch "+strconv.FormatUint(h.Epoch, 10), laid(t, "a:2 "+name+":17"))
		b := p.writer(h, nil, 0)
		for _, n := range []int{10, 0, 300} {
			if _, e := b.append(bytesOf(n, n)); e != api.OK {
				t.Fatalf("%s: error %d", p.what, e)
			}
		}
		fine(t, b.sync())
		p.crash(api.Crash{Torn: -1})
	}
}

// P23.1: End of each place is that place; of one below 0 it is 0, of one above SegRoom SegRoom.
func TestEnd(t *testing.T) {
	d := laid(t, "wal-1:17")
	for at := range all + 1 {
		if got := New(d, heading(3, 1), nil, at).End(); got != at {
			t.Errorf("New at %d: End = %d", at, got)
		}
	}
	for _, at := range beyond() {
		want := 0
		if at > 0 {
			want = all
		}
		if got := New(d, heading(3, 1), nil, at).End(); got != want {
			t.Errorf("New at %d: End = %d", at, got)
		}
	}
}

// P23.1: Fits, written out: the greatest lengths that fit, from places at the bounds of heads, sectors and blocks on; -1 of none.
func TestFits(t *testing.T) {
	d := laid(t, "wal-1:17")
	for _, c := range []struct{ at, most int }{
		{math.MinInt, 788}, {-1, 788}, {0, 788}, {1, 787}, {41, 747}, {42, 736}, {51, 736}, {52, 736}, {53, 735}, {197, 591}, {198, 591}, {208, 591}, {300, 499}, {416, 394}, {612, 198}, {613, 197}, {614, 197},
		{624, 197}, {780, 41}, {800, 21}, {820, 1}, {821, 0}, {822, -1}, {831, -1}, {832, -1}, {833, -1}, {1 << 32, -1}, {math.MaxInt, -1},
	} {
		w := New(d, heading(3, 1), nil, c.at)
		for n := -5; n < all+5; n++ {
			if got := w.Fits(n); got != (n >= 0 && n <= c.most) {
				t.Errorf("at %d: Fits(%d) = %t", c.at, n, got)
			}
		}
	}
}

// P23.1: Fits of all lengths from each place on, and of far ones.
func TestFitsEverywhere(t *testing.T) {
	d := laid(t, "wal-1:17")
	for at := range all + 1 {
		w := New(d, heading(3, 1), nil, at)
		most := slowRoom(at)
		for n := -3; n < all+3; n++ {
			if got := w.Fits(n); got != (n >= 0 && n <= most) {
				t.Fatalf("at %d: Fits(%d) = %t", at, n, got)
			}
		}
		for _, n := range []int{math.MinInt, math.MinInt + all, -1 << 32, -65536, 65536, math.MaxInt32, 1 << 32, 1<<32 + 1, math.MaxInt - all, math.MaxInt} {
			if w.Fits(n) {
				t.Fatalf("at %d: Fits(%d)", at, n)
			}
		}
	}
}

// P23.1: Fits and End change nothing, and tell the same of a disk that is down and one without the file.
func TestFitsAndEndChangeNothing(t *testing.T) {
	for _, files := range []string{"wal-1:17", "wal-1:1", "a:3"} {
		d := laid(t, files)
		w := New(d, heading(3, 1), nil, 300)
		for _, down := range []bool{false, true} {
			if down {
				goDown(t, d)
			}
			left := told(d)
			for n := range all {
				if w.Fits(n) != (n <= 499) || w.End() != 300 {
					t.Fatalf("%s: Fits(%d) = %t, End = %d", files, n, w.Fits(n), w.End())
				}
			}
			same(t, files, d, left)
		}
	}
}

// P23.1, P23.2: of each body, from each edge on, what is written has the body's bytes, and 0 where it lacks them.
func TestBodies(t *testing.T) {
	for i, body := range bodies() {
		for k, end := range append(edges(), beyond()...) {
			p := pairOf(t, "body "+strconv.Itoa(i)+" at "+strconv.Itoa(end), laid(t, "wal-1:17"))
			b := p.writer(heading(3, 1), body, end)
			b.append(bytesOf(k, lengths()[(i+k)%12]))
			b.append(bytesOf(k, 3))
		}
	}
}
