package writer

import (
	"slices"
	"strconv"
	"testing"

	"strandline/api"
	"strandline/disk"
)

// wrote is an Append, written out: its place, the place behind it, and the sectors of the file that it writes, from the first one on.
type wrote struct{ end, n, place, behind, first, count int }

// allWrote are Appends at the bounds of heads, sectors and blocks.
func allWrote() []wrote {
	return []wrote{
		{-1, 0, 0, 11, 1, 1}, {0, 0, 0, 11, 1, 1}, {0, 1, 0, 12, 1, 1}, {0, 10, 0, 21, 1, 1}, {0, 41, 0, 52, 1, 1}, {0, 42, 0, 53, 1, 2}, {0, 93, 0, 104, 1, 2}, {0, 94, 0, 105, 1, 3},
		{0, 196, 0, 207, 1, 4}, {0, 197, 0, 208, 1, 4}, {0, 198, 0, 220, 1, 5}, {0, 394, 0, 416, 1, 8}, {0, 395, 0, 428, 1, 9}, {0, 788, 0, 832, 1, 16},
		{1, 0, 1, 12, 1, 1}, {21, 10, 21, 42, 1, 1}, {40, 0, 40, 51, 1, 1}, {40, 1, 40, 52, 1, 1}, {41, 0, 41, 52, 1, 1}, {41, 1, 41, 53, 1, 2},
		// Where no head has room, the sector of the end is written too.
		{42, 0, 52, 63, 1, 2}, {42, 41, 52, 104, 1, 2}, {42, 42, 52, 105, 1, 3}, {51, 0, 52, 63, 1, 2}, {52, 0, 52, 63, 2, 1}, {52, 41, 52, 104, 2, 1}, {53, 41, 53, 105, 2, 2},
		{94, 0, 104, 115, 2, 2}, {103, 5, 104, 120, 2, 2}, {104, 5, 104, 120, 3, 1},
		{196, 1, 196, 208, 4, 1}, {197, 0, 197, 208, 4, 1}, {197, 1, 197, 220, 4, 2}, {198, 0, 208, 219, 4, 2}, {207, 1, 208, 220, 4, 2}, {208, 1, 208, 220, 5, 1}, {208, 197, 208, 416, 5, 4},
		{300, 499, 300, 832, 6, 11}, {613, 0, 613, 624, 12, 1}, {613, 1, 613, 636, 12, 2}, {614, 1, 624, 636, 12, 2}, {624, 197, 624, 832, 13, 4},
		{769, 0, 769, 780, 15, 1}, {770, 0, 780, 791, 15, 2}, {780, 41, 780, 832, 16, 1}, {800, 21, 800, 832, 16, 1}, {820, 1, 820, 832, 16, 1}, {821, 0, 821, 832, 16, 1},
	}
}

// P23.2: Appends written out: one Write, of just these sectors of the file, which wait; all others, and what is lasting, are as they were.
func TestAppend(t *testing.T) {
	for _, c := range allWrote() {
		what := strconv.Itoa(c.n) + " bytes at " + strconv.Itoa(c.end)
		d := laid(t, "a:3 wal-1:17 z:64")
		fine(t, d.Sync("wal-1"))
		before := told(d)
		w := New(d, heading(3, 1), nil, c.end)
		puts(t, w, bytesOf(c.n, c.n), c.place)
		if w.End() != c.behind {
			t.Errorf("%s: End = %d, want %d", what, w.End(), c.behind)
		}
		after := told(d)
		if after.ops != before.ops+1 || after.waiting != before.waiting+c.count || !slices.EqualFunc(after.without("wal-1"), before.without("wal-1"), fileState.equal) {
			t.Errorf("%s: %v, it was %v", what, after, before)
		}
		was, is := before.of(t, "wal-1"), after.of(t, "wal-1")
		for i := range whole {
			written := i >= c.first && i < c.first+c.count
			if is.waits[i] != written || (is.seen[i] != was.seen[i]) != written || is.lasting[i] != was.lasting[i] {
				t.Errorf("%s: sector %d", what, i)
			}
		}
	}
}

// P23.2: it is one Write, and no more: with the power to go at the op behind, all is written; with it gone at the next one, nothing.
func TestAppendIsOneWrite(t *testing.T) {
	for _, c := range allWrote() {
		what := strconv.Itoa(c.n) + " bytes at " + strconv.Itoa(c.end)
		for fail := range 3 {
			d := laid(t, "wal-1:17 z:1")
			w := New(d, heading(3, 1), nil, c.end)
			before := d.Ops()
			fine(t, d.Fail(fail))
			at, e := w.Append(bytesOf(c.n, c.n))
			if fail == 0 {
				is(t, what, at, e, 0, api.ErrDown)
				if d.Ops() != before || !d.Down() {
					t.Errorf("%s: %d ops", what, d.Ops()-before)
				}
				continue
			}
			is(t, what, at, e, c.place, api.OK)
			if d.Ops() != before+1 || d.Down() || until(d) != fail-1 {
				t.Errorf("%s: %d ops, %d are left", what, d.Ops()-before, until(d))
			}
		}
	}
}

// P23.2: data that don't fit, written out: ErrFull, and nothing is done.
func TestAppendFull(t *testing.T) {
	for _, c := range []struct{ end, n int }{
		{0, 789}, {0, 5000}, {0, 1 << 20}, {-1, 789}, {1, 788}, {41, 748}, {42, 737}, {52, 737}, {197, 592}, {198, 592}, {208, 592}, {612, 199}, {613, 198}, {614, 198}, {624, 198}, {780, 42},
		{810, 12}, {820, 2}, {821, 1}, {822, 0}, {822, 1}, {831, 0}, {832, 0}, {832, 5}, {833, 0}, {1 << 32, 0},
	} {
		what := strconv.Itoa(c.n) + " bytes at " + strconv.Itoa(c.end)
		d := laid(t, "wal-1:17 z:1")
		w := New(d, heading(3, 1), nil, c.end)
		left, end := told(d), w.End()
		at, e := w.Append(make([]byte, c.n))
		is(t, what, at, e, 0, api.ErrFull)
		if w.End() != end {
			t.Errorf("%s: End = %d", what, w.End())
		}
		same(t, what, d, left)
	}
}

// P23.2: behind a record that didn't fit, shorter ones are written as ever.
func TestAppendBehindFull(t *testing.T) {
	for _, end := range append(edges(), 300, 500, 800) {
		p := pairOf(t, "at "+strconv.Itoa(end), laid(t, "wal-1:17"))
		b := p.writer(heading(3, 1), nil, end)
		room := slowRoom(end)
		for _, n := range []int{5000, room + 1, room, room + 1, 0} {
			b.append(bytesOf(n&63, n&8191))
		}
	}
}

// fast is a disk of one empty segment, as it is laid, without its header.
func fast(t *testing.T) *disk.Disk {
	t.Helper()
	d, e := disk.Lay(whole, []api.File{{Name: "wal-1", L: marks("wal-1", 0, whole)}})
	fine(t, e)
	return d
}

// fastAppend holds one Append of data at end against the slow writer: answer, End, what is seen, how many wait, and ops.
func fastAppend(t *testing.T, d *disk.Disk, twin *slowDisk, body []byte, end int, data []byte) {
	w, slow := New(d, heading(3, 1), body, end), slowNew(twin, heading(3, 1), body, end)
	wantAt, want := slow.append(data)
	at, e := w.Append(data)
	what := strconv.Itoa(len(data)) + " bytes at " + strconv.Itoa(end)
	is(t, what, at, e, wantAt, want)
	got, e := d.Read("wal-1", 0, whole)
	if e != api.OK || w.End() != slow.end || !slices.Equal(got, twin.files["wal-1"].seen) {
		t.Fatalf("%s: error %d, End = %d, want %d", what, e, w.End(), slow.end)
	}
	count, ops := 0, 0
	if want == api.OK {
		count, ops = (slow.end-1)/room+1-end/room, 1
	}
	if d.Waiting() != count || d.Ops() != ops || d.Used() != whole {
		t.Fatalf("%s: %d wait, %d ops", what, d.Waiting(), d.Ops())
	}
	lasting := d.Files()
	if len(lasting) != 1 || lasting[0].Name != "wal-1" || !slices.Equal(lasting[0].L, twin.files["wal-1"].lasting) {
		t.Fatalf("%s: there is more lasting", what)
	}
}

// P23.2: data of each length up to what just fits, and of one more, from each place on.
func TestAppendEverywhere(t *testing.T) {
	const parts = 16
	for part := range parts {
		t.Run(strconv.Itoa(part), func(t *testing.T) {
			t.Parallel()
			made, body, data := fast(t), scatter(all), roomy(bytesOf(part, all+2))
			twin := twinOf(made)
			for end := part; end <= all; end += parts {
				for n := range slowRoom(end) + 2 {
					fastAppend(t, made.Clone(), twin.clone(), body, end, data[:n])
				}
			}
		})
	}
}
