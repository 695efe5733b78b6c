package writer

import (
	"slices"
	"strconv"
	"testing"

	"strandline/api"
	"strandline/image"
	"strandline/plan"
	"strandline/scan"
	"strandline/segment"
)

// row is a writer of a fresh segment, with the records that were appended.
type row struct {
	*both
	h       api.Header
	records [][]byte
}

// rowOf is one behind a Begin, beside other files that wait.
func rowOf(t *testing.T, what string, h api.Header) *row {
	t.Helper()
	p := pairOf(t, what, begun(t, "a:3 free-1:17", h))
	return &row{both: p.writer(h, nil, 0), h: h}
}

// call is Sync, of a length below 0, or Append of so many bytes, and holds the segment against P23.3.
func (r *row) call(n int) {
	r.t.Helper()
	if n < 0 {
		fine(r.t, r.sync())
		r.holds()
		return
	}
	data := bytesOf(len(r.records), n)
	_, e := r.append(data)
	switch {
	case e == api.OK:
		r.records = append(r.records, data)
	case e != api.ErrFull:
		r.t.Fatalf("%s: error %d", r.what, e)
	}
	r.holds()
}

// holds tells whether the segment's Data sectors, as they are seen, are those of all records: by the chapters' words, and by layer 17.
func (r *row) holds() {
	r.t.Helper()
	want, ok := slowData(r.h.Epoch, r.records)
	laid, fits := image.Sectors(r.h.Epoch, r.records)
	got, e := segment.Sectors(r.d, r.h.Seq)
	if !ok || !fits || e != api.OK || !slices.Equal(got, want) || !slices.Equal(got, laid) {
		r.t.Fatalf("%s: error %d, %s", r.what, e, differ(got, want))
	}
}

// P23.3: all orders of four calls, of Syncs and of Appends of some lengths.
func TestOrders(t *testing.T) {
	kinds := []int{-1, 0, 10, 41, 42, 197, 300, 700}
	for i := range len(kinds) * len(kinds) * len(kinds) * len(kinds) {
		r := rowOf(t, "order "+strconv.Itoa(i), heading(3, 1))
		for range 4 {
			r.call(kinds[i%len(kinds)])
			i /= len(kinds)
		}
	}
}

// P23.3: a record of each length ahead, and others behind it till none fits any more, with Syncs between.
func TestLengths(t *testing.T) {
	for n := range most + 2 {
		r := rowOf(t, "length "+strconv.Itoa(n), heading(epochs()[1+n%8], 1+n))
		for i := 0; i < 4; i++ {
			r.call(n)
			if (n+i)%3 == 0 {
				r.call(-1)
			}
			r.call((n*7 + i*50) % 90)
		}
	}
}

// P23.3: records of one length each, till the segment is full; then the shorter ones that still fit.
func TestFull(t *testing.T) {
	for _, n := range []int{0, 1, 2, 9, 10, 30, 41, 42, 60, 93, 100, 197, 198, 394, 700, 788} {
		r := rowOf(t, "length "+strconv.Itoa(n), heading(3, 7))
		for r.w.Fits(n) {
			r.call(n)
		}
		count := len(r.records)
		r.call(n)
		r.call(-1)
		for r.w.Fits(0) {
			for k := n; k >= 0; k-- {
				if r.w.Fits(k) {
					r.call(k)
				}
			}
		}
		r.call(0)
		r.call(-1)
		if count == 0 || len(r.records) < count {
			t.Errorf("%s: %d records", r.what, count)
		}
	}
}

// P23.3: what was written is scanned, record by record, at the places that were told, with the end that is the writer's.
func TestScanned(t *testing.T) {
	for n := range 300 {
		h := heading(uint64(1+n), 1+n)
		d := begun(t, "", h)
		w := New(d, h, nil, 0)
		var want scan.Result
		for i := range 9 {
			data := bytesOf(i, (n*(i+1))%513)
			if !w.Fits(len(data)) {
				continue
			}
			at, e := w.Append(data)
			fine(t, e)
			want.Recs, want.Places = append(want.Recs, data), append(want.Places, at)
		}
		l, e := segment.Sectors(d, h.Seq)
		fine(t, e)
		got := scan.Scan(h.Epoch, l)
		if got.End != w.End() || got.Kind != api.EndClean || !slices.Equal(got.Places, want.Places) || !slices.EqualFunc(got.Recs, want.Recs, slices.Equal[[]byte]) {
			t.Fatalf("row %d: %v, %d, %d, want %v, %d", n, got.Places, got.End, got.Kind, want.Places, w.End())
		}
	}
}

// P23.1, P23.3: a writer that takes up where another one ended, by the segment's body and its end, goes on as that one would.
func TestTakenUp(t *testing.T) {
	for n := range 260 {
		r := rowOf(t, "length "+strconv.Itoa(n), heading(3, 1))
		for i := range 6 {
			r.call((n * (i + 1)) % 260)
			l, e := segment.Sectors(r.d, 1)
			fine(t, e)
			body, _ := plan.Flat(3, l)
			r.both = r.writer(r.h, body, r.w.End())
		}
		r.call(-1)
	}
}

// crashesOf are crashes of so many sectors that wait: each choice of few, or none, all, each alone and all but one; and such that tear one.
func crashesOf(waiting int) []api.Crash {
	l := []api.Crash{{Torn: -1}, {Keep: ones(waiting), Torn: -1}, {Keep: ones(waiting + 9), Torn: waiting}}
	if waiting <= 6 {
		for k := range 1 << waiting {
			l = append(l, api.Crash{Keep: []byte{byte(k)}, Torn: -1})
		}
	}
	for i := range waiting {
		alone, but := make([]byte, waiting/8+1), ones(waiting)
		alone[i/8] = 1 << (i % 8)
		but[i/8] &^= 1 << (i % 8)
		l = append(l, api.Crash{Keep: alone, Torn: -1}, api.Crash{Keep: but, Torn: -1})
		for _, cut := range []int{-1, 1, 8, 12, 16, 40, 63, 64, 99} {
			l = append(l, api.Crash{Torn: i, Cut: cut}, api.Crash{Keep: but, Torn: i, Cut: cut})
		}
	}
	return l
}

// P23.2, P23.3: behind any call of a row: what each crash leaves.
func TestCrashes(t *testing.T) {
	for i, calls := range [][]int{{10, 10, -1, 10, 40, 10}, {0, -1, 0, 0}, {300, -1, 100, 0, -1, 5}, {197, 197, 197, 197, -1}, {788, -1, 0}, {41, 41, -1, 41, 42, 1}, {700, 5, 0, 0, -1, 0}, {20, 150, 20, -1, 150, 20, 150}} {
		r := rowOf(t, "row "+strconv.Itoa(i), heading(3, 1))
		fine(t, r.d.Sync("a"))
		fine(t, r.twin.sync("a"))
		r.crashes(crashesOf(r.d.Waiting()))
		for _, n := range calls {
			r.call(n)
			r.crashes(crashesOf(r.d.Waiting()))
		}
	}
}

// P23.2: behind a crash each sector is as it was synced, or as it was seen, and those that don't wait are both; what was synced is there whole.
func TestCrashLeaves(t *testing.T) {
	h := heading(3, 1)
	for _, synced := range []int{0, 10, 41, 60, 300} {
		for _, behind := range []int{0, 10, 41, 60, 150, 300} {
			d := begun(t, "", h)
			w := New(d, h, nil, 0)
			puts(t, w, bytesOf(1, synced), 0)
			fine(t, w.Sync())
			was := w.End()
			_, e := w.Append(bytesOf(2, behind))
			fine(t, e)
			old, _ := slowData(3, [][]byte{bytesOf(1, synced)})
			next, _ := slowData(3, [][]byte{bytesOf(1, synced), bytesOf(2, behind)})
			first, waiting := was/room, (w.End()-1)/room+1-was/room
			if d.Waiting() != waiting {
				t.Fatalf("%d and %d: %d wait, not %d", synced, behind, d.Waiting(), waiting)
			}
			for k := range 1 << min(waiting, 7) {
				c := d.Clone()
				c.Crash(api.Crash{Keep: []byte{byte(k)}, Torn: -1})
				want := slices.Clone(old)
				for i := range waiting {
					if i < 8 && k>>i&1 == 1 {
						want[first+i] = next[first+i]
					}
				}
				got, e := segment.Sectors(c, 1)
				if e != api.OK || !slices.Equal(got, want) || c.Waiting() != 0 {
					t.Fatalf("%d and %d, crash %d: error %d, %s", synced, behind, k, e, differ(got, want))
				}
				if r := scan.Scan(3, got); len(r.Recs) < 1 || !slices.Equal(r.Recs[0], bytesOf(1, synced)) {
					t.Fatalf("%d and %d, crash %d: what was synced is lost", synced, behind, k)
				}
			}
		}
	}
}
