package writer

import (
	"math"
	"slices"
	"strconv"
	"testing"

	"strandline/api"
	"strandline/disk"
	"strandline/image"
	"strandline/segment"
)

// P23.2: the chapter's example: two Appends of 10 bytes have the places 0 and 21.
func TestExample(t *testing.T) {
	h := heading(3, 1)
	d := begun(t, "", h)
	w := New(d, h, nil, 0)
	puts(t, w, bytesOf(1, 10), 0)
	puts(t, w, bytesOf(2, 10), 21)
	if w.End() != 42 {
		t.Errorf("End = %d", w.End())
	}
	want, _ := image.Sectors(3, [][]byte{bytesOf(1, 10), bytesOf(2, 10)})
	got, e := segment.Sectors(d, 1)
	if e != api.OK || !slices.Equal(got, want) {
		t.Errorf("error %d, %s", e, differ(got, want))
	}
}

// P23.1, P23.2: of no writer: ErrState of whatever is appended, ErrState, false of each length, 0.
func TestNil(t *testing.T) {
	var w *Writer
	for _, data := range [][]byte{nil, {}, {1}, bytesOf(1, 788), bytesOf(1, 789), bytesOf(1, 5000)} {
		at, e := w.Append(data)
		is(t, strconv.Itoa(len(data))+" bytes", at, e, 0, api.ErrState)
	}
	if e := w.Sync(); e != api.ErrState {
		t.Errorf("Sync: error %d", e)
	}
	for _, n := range []int{math.MinInt, -1, 0, 1, 197, 788, 789, math.MaxInt} {
		if w.Fits(n) {
			t.Errorf("Fits(%d)", n)
		}
	}
	if w.End() != 0 {
		t.Errorf("End = %d", w.End())
	}
}

// P23.1, P23.2: a writer that New didn't make, as there is no disk, or no live name, is as nil is.
func TestNilOfNew(t *testing.T) {
	d := begun(t, "", heading(3, 1))
	left := told(d)
	for _, w := range []*Writer{New(nil, heading(3, 1), nil, 5), New(d, heading(3, 0), nil, 5)} {
		at, e := w.Append([]byte("ab"))
		is(t, "ab", at, e, 0, api.ErrState)
		if e := w.Sync(); e != api.ErrState || w.Fits(0) || w.End() != 0 {
			t.Errorf("error %d, Fits(0) = %t, End = %d", e, w.Fits(0), w.End())
		}
	}
	same(t, "calls of none", d, left)
}

// stampOf is the first bytes of a sector, of the epoch 3.
func stampOf(i int) []byte {
	return []byte{3, 0, 0, 0, 0, 0, 0, 0, byte(i), 0, 0, 0}
}

// secOf is the sector of these bytes; all else is 0.
func secOf(l ...[]byte) api.Sec {
	var s api.Sec
	copy(s[:], slices.Concat(l...))
	return s
}

// P23.2, P23.3: what is written, byte by byte: stamps, fragments with the masked sum, and bytes 0.
func TestBytes(t *testing.T) {
	h := heading(3, 258)
	d := begun(t, "", h)
	w := New(d, h, nil, 0)
	ab := []byte{232, 28, 235, 184, 2, 0, 1, 3, 0, 0, 0, 'a', 'b'}
	none := []byte{243, 172, 116, 188, 0, 0, 1, 3, 0, 0, 0}
	want := make([]api.Sec, whole)
	want[0] = d.Files()[0].L[0]
	written := func() {
		t.Helper()
		got, e := d.Read("wal-258", 0, whole)
		if e != api.OK || !slices.Equal(got, want) {
			t.Fatalf("error %d, %s", e, differ(got, want))
		}
	}
	puts(t, w, []byte("ab"), 0)
	want[1] = secOf(stampOf(0), ab)
	written()
	puts(t, w, nil, 13)
	want[1] = secOf(stampOf(0), ab, none)
	written()
	puts(t, w, []byte("ab"), 24)
	want[1] = secOf(stampOf(0), ab, none, ab)
	written()
	// A head lies in its sector, what is behind goes on in the next one.
	puts(t, w, []byte("ab"), 37)
	want[1] = secOf(stampOf(0), ab, none, ab, ab)
	written()
	puts(t, w, []byte("ab"), 52)
	want[2] = secOf(stampOf(1), ab)
	written()
	if w.End() != 65 {
		t.Errorf("End = %d", w.End())
	}
}

// P23.2: a record that is cut at a block's end, byte by byte: a first piece of no bytes, and the last one in the next block.
func TestBytesOfPieces(t *testing.T) {
	h := heading(3, 1)
	d := begun(t, "", h)
	w := New(d, h, slices.Repeat([]byte{9}, all), 197)
	puts(t, w, []byte("c"), 197)
	nines := slices.Repeat([]byte{9}, room)
	want := append(make([]api.Sec, 3), // what isn't touched is as it was
		secOf(stampOf(3), nines[:41], []byte{84, 61, 156, 26, 0, 0, 2, 3, 0, 0, 0}),
		secOf(stampOf(4), []byte{96, 133, 243, 243, 1, 0, 4, 3, 0, 0, 0, 'c'}, nines[:40]))
	want = append(want, make([]api.Sec, 11)...)
	got, e := segment.Sectors(d, 1)
	if e != api.OK || !slices.Equal(got, want) || w.End() != 220 || d.Waiting() != 2 {
		t.Errorf("error %d, End = %d, %d wait, %s", e, w.End(), d.Waiting(), differ(got, want))
	}
}

// P23.2, P23.3: by each epoch all its bytes are in the stamps, its lowest 32 bits in the fragments.
func TestEpochs(t *testing.T) {
	for _, epoch := range epochs() {
		d := laid(t, "wal-1:17")
		w := New(d, api.Header{Epoch: epoch, Seq: 1, First: 1}, nil, 0)
		records := [][]byte{bytesOf(1, 30), bytesOf(2, 300), nil, bytesOf(3, 99)}
		for i, place := range []int{0, 41, 364, 375} {
			puts(t, w, records[i], place)
		}
		want, _ := slowData(epoch, records)
		got, e := d.Read("wal-1", 1, 10)
		if e != api.OK || !slices.Equal(got, want[:10]) || w.End() != 496 {
			t.Errorf("epoch %d: error %d, End = %d, %s", epoch, e, w.End(), differ(got, want[:10]))
		}
	}
}

// P23.1, P23.2: a writer has its file by the header's Seq, whatever other files there are.
func TestFiles(t *testing.T) {
	names := []string{"wal-1", "wal-12", "wal-120", "wal-2147483647"}
	for i, seq := range []int{1, 12, 120, mostLSN} {
		d := laid(t, "a:17 free-0:17 wal-1:17 wal-12:17 wal-120:17 wal-2147483646:17 wal-2147483647:17")
		before := told(d)
		w := New(d, heading(3, seq), nil, 0)
		puts(t, w, []byte("ab"), 0)
		after := told(d)
		if !slices.EqualFunc(after.without(names[i]), before.without(names[i]), fileState.equal) {
			t.Errorf("number %d: %v", seq, after)
		}
		s := after.of(t, names[i])
		if s.seen[0] != before.of(t, names[i]).seen[0] || s.seen[1] != secOf(stampOf(0), []byte{232, 28, 235, 184, 2, 0, 1, 3, 0, 0, 0, 'a', 'b'}) {
			t.Errorf("number %d: %v", seq, after)
		}
	}
}

// sizes are lengths that don't fit from 0 on, and such as do.
func sizes() []int {
	return []int{0, 1, 40, 41, 197, 198, 788, 789, 5000}
}

// P23.1, P23.2: no call panics, of any header, body, place and disk, and a writer that New answers has its End within the body.
func TestAnyCalls(t *testing.T) {
	for _, h := range append(liveHeaders(), deadHeaders()...) {
		for _, end := range append(beyond(), 0, 41, 42, 52, 821, 822, all) {
			for _, d := range []*disk.Disk{nil, disk.New(0), laid(t, "wal-1:1"), laid(t, "wal-1:17 wal-12:64")} {
				w := New(d, h, scatter(100), end)
				for _, n := range sizes() {
					w.Append(make([]byte, n))
					w.Fits(n)
					w.Sync()
				}
				if w.End() < 0 || w.End() > all {
					t.Fatalf("End = %d", w.End())
				}
			}
		}
	}
}
