package writer

import (
	"slices"
	"strconv"
	"testing"

	"strandline/api"
	"strandline/segment"
)

// P23.2, P23.3: two writers of one disk, of two segments: each one's sectors are of its own records, and its Sync is of its own file.
func TestTwoOfOneDisk(t *testing.T) {
	for _, first := range lengths()[:24] {
		for _, second := range []int{0, 5, 60, 250} {
			one, two := heading(3, 1), heading(4, 2)
			d := begun(t, "", one)
			fine(t, segment.Begin(d, two))
			p := pairOf(t, strconv.Itoa(first)+" and "+strconv.Itoa(second), d)
			a, b := p.writer(one, nil, 0), p.writer(two, nil, 0)
			rows := [2][][]byte{}
			for i := range 3 {
				for k, w := range []*both{a, b} {
					n := []int{first, second}[k]
					data := bytesOf(2*i+k, n)
					if _, e := w.append(data); e == api.OK {
						rows[k] = append(rows[k], data)
					}
				}
				if i == 1 {
					a.sync()
				}
			}
			for k, epoch := range []uint64{3, 4} {
				want, _ := slowData(epoch, rows[k])
				got, e := segment.Sectors(d, 1+k)
				if e != api.OK || !slices.Equal(got, want) {
					t.Errorf("%s: error %d, %s", p.what, e, differ(got, want))
				}
			}
			p.crash(api.Crash{Torn: -1})
		}
	}
}

// P23.1, P23.2: two writers of one file: each has a body and a place of its own, so a later Write takes the place of the sectors of an elder one.
func TestTwoOfOneFile(t *testing.T) {
	h := heading(3, 1)
	d := begun(t, "", h)
	a, b := New(d, h, nil, 0), New(d, h, nil, 0)
	puts(t, a, bytesOf(1, 10), 0)
	puts(t, a, bytesOf(2, 60), 21)
	puts(t, b, bytesOf(3, 5), 0)
	if a.End() != 92 || b.End() != 16 {
		t.Errorf("End = %d, %d", a.End(), b.End())
	}
	first, _ := slowData(3, [][]byte{bytesOf(3, 5)})
	second, _ := slowData(3, [][]byte{bytesOf(1, 10), bytesOf(2, 60)})
	want := append([]api.Sec{first[0]}, second[1:]...)
	if got, e := segment.Sectors(d, 1); e != api.OK || !slices.Equal(got, want) {
		t.Errorf("error %d, %s", e, differ(got, want))
	}
	// Sync is of the file, whoever wrote what waits.
	fine(t, b.Sync())
	if d.Waiting() != 0 || !slices.Equal(told(d).of(t, "wal-1").lasting[1:], want) {
		t.Errorf("%d wait", d.Waiting())
	}
	// The elder one writes its own body again, from its own place on.
	puts(t, a, bytesOf(4, 5), 92)
	third, _ := slowData(3, [][]byte{bytesOf(1, 10), bytesOf(2, 60), bytesOf(4, 5)})
	want[1], want[2] = third[1], third[2]
	if got, e := segment.Sectors(d, 1); e != api.OK || !slices.Equal(got, want) {
		t.Errorf("error %d, %s", e, differ(got, want))
	}
}

// P23.2: two and three writers of one file, also by other epochs, bodies and places, in turn, held against the slow ones.
func TestManyOfOneFile(t *testing.T) {
	for i, n := range lengths()[:24] {
		for _, epoch := range []uint64{3, 4, 1<<32 + 3} {
			p := pairOf(t, strconv.Itoa(n)+" bytes, epoch "+strconv.FormatUint(epoch, 10), begun(t, "", heading(3, 1)))
			body := scatter(300)
			l := []*both{p.writer(heading(3, 1), nil, 0), p.writer(heading(epoch, 1), body, 0), p.writer(heading(epoch, 1), body, 300)}
			for turn := range 6 {
				w := l[(turn*turn+i)%3]
				w.append(bytesOf(turn, n))
				for _, other := range l {
					other.alike("the others")
				}
				if turn == 3 {
					l[i%3].sync()
				}
			}
		}
	}
}
