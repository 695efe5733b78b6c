package writer

import (
	"math"
	"strconv"
	"testing"

	"strandline/api"
	"strandline/disk"
)

// dice are numbers that come one behind the other, always the same ones.
type dice uint64

// roll tells a number from 0 to n - 1.
func (r *dice) roll(n int) int {
	*r = *r*6364136223846793005 + 1442695040888963407
	return int(uint64(*r)>>33) % n
}

// pick tells one of l.
func pick[T any](r *dice, l ...T) T {
	return l[r.roll(len(l))]
}

// bytes tells so many that look like any.
func (r *dice) bytes(n int) []byte {
	var l []byte
	for range n {
		l = append(l, byte(r.roll(256)))
	}
	return l
}

// length tells that of a record, mostly a short one.
func (r *dice) length() int {
	return pick(r, 0, 1, r.roll(20), r.roll(60), r.roll(60), r.roll(200), r.roll(400), r.roll(800), r.roll(2000))
}

// name tells the name of a file, mostly a live one.
func (r *dice) name() string {
	return pick(r, "wal-1", "wal-1", "wal-2", "wal-3", "free-1", "a")
}

// crash tells a crash.
func (r *dice) crash() api.Crash {
	return api.Crash{Keep: r.bytes(r.roll(10)), Torn: r.roll(40) - 3, Cut: pick(r, math.MinInt, -1, 0, 1, 13, 41, 64, 65, math.MaxInt)}
}

// header tells one of a live name.
func (r *dice) header() api.Header {
	return heading(pick(r, epochs()...), pick(r, 1, 1, 2, 3))
}

// own is a call of the disk's own, of both.
func (p *pair) own(r *dice) {
	p.t.Helper()
	name, to, at, after := r.name(), r.name(), r.roll(18), r.roll(9)
	l := marks("own", r.roll(90), r.roll(4))
	var e, want api.Errno
	switch r.roll(9) {
	case 0:
		e, want = p.d.Make(name, whole), p.twin.make(name, whole)
	case 1:
		e, want = p.d.Rename(name, to), p.twin.rename(name, to)
	case 2:
		if r.roll(3) == 0 {
			e, want = p.d.Remove(name), p.twin.remove(name)
		}
	case 3:
		e, want = p.d.Sync(name), p.twin.sync(name)
	case 4:
		e, want = p.d.Write(name, at, l), p.twin.write(name, at, l)
	case 5:
		e, want = p.d.Fail(after), p.twin.fail(after)
	default:
		if p.d.Down() || r.roll(4) == 0 {
			p.crash(r.crash())
		}
	}
	if e != want {
		p.t.Fatalf("%s: error %d, want %d", p.what, e, want)
	}
}

// P23.1, P23.2: long rows of calls of some writers, of files of one disk, some of one file, mixed with the disk's own, held against the slow ones.
func TestRowsAgainstSlow(t *testing.T) {
	for turn := range 60 {
		r := dice(turn)
		p := pairOf(t, "turn "+strconv.Itoa(turn), laid(t, "a:3 wal-1:17 wal-2:17 wal-3:"+pick(&r, "1", "5", "16", "18", "64")))
		var l []*both
		for n := range 250 {
			p.what = "turn " + strconv.Itoa(turn) + ", call " + strconv.Itoa(n)
			if n < 4 || r.roll(15) == 0 {
				body := r.bytes(pick(&r, 0, 0, 100, all, all+1, r.roll(1000)))
				l = append(l, p.writer(r.header(), body, pick(&r, 0, 0, r.roll(all+1), r.roll(2000)-500)))
			}
			b := l[len(l)-1-r.roll(min(len(l), 5))]
			switch r.roll(8) {
			case 0, 1, 2, 3, 4:
				b.append(r.bytes(r.length()))
			case 5:
				b.sync()
			default:
				p.own(&r)
				b.alike("own")
			}
		}
	}
}

// P23.3: long rows of Appends and Syncs behind a Begin, of records of any lengths and bytes, till the segment is full: the segment's sectors, and what crashes leave, behind each call.
func TestRowsFollow(t *testing.T) {
	for turn := range 150 {
		d := dice(turn)
		h := heading(epochs()[1+d.roll(8)], 1+d.roll(mostLSN))
		r := rowOf(t, "turn "+strconv.Itoa(turn), h)
		longest := pick(&d, 3, 20, 60, 200, 500, 788)
		for full := 0; full < 3; {
			n := d.roll(longest + 1)
			if d.roll(4) == 0 {
				n = -1
			}
			if !r.w.Fits(max(n, 0)) {
				full++
			}
			r.call(n)
			for range 3 {
				c := d.crash()
				left, twin := r.d.Clone(), r.twin.clone()
				left.Crash(c)
				twin.crash(c)
				same(t, r.what+", a crash", left, twin.told())
			}
		}
	}
}

// P23.2: a row whose disk loses its power now and then: behind each crash the writer goes on as it stood.
func TestRowsOfCrashes(t *testing.T) {
	for turn := range 100 {
		d := dice(turn)
		p := pairOf(t, "turn "+strconv.Itoa(turn), begun(t, "", heading(3, 1)))
		b := p.writer(heading(3, 1), nil, 0)
		p.fail(d.roll(6))
		for range 40 {
			b.append(d.bytes(d.roll(50)))
			if d.roll(3) == 0 {
				b.sync()
			}
			if p.d.Down() && d.roll(3) > 0 {
				p.crash(d.crash())
				p.fail(d.roll(6))
			}
		}
	}
}

// P23.1, P23.2: each call in each state of the disk, whichever op fails, held against the slow writer.
func TestAllAgainstSlow(t *testing.T) {
	for _, files := range []string{"a:3", "a:3 wal-1:17", "a:3 wal-1:1", "a:3 wal-1:5 wal-2:17", "wal-1:64", "wal-1:16 wal-10:17"} {
		made := laid(t, files)
		for fail := -1; fail < 3; fail++ {
			for _, end := range append(edges(), -1, all+1) {
				againstSlow(t, files, made.Clone(), fail, end)
			}
		}
	}
}

// againstSlow holds an Append, a Sync, and one more of each against the slow writer, where the op fails behind so many ones (below 0: none does).
func againstSlow(t *testing.T, files string, d *disk.Disk, fail, end int) {
	t.Helper()
	p := pairOf(t, files+", the op that fails: "+strconv.Itoa(fail)+", from "+strconv.Itoa(end)+" on", d)
	b := p.writer(heading(3, 1), scatter(end&511), end)
	if fail >= 0 {
		p.fail(fail)
	}
	b.append(bytesOf(1, 30))
	b.sync()
	b.append(bytesOf(2, 200))
	b.sync()
}
