package segment

import (
	"math"
	"strconv"
	"testing"

	"strandline/api"
	"strandline/disk"
	"strandline/pool"
)

// P22.1, P22.2: each call in each state, with each room, whichever op fails, held against the slow reading.
func TestAllAgainstSlow(t *testing.T) {
	all := calls()
	for _, text := range states() {
		for _, more := range []int{0, whole - 1, whole, 2 * whole} {
			for fail := -1; fail < 5; fail++ {
				made := laid(t, text, more)
				if fail >= 0 {
					fine(t, made.Fail(fail))
				}
				what := text + ", room for " + strconv.Itoa(more) + ", the op that fails: " + strconv.Itoa(fail)
				for _, c := range all {
					c.againstSlow(t, what, made.Clone(), made.Clone())
				}
			}
		}
	}
}

// dice are numbers that come one behind the other, always the same ones.
type dice uint64

// roll tells a number from 0 to n - 1.
func (r *dice) roll(n int) int {
	*r = *r*6364136223846793005 + 1442695040888963407
	return int(uint64(*r)>>33) % n
}

// pick tells one of l.
func pick[T any](r *dice, l ...T) T {
	return l[r.roll(len(l))]
}

// name tells the name of a file, mostly a live or a free one.
func (r *dice) name() string {
	return pick(r, "free-0", "free-1", "free-1", "free-2", "free-3", "wal-1", "wal-1", "wal-2", "wal-3", "wal-01", "a", "No Name")
}

// header tells a header, mostly a right one.
func (r *dice) header() api.Header {
	h := head(pick(r, 1, 2, 3, 4, 5, 6, 7, 8, 1<<32, math.MaxUint64-1, uint64(r.roll(1000))), pick(r, 1, 2, 3, 3, 2, 1, 0, 4, mostLSN, mostLSN+1))
	if r.roll(12) == 0 {
		h.First = pick(r, 1, 6, 0, -1, mostLSN, mostLSN+1)
	}
	return h
}

// sector tells one that is a header's, nearly one's, empty, or any.
func (r *dice) sector() api.Sec {
	s := slowSector(r.header())
	switch r.roll(5) {
	case 0:
		return api.Sec{}
	case 1:
		return mark("w", r.roll(90))
	case 2:
		s[r.roll(len(s))]++
	}
	return s
}

// sectors tells some of them, seldom more than a segment has.
func (r *dice) sectors(n int) []api.Sec {
	var l []api.Sec
	for range n {
		l = append(l, r.sector())
	}
	return l
}

// crash tells a crash.
func (r *dice) crash() api.Crash {
	c := api.Crash{Torn: r.roll(40) - 3, Cut: pick(r, math.MinInt, -1, 0, 1, 13, 41, 64, 65, math.MaxInt)}
	for range r.roll(8) {
		c.Keep = append(c.Keep, byte(r.roll(256)))
	}
	return c
}

// own is a call of the disk's own, or of the pool's.
func own(r *dice) func(d *disk.Disk) answer {
	name, to := r.name(), r.name()
	n := pick(r, 1, 16, whole, whole, whole, 18, 40)
	at, after, c := pick(r, 0, 0, 0, r.roll(18)), r.roll(12), r.crash()
	l := r.sectors(pick(r, 0, 1, 1, 2, whole))
	return pick(r,
		func(d *disk.Disk) answer { return failed(d.Make(name, n)) },
		func(d *disk.Disk) answer { return failed(d.Write(name, at, l)) },
		func(d *disk.Disk) answer { return failed(d.Write(to, at, l)) },
		func(d *disk.Disk) answer { return failed(d.Sync(name)) },
		func(d *disk.Disk) answer { return failed(d.Rename(name, to)) },
		func(d *disk.Disk) answer { return failed(d.Remove(name)) },
		func(d *disk.Disk) answer { return failed(d.Fail(after)) },
		func(d *disk.Disk) answer { d.Crash(c); return answer{} },
		func(d *disk.Disk) answer { d.Crash(c); return answer{} },
		func(d *disk.Disk) answer { return failed(pool.Spare(d)) },
		func(d *disk.Disk) answer { return failed(pool.Give(d, name)) },
		func(d *disk.Disk) answer { return failed(pool.Clean(d)) },
	)
}

// step is one call, as the package does it and as the chapter's words do.
func step(r *dice) call {
	if r.roll(3) == 0 {
		do := own(r)
		return call{"own", "a call of the disk's own, or of the pool's", nil, do, do}
	}
	name, h, seq := r.name(), r.header(), pick(r, 1, 2, 3, 4, 0, mostLSN, mostLSN+1)
	return pick(r, prepareOf(name, h, r.sectors(pick(r, 0, 1, 2, 15, most, most+1))), beginOf(h), beginOf(h), headerOf(seq), sectorsOf(seq), newestOf())
}

// P22.1, P22.2, P22.3: long rows of calls, mixed with the disk's own and the pool's, held against the slow reading on a disk apart.
func TestRowsAgainstSlow(t *testing.T) {
	for turn := range 60 {
		r := dice(turn)
		capacity := pick(&r, 16, 17, 40, 60, 90, 200, 400)
		d, twin := disk.New(capacity), disk.New(capacity)
		for n := range 400 {
			what := "turn " + strconv.Itoa(turn) + ", call " + strconv.Itoa(n)
			step(&r).againstSlow(t, what, d, twin)
		}
	}
}
