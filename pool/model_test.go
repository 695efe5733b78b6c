package pool

import (
	"math"
	"strconv"
	"testing"

	"strandline/api"
	"strandline/disk"
)

// P21.1, P21.2: each call, whatever lengths the free names' files have, whatever room there is, and whichever op fails.
func TestAllAgainstSlow(t *testing.T) {
	lengths := []int{0, 1, segment - 1, segment, segment + 1}
	all := calls("", "x", "free-0", "free-1", "free-2", "free-3", "a", "b", "z")
	for _, a := range lengths {
		for _, b := range lengths {
			for _, c := range lengths {
				text := join(some("free-0", a), some("free-1", b), some("free-2", c), "free-3:2 a:17 b:3 z:18")
				for _, more := range []int{0, segment - 1, segment, 3 * segment} {
					for fail := -1; fail < 4; fail++ {
						againstSlow(t, all, text, more, fail)
					}
				}
			}
		}
	}
}

// some is the text of a file of n sectors; nothing of none.
func some(name string, n int) string {
	if n == 0 {
		return ""
	}
	return sized(name, n)
}

// againstSlow holds each call of such a disk, whose op fails behind so many ones (below 0: none does), against the slow pool.
func againstSlow(t *testing.T, all []call, text string, more, fail int) {
	t.Helper()
	made := laid(t, text, more)
	if fail >= 0 {
		fine(t, made.Fail(fail))
	}
	for _, c := range all {
		d, twin := made.Clone(), made.Clone()
		what := c.what + " of " + text + ", room for " + strconv.Itoa(more) + ", the op that fails: " + strconv.Itoa(fail)
		if got, want := c.do(d), c.slow(twin); got != want {
			t.Fatalf("%s: %v, want %v", what, got, want)
		}
		same(t, what, d, told(twin))
	}
}

// dice are numbers that come one behind the other, always the same ones.
type dice uint64

// roll tells a number from 0 to n - 1.
func (r *dice) roll(n int) int {
	*r = *r*6364136223846793005 + 1442695040888963407
	return int(uint64(*r)>>33) % n
}

// pick tells one of l.
func pick[T any](r *dice, l ...T) T {
	return l[r.roll(len(l))]
}

// name tells the name of a file, mostly a free one or nearly one.
func (r *dice) name() string {
	return pick(r, "free-0", "free-1", "free-2", "free-3", "free-01", "wal-1", "wal-2", "a", "z")
}

// crash tells a crash.
func (r *dice) crash() api.Crash {
	c := api.Crash{Torn: r.roll(20) - 3, Cut: pick(r, math.MinInt, -1, 0, 1, 33, 64, 65, math.MaxInt)}
	for range r.roll(5) {
		c.Keep = append(c.Keep, byte(r.roll(256)))
	}
	return c
}

// own is a call of the disk's own.
func own(r *dice) func(d *disk.Disk) answer {
	name, to := r.name(), r.name()
	at, after, c := r.roll(18), r.roll(12), r.crash()
	n := pick(r, 1, 16, segment, segment, segment, 18, 40)
	l := []api.Sec{mark("w", r.roll(90)), mark("v", r.roll(90))}[:1+r.roll(2)]
	return pick(r,
		func(d *disk.Disk) answer { return answer{e: d.Make(name, n)} },
		func(d *disk.Disk) answer { return answer{e: d.Make(to, segment)} },
		func(d *disk.Disk) answer { return answer{e: d.Write(name, at, l)} },
		func(d *disk.Disk) answer { return answer{e: d.Write(to, at, l)} },
		func(d *disk.Disk) answer { return answer{e: d.Sync(name)} },
		func(d *disk.Disk) answer { return answer{e: d.Rename(name, to)} },
		func(d *disk.Disk) answer { return answer{e: d.Remove(name)} },
		func(d *disk.Disk) answer { return answer{e: d.Fail(after)} },
		func(d *disk.Disk) answer { d.Crash(c); return answer{} },
		func(d *disk.Disk) answer { d.Crash(c); return answer{} },
	)
}

// step is one call, as the package does it and as the chapter's words do.
func step(r *dice) call {
	if r.roll(2) == 0 {
		do := own(r)
		return call{"a call of the disk's own", do, do}
	}
	return pick(r, calls(r.name(), r.name(), r.name(), r.name())...)
}

// P21.1, P21.2, P21.3: long rows of calls, mixed with the disk's own, held against the slow pool of a disk apart.
func TestRowsAgainstSlow(t *testing.T) {
	for turn := range 90 {
		r := dice(turn)
		capacity := pick(&r, 16, 17, 40, 60, 90, 200, 400)
		d, twin := disk.New(capacity), disk.New(capacity)
		for n := range 400 {
			c := step(&r)
			what := "turn " + strconv.Itoa(turn) + ", call " + strconv.Itoa(n) + ", " + c.what
			if got, want := c.do(d), c.slow(twin); got != want {
				t.Fatalf("%s: %v, want %v", what, got, want)
			}
			same(t, what, d, told(twin))
		}
	}
}

// P21.2: the same, where there are about as many files as a disk may have.
func TestManyFilesAgainstSlow(t *testing.T) {
	all := calls("", "free-0", "free-1", "free-2", "a", "aaa")
	for _, n := range []int{maxFiles - 4, maxFiles - 3} {
		for _, own := range []string{"", "free-0:17", "free-0:3", "free-1:17", "free-1:3", "free-2:17", "free-0:2 free-1:3", "free-0:3 free-1:17 free-2:17", "free-0:17 free-1:17 free-2:17", "free-0:1 free-1:1 free-2:1"} {
			for _, other := range []string{"", "a:17", "a:17 b:17", "a:17 b:17 c:17", "a:17 b:17 c:17 d:1"} {
				text := join(many(n), own, other)
				if len(specs(text)) > maxFiles {
					continue
				}
				for fail := -1; fail < 3; fail++ {
					againstSlow(t, all, text, 100, fail)
				}
			}
		}
	}
}
