package live

import (
	"fmt"
	"slices"
	"testing"

	"strandline/api"
	"strandline/crash"
	"strandline/disk"
	"strandline/segment"
	"strandline/writer"
)

// book is a log that is written by the layers below: what was written to the disk, as it is wanted.
type book struct {
	t      *testing.T
	d      *disk.Disk
	w      *writer.Writer
	l      []Segment
	synced int // how many of all records are lasting
}

// newBook is one on a disk, some of whose free files had segments of elder epochs, with records that would go on in this log.
func newBook(t *testing.T, used bool, first api.Header) *book {
	t.Helper()
	b := &book{t: t, d: disk.New(400)}
	if used {
		old := grown(api.Header{Epoch: 1, Seq: first.Seq, First: first.First, Heads: first.Heads}, []int{0, 1, 2, 3, 0, 1, 2, 3, 0, 1}, []int{1, 1, 1, 1, 1, 1, 1, 1, 1, 1, 1, 1, 1})
		f := files(t, old)
		f[0].Name, f[1].Name = "free-1", "free-2"
		b.d = laid(t, append(f, api.File{Name: "a", L: marks("a", 3)})...)
	}
	fine(t, b.begin(first))
	return b
}

// begin begins a segment.
func (b *book) begin(h api.Header) api.Errno {
	e := segment.Begin(b.d, h)
	if e == api.OK {
		b.l, b.w = append(b.l, seg(h)), writer.New(b.d, h, nil, 0)
	}
	return e
}

// add appends a record of that chain, with n bytes of Data; if it has no room, the log rolls over.
func (b *book) add(chain, n int) api.Errno {
	next := slowNext(b.l)
	r := api.Rec{Kind: 1 + next%9, Chain: chain, LSN: next, Prev: slowHeads(b.l)[chain], Data: mixed(next, n)}
	if !b.w.Fits(len(bytesOf(r))) {
		if e := b.roll(true); e != api.OK {
			return e
		}
	}
	at, e := b.w.Append(bytesOf(r))
	if e == api.OK {
		s := &b.l[len(b.l)-1]
		s.Recs, s.Places, s.End = append(s.Recs, r), append(s.Places, at), b.w.End()
	}
	return e
}

// sync makes all records of the last segment lasting.
func (b *book) sync() api.Errno {
	e := b.w.Sync()
	if e == api.OK {
		b.synced = len(b.recs())
	}
	return e
}

// roll begins the next segment, mostly behind a Sync of the last one.
func (b *book) roll(sync bool) api.Errno {
	if sync {
		if e := b.sync(); e != api.OK {
			return e
		}
	}
	last := b.l[len(b.l)-1].H
	return b.begin(api.Header{Epoch: last.Epoch + 1 + last.Epoch%3, Seq: last.Seq + 1, First: slowNext(b.l), Heads: slowHeads(b.l)})
}

// recs are all records that were written.
func (b *book) recs() []api.Rec {
	var l []api.Rec
	for _, s := range b.l {
		l = append(l, s.Recs...)
	}
	return l
}

// beginning fails, unless what is loaded are the segments that were written, but of the last one just some first records, all that are lasting among them.
func (b *book) beginning(what any, d *disk.Disk) {
	b.t.Helper()
	got, e := asSlow(b.t, what, d)
	if e != api.OK || len(got) != len(b.l) {
		b.t.Fatalf("%v: %s, error %d, not a beginning of %s", what, text(got), e, text(b.l))
	}
	n := 0
	for i, s := range got {
		want := b.l[i]
		if i < len(got)-1 && s.Kind != clean || len(s.Recs) > len(want.Recs) {
			b.t.Fatalf("%v: %s", what, text(got))
		}
		first := seg(want.H, want.Recs[:len(s.Recs)]...)
		first.Kind = s.Kind
		if !same(got[i:i+1], []Segment{first}) {
			b.t.Fatalf("%v: %s, not a beginning of %s", what, text(got), text(b.l))
		}
		n += len(s.Recs)
	}
	if n < b.synced {
		b.t.Fatalf("%v: just %d records, though %d were synced", what, n, b.synced)
	}
}

// crashes are some of all kinds: they keep none, all, each choice of a few, and any.
func crashes(n *dice, waits int) []api.Crash {
	l := []api.Crash{{Torn: -1}, {Keep: ones(waits), Torn: -1}, {Keep: n.bytes(9), Torn: -1}, {Keep: n.bytes(9), Torn: -1}}
	if waits <= 3 {
		l = append(l, crash.All(waits)...)
	}
	return l
}

// tears are some that tear one sector.
func tears(n *dice, waits int) []api.Crash {
	var l []api.Crash
	for i := range waits {
		l = append(l, api.Crash{Keep: n.bytes(9), Torn: i, Cut: pick(n, 1, 4, 8, 11, 12, 13, 16, 19, 23, 24, 40, 63)})
	}
	return l
}

// behindCrashes holds what is loaded behind crashes of all kinds.
func (b *book) behindCrashes(n *dice, what any) {
	b.t.Helper()
	for _, c := range crashes(n, b.d.Waiting()) {
		left := b.d.Clone()
		left.Crash(c)
		b.beginning(fmt.Sprint(what, ", behind ", c), left)
	}
	for _, c := range tears(n, b.d.Waiting()) {
		left := b.d.Clone()
		left.Crash(c)
		if _, e := asSlow(b.t, fmt.Sprint(what, ", behind ", c), left); e != api.OK {
			b.t.Fatalf("%v, behind %v: error %d", what, c, e)
		}
	}
}

// step is something that is done with a log.
type step func(b *book) api.Errno

// steps are those that are told: a record's chain and how many bytes its Data has, a Sync, or rolling over.
func steps(l ...any) []step {
	var out []step
	for _, x := range l {
		switch x := x.(type) {
		case [2]int:
			out = append(out, func(b *book) api.Errno { return b.add(x[0], x[1]) })
		case string:
			out = append(out, map[string]step{
				"sync": (*book).sync,
				"roll": func(b *book) api.Errno { return b.roll(true) },
			}[x])
		}
	}
	return out
}

// histories are some rows of steps.
func histories() [][]step {
	many := []any{}
	for i := range 60 {
		many = append(many, [2]int{i * i % chains, i * 17 % 90})
		if i%7 == 6 {
			many = append(many, "sync")
		}
	}
	return [][]step{
		steps("roll", "roll", "roll"),
		steps([2]int{0, 10}, "sync", [2]int{1, 10}),
		steps([2]int{2, 10}, [2]int{2, 100}, "roll", [2]int{2, 10}, [2]int{0, 200}, "sync", "roll", "roll", [2]int{2, 3}),
		steps([2]int{0, 400}, [2]int{1, 400}, [2]int{0, 400}, [2]int{3, 400}, "sync", [2]int{0, 400}),
		steps("sync", [2]int{1, 0}, [2]int{1, 0}, "sync", [2]int{1, 0}, "roll", "sync", [2]int{3, 0}, "sync", "roll"),
		steps(many...),
	}
}

// P25.2, P25.3: of what is begun and written, step by step: all of it, and behind crashes of all kinds a beginning.
func TestHistories(t *testing.T) {
	for k, history := range histories() {
		for _, used := range []bool{false, true} {
			n := dice(k)
			b := newBook(t, used, heading(uint64(5+k), 7+k))
			for i, s := range history {
				fine(t, s(b))
				what := fmt.Sprintf("history %d, step %d", k, i)
				loads(t, what, b.d, b.l, api.OK)
				b.behindCrashes(&n, what)
			}
		}
	}
}

// P25.2, P25.3: wherever the power goes: while it is gone ErrDown, and behind crashes of all kinds a beginning.
func TestPowerGoes(t *testing.T) {
	for k, history := range histories() {
		for _, used := range []bool{false, true} {
			for after := 0; ; after++ {
				n := dice(100*k + after)
				b := newBook(t, used, heading(uint64(5+k), 7+k))
				fine(t, b.d.Fail(after))
				for _, s := range history {
					if s(b) != api.OK {
						break
					}
				}
				if !b.d.Down() {
					break
				}
				what := fmt.Sprintf("history %d, behind %d ops", k, after)
				refuses(t, what, b.d, api.ErrDown)
				b.behindCrashes(&n, what)
			}
		}
	}
}

// P25.3: a log that rolled over without a Sync of the last segment: behind crashes that is what the chapter says, be it none.
func TestRolledUnsynced(t *testing.T) {
	n := tally{}
	for turn := range 300 {
		r := dice(turn)
		b := newBook(t, turn%2 == 0, heading(uint64(2+turn), 1+turn))
		for range 1 + r.roll(3) {
			for range r.roll(4) {
				fine(t, b.add(r.roll(chains), r.roll(60)))
			}
			fine(t, b.roll(r.roll(3) == 0))
		}
		fine(t, b.add(r.roll(chains), r.roll(60)))
		loads(t, turn, b.d, b.l, api.OK)
		for _, c := range slices.Concat(crashes(&r, b.d.Waiting()), tears(&r, b.d.Waiting())) {
			left := b.d.Clone()
			left.Crash(c)
			_, e := asSlow(t, fmt.Sprint(turn, ", behind ", c), left)
			n[e]++
		}
	}
	n.more(t, 500, api.OK, api.ErrCorrupt)
}
