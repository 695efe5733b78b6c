package segment

import (
	"testing"

	"strandline/api"
	"strandline/disk"
)

// P22.1: the chapter's example: Begin on an empty disk of 17 sectors does Make, Write, Sync, Rename, in this order.
func TestExample(t *testing.T) {
	h := head(5, 12)
	laid := slowLaid(h, nil)
	none := make([]api.Sec, whole)
	empty := told(disk.New(whole))
	made := empty.synced("free-1", none)
	for ops, left := range []state{
		empty,
		made,
		made.with("free-1", none, laid, whole),
		made.synced("free-1", laid),
	} {
		d := disk.New(whole)
		fine(t, d.Fail(ops))
		beginOf(h).goesBy(t, d, failed(api.ErrDown), left.done(ops).fallen())
	}
	d := disk.New(whole)
	left := empty.synced("wal-12", laid).done(4)
	beginOf(h).goesBy(t, d, answer{}, left)
	headerOf(12).goesBy(t, d, answer{h: h}, left)
	sectorsOf(12).goesBy(t, d, answer{data: make([]api.Sec, most)}, left)
	newestOf().goesBy(t, d, answer{epoch: 5}, left)
}

// P22.1: what is written, byte by byte: the sector of layer 18's fields with the masked sum, and empty ones.
func TestBytes(t *testing.T) {
	d := disk.New(whole)
	fine(t, Begin(d, api.Header{Epoch: 0x0807060504030201, Seq: 258, First: 9, Heads: [heads]int{8, 0, 5, 1}}))
	want := api.Sec{
		's', 't', 'r', 'd', 1, 1, 2, 3, 4, 5, 6, 7, 8, 2, 1, 0, 0, 9, 0, 0, 0,
		8, 0, 0, 0, 0, 0, 0, 0, 5, 0, 0, 0, 1, 0, 0, 0, 0x89, 0xf4, 0xa6, 0x0e,
	}
	l, e := d.Read("wal-258", 0, whole)
	if e != api.OK || l[0] != want {
		t.Errorf("%v, error %d, want %v", l[0], e, want)
	}
	for i := 1; i < whole; i++ {
		if (l[i] != api.Sec{}) {
			t.Errorf("sector %d: %v", i, l[i])
		}
	}
}

// P22.1, P22.2: all calls of no disk: but for a wrong header, too many sectors, and a number without a live name, ErrState.
func TestNil(t *testing.T) {
	d := disk.New(0)
	for _, c := range calls() {
		want := failed(api.ErrState)
		switch c.slow(d).e {
		case api.ErrArg:
			want = failed(api.ErrArg)
		case api.OK:
			want = answer{}
		}
		if got := c.do(nil); !got.equal(want) {
			t.Errorf("%s of nil: %v, want %v", c.what, got, want)
		}
	}
}

// P22.1, P22.2: the five calls of no disk.
func TestNilEach(t *testing.T) {
	if e := Prepare(nil, "a", head(5, 1), nil); e != api.ErrState {
		t.Errorf("Prepare: error %d", e)
	}
	if e := Begin(nil, head(5, 1)); e != api.ErrState {
		t.Errorf("Begin: error %d", e)
	}
	if h, e := Header(nil, 1); (h != api.Header{}) || e != api.ErrState {
		t.Errorf("Header: %v, error %d", h, e)
	}
	if l, e := Sectors(nil, 1); len(l) != 0 || e != api.ErrState {
		t.Errorf("Sectors: %v, error %d", l, e)
	}
	if n := Newest(nil); n != 0 {
		t.Errorf("Newest: %d", n)
	}
}

// P22.1, P22.2: all calls of a disk that is down, also such as would do nothing, or find an error behind ErrDown; nothing is changed.
func TestDown(t *testing.T) {
	for _, text := range states() {
		d := laid(t, text, 40)
		goDown(t, d)
		left := told(d)
		for _, c := range calls() {
			want := failed(api.ErrDown)
			switch c.slow(d.Clone()).e {
			case api.ErrArg:
				want = failed(api.ErrArg)
			case api.OK:
				want = answer{epoch: Newest(laid(t, text, 40))}
			}
			c.goesBy(t, d, want, left)
		}
	}
}

// failing is a call of a disk whose op behind so many ones fails.
type failing struct {
	files string
	fail  int
	c     call
	want  answer
	left  func(was state) state
}

// failings are calls of no op, of two, of three and of four, whose next op fails, the one behind it, and each later one.
func failings() []failing {
	h := head(5, 1)
	data := marks("d", 3)
	none, down := make([]api.Sec, whole), failed(api.ErrDown)
	empty := slowLaid(h, nil)
	prepare, begin := prepareOf("a", h, data), beginOf(h)
	was := func(s state) state { return s }
	fallen := func(s state) state { return s.fallen() }
	written := func(s state) state {
		lasting, _ := secs(spec{name: "a", n: whole})
		return s.with("a", lasting, slowLaid(h, data), whole).done(1).fallen()
	}
	synced := func(s state) state { return s.synced("a", slowLaid(h, data)).done(2) }
	made := func(s state) state { return s.synced("free-1", none).done(1).fallen() }
	waits := func(s state) state { return s.with("free-1", none, empty, whole).done(2).fallen() }
	lasts := func(s state) state { return s.synced("free-1", empty).done(3).fallen() }
	begun := func(s state) state { return s.synced("wal-1", empty).done(4) }
	taken := func(s state) state {
		lasting, _ := secs(spec{name: "free-2", n: whole})
		return s.with("free-2", lasting, empty, whole).done(1).fallen()
	}
	kept := func(s state) state { return s.synced("free-2", empty).done(2).fallen() }
	renamed := func(s state) state { return s.without("free-2").synced("wal-1", empty).done(3) }
	return []failing{
		{"a:17 z:2", 0, prepare, down, fallen},
		{"a:17 z:2", 1, prepare, down, written},
		{"a:17 z:2", 2, prepare, answer{}, synced},
		{"a:17 z:2", 3, prepare, answer{}, synced},
		{"a:17 z:2", 9, prepare, answer{}, synced},
		{"a:16 z:2", 0, prepare, failed(api.ErrRange), was},
		{"z:17", 0, prepare, failed(api.ErrNone), was},
		{"a:17", 0, prepareOf("a", head(0, 1), nil), failed(api.ErrArg), was},
		{"a:17 free-0:17", 0, begin, down, fallen},
		{"a:17 free-0:17", 1, begin, down, made},
		{"a:17 free-0:17", 2, begin, down, waits},
		{"a:17 free-0:17", 3, begin, down, lasts},
		{"a:17 free-0:17", 4, begin, answer{}, begun},
		{"a:17 free-0:17", 5, begin, answer{}, begun},
		{"a:17 free-0:17", 12, begin, answer{}, begun},
		{"a:17 free-1:3 free-2:17 wal-2:17", 0, begin, down, fallen},
		{"a:17 free-1:3 free-2:17 wal-2:17", 1, begin, down, taken},
		{"a:17 free-1:3 free-2:17 wal-2:17", 2, begin, down, kept},
		{"a:17 free-1:3 free-2:17 wal-2:17", 3, begin, answer{}, renamed},
		{"a:17 free-1:3 free-2:17 wal-2:17", 4, begin, answer{}, renamed},
		{"a:17 free-1:3 free-2:17 wal-2:17", 11, begin, answer{}, renamed},
		{"free-1:17 wal-1:3", 0, begin, failed(api.ErrThere), was},
		{"free-1:3 free-2:4", 0, begin, failed(api.ErrFull), was},
		{"free-1:17", 0, beginOf(head(5, 0)), failed(api.ErrArg), was},
		{"wal-1:17@4/1", 0, headerOf(1), answer{h: head(4, 1)}, was},
		{"wal-1:17@4/2", 0, headerOf(1), failed(api.ErrCorrupt), was},
		{"wal-2:17@4/2", 0, headerOf(1), failed(api.ErrNone), was},
		{"wal-1:17@4/1", 0, newestOf(), answer{epoch: 4}, was},
		{"wal-1:16@4/1", 0, sectorsOf(1), failed(api.ErrCorrupt), was},
	}
}

// P22.1, P22.2: the first error ends a call, what was done ahead of it stays done; a call that does no op sees no Fail.
func TestFail(t *testing.T) {
	for _, f := range failings() {
		d := laid(t, f.files, 40)
		before := told(d)
		fine(t, d.Fail(f.fail))
		left := f.left(before)
		if !left.down {
			left.until = f.fail - (left.ops - before.ops)
		}
		f.c.goesBy(t, d, f.want, left)
	}
}

// P22.1, P22.2: whichever later op would fail, a call that does fewer ones answers as if no Fail were told, and leaves the same.
func TestFailLater(t *testing.T) {
	for _, text := range states() {
		for _, c := range calls() {
			plain := laid(t, text, 40)
			before := plain.Ops()
			want := c.do(plain)
			ops := plain.Ops() - before
			for _, fail := range []int{ops, ops + 1, ops + 2, ops + 7} {
				d := laid(t, text, 40)
				fine(t, d.Fail(fail))
				left := told(plain)
				left.until = fail - ops
				c.goesBy(t, d, want, left)
			}
		}
	}
}

// P22.1: how many ops each call does that finds no error: Prepare a Write and a Sync, Begin these and a Rename, and a Make if it must; the others none.
func TestOps(t *testing.T) {
	for _, c := range []struct {
		files string
		c     call
		ops   int
	}{
		{"a:17", prepareOf("a", head(5, 1), nil), 2},
		{"a:17", prepareOf("a", head(5, 1), marks("d", most)), 2},
		{"", beginOf(head(5, 1)), 4},
		{"free-0:17", beginOf(head(5, 1)), 4},
		{"free-1:3", beginOf(head(5, 1)), 4},
		{"free-1:17", beginOf(head(5, 1)), 3},
		{"free-2:17", beginOf(head(5, 1)), 3},
		{"wal-1:17@5/1", headerOf(1), 0},
		{"wal-1:17@5/1", sectorsOf(1), 0},
		{"wal-1:17@5/1", newestOf(), 0},
		{"wal-1:17@0>5/1", headerOf(1), 0},
		{"wal-1:17@0>5/1", sectorsOf(1), 0},
		{"wal-1:17@0>5/1", newestOf(), 0},
	} {
		d := laid(t, c.files, 40)
		ops := d.Ops()
		if got := c.c.do(d); got.e != api.OK || d.Ops() != ops+c.ops {
			t.Errorf("%s of %s: error %d, %d ops, want %d", c.c.what, c.files, got.e, d.Ops()-ops, c.ops)
		}
	}
}
