package pool

import (
	"slices"
	"testing"

	"strandline/api"
	"strandline/disk"
)

// P21.2: the chapter's example: of a disk without a pool free-1 is made.
func TestExample(t *testing.T) {
	d := disk.New(100)
	name, e := Take(d)
	if name != "free-1" || e != api.OK || Count(d) != 1 {
		t.Errorf("Take = %s, %d, Count = %d", name, e, Count(d))
	}
	same(t, "made", d, wanted("free-1=new:17", 1))
}

// P21.1, P21.2: all calls of no disk.
func TestNil(t *testing.T) {
	for _, c := range calls("", "a", "free-0", "free-1", "free-2") {
		want := answer{e: api.ErrState}
		if c.what == "count" {
			want = answer{}
		}
		if got := c.do(nil); got != want {
			t.Errorf("%s of nil: %v, want %v", c.what, got, want)
		}
	}
}

// states are texts of files, by rising names, in which each call has something to do, or nothing, or an error of its own.
func states() []string {
	return []string{
		"",
		"a:17",
		"a:17 b:3",
		"free-0:17",
		"a:17 b:3 free-0:17 free-1:17 free-2:17",
		"a:17 b:3 free-0:5 free-1:6 free-2:7",
		"a:17 free-0:5 free-1:17 free-2:18",
		"free-1:17",
		"free-2:17",
		"free-1:4 wal-1:17",
		"free-0:16",
		join(many(maxFiles-1), "free-0:3"),
		join(many(maxFiles)),
	}
}

// names are those that Give is asked for in these states.
func names() []string {
	return append(frees(), "", "a", "b", "aaa", "wal-1", "free-3", "Free-1", "nothing")
}

// P21.1, P21.2: all calls of a disk that is down, also such as would do nothing, or find another error; nothing is changed.
func TestDown(t *testing.T) {
	for _, text := range states() {
		// A disk without files and without room has no op at which the power could go.
		for _, more := range []int{1, segment, 1000} {
			d := laid(t, text, more)
			ops, count := d.Ops(), Count(d)
			fine(t, d.Fail(0))
			goDown(t, d)
			want := wanted(text, ops)
			want.down, want.until = true, -1
			for _, c := range calls(names()...) {
				wantAnswer := answer{e: api.ErrDown}
				if c.what == "count" {
					wantAnswer = answer{n: count}
				}
				if got := c.do(d); got != wantAnswer {
					t.Errorf("%s of %s that is down: %v, want %v", c.what, text, got, wantAnswer)
				}
				same(t, c.what+" of "+text+" that is down", d, want)
			}
		}
	}
}

// goDown does an op of a disk whose next one fails.
func goDown(t *testing.T, d *disk.Disk) {
	t.Helper()
	if l := d.List(); len(l) > 0 {
		d.Sync(l[0])
	} else {
		d.Make("x", 1)
	}
	if !d.Down() {
		t.Fatal("the disk is up")
	}
}

// failing is a call of a disk whose op behind so many ones fails.
type failing struct {
	what, files string
	more, fail  int
	do          func(d *disk.Disk) answer
	want        answer
	left        string
	ops         int
	down        bool
}

// failings are calls of no op, of one, and of more, whose next op fails, the one behind it, and each later one.
func failings() []failing {
	give := giveOf("a")
	down, full := answer{e: api.ErrDown}, answer{e: api.ErrFull}
	return []failing{
		{"spare that is there", "free-0:17", 50, 0, spareOf, answer{}, "free-0:17", 0, false},
		{"spare that is made", "a:1", 50, 0, spareOf, down, "a:1", 0, true},
		{"spare that is made", "a:1", 50, 1, spareOf, answer{}, "a:1 free-0=new:17", 1, false},
		{"spare without room", "a:1", 16, 0, spareOf, full, "a:1", 0, false},
		{"spare that is removed", "free-0:3", 50, 0, spareOf, down, "free-0:3", 0, true},
		{"spare that is removed", "a:1 free-0:3", 50, 1, spareOf, down, "a:1", 1, true},
		{"spare that is removed", "a:1 free-0:3", 50, 2, spareOf, answer{}, "a:1 free-0=new:17", 2, false},
		{"spare that is removed", "a:1 free-0:3", 50, 3, spareOf, answer{}, "a:1 free-0=new:17", 2, false},
		{"spare removed, without room", "a:1 free-0:3", 13, 0, spareOf, down, "a:1 free-0:3", 0, true},
		{"spare removed, without room", "a:1 free-0:3", 13, 1, spareOf, full, "a:1", 1, false},
		{"clean of nothing", "a:1 free-0:17 free-1:17", 50, 0, cleanOf, answer{}, "a:1 free-0:17 free-1:17", 0, false},
		{"clean of one", "free-0:17 free-1:16 free-2:17", 50, 0, cleanOf, down, "free-0:17 free-1:16 free-2:17", 0, true},
		{"clean of one", "free-0:17 free-1:16 free-2:17", 50, 1, cleanOf, answer{}, "free-0:17 free-2:17", 1, false},
		{"clean of three", "free-0:1 free-1:2 free-2:3 z:1", 50, 0, cleanOf, down, "free-0:1 free-1:2 free-2:3 z:1", 0, true},
		{"clean of three", "free-0:1 free-1:2 free-2:3 z:1", 50, 1, cleanOf, down, "free-1:2 free-2:3 z:1", 1, true},
		{"clean of three", "free-0:1 free-1:2 free-2:3 z:1", 50, 2, cleanOf, down, "free-2:3 z:1", 2, true},
		{"clean of three", "free-0:1 free-1:2 free-2:3 z:1", 50, 3, cleanOf, answer{}, "z:1", 3, false},
		{"clean of three", "free-0:1 free-1:2 free-2:3 z:1", 50, 4, cleanOf, answer{}, "z:1", 3, false},
		{"take of one", "free-1:17", 50, 0, takeOf, answer{name: "free-1"}, "free-1:17", 0, false},
		{"take of the last one", "free-1:3 free-2:17", 50, 0, takeOf, answer{name: "free-2"}, "free-1:3 free-2:17", 0, false},
		{"take of one that is made", "a:1", 50, 0, takeOf, down, "a:1", 0, true},
		{"take of one that is made", "a:1", 50, 1, takeOf, answer{name: "free-1"}, "a:1 free-1=new:17", 1, false},
		{"take without room", "a:1", 16, 0, takeOf, full, "a:1", 0, false},
		{"take of none", "free-1:3 free-2:4", 50, 0, takeOf, full, "free-1:3 free-2:4", 0, false},
		{"count", "free-0:3 free-1:17 free-2:4", 50, 0, countOf, answer{n: 1}, "free-0:3 free-1:17 free-2:4", 0, false},
		{"give of nothing", "b:17", 50, 0, give, answer{e: api.ErrNone}, "b:17", 0, false},
		{"give", "a:17", 50, 0, give, down, "a:17", 0, true},
		{"give", "a:17", 50, 1, give, answer{}, "free-1=a:17", 1, false},
		{"give of a shorter one", "a:16", 50, 0, give, down, "a:16", 0, true},
		{"give of a shorter one", "a:16 b:1", 50, 1, give, answer{}, "b:1", 1, false},
		{"give of one too many", "a:17 free-1:17 free-2:17", 50, 0, give, down, "a:17 free-1:17 free-2:17", 0, true},
		{"give of one too many", "a:17 free-1:17 free-2:17", 50, 1, give, answer{}, "free-1:17 free-2:17", 1, false},
	}
}

// P21.1, P21.2: the first error ends a call, what was done ahead of it stays done; a call that does no op sees no Fail.
func TestFail(t *testing.T) {
	for _, c := range failings() {
		d := laid(t, c.files, c.more)
		ops := d.Ops()
		fine(t, d.Fail(c.fail))
		if got := c.do(d); got != c.want {
			t.Errorf("%s, op %d fails: %v, want %v", c.what, c.fail, got, c.want)
		}
		want := wanted(c.left, ops+c.ops)
		want.down, want.until = c.down, c.fail-c.ops
		if c.down {
			want.until = -1
		}
		same(t, c.what, d, want)
	}
}

// P21.1, P21.2: whichever later op would fail, a call that does fewer ones answers as if no Fail were told, and leaves the same.
func TestFailLater(t *testing.T) {
	for _, text := range states() {
		for _, c := range calls(names()...) {
			plain := laid(t, text, 40)
			before := plain.Ops()
			want := c.do(plain)
			ops := plain.Ops() - before
			for _, fail := range []int{ops, ops + 1, ops + 2, ops + 7} {
				d := laid(t, text, 40)
				fine(t, d.Fail(fail))
				if got := c.do(d); got != want {
					t.Errorf("%s of %s, op %d fails: %v, want %v", c.what, text, fail, got, want)
				}
				left := told(plain)
				if len(left.names) > 0 {
					left.until = fail - ops
				}
				same(t, c.what+" of "+text, d, left)
			}
		}
	}
}

// P21.1, P21.2: what is done to a clone changes nothing of the disk, nor the other way round; both answer the same.
func TestClone(t *testing.T) {
	for _, text := range states() {
		for _, more := range []int{0, 16, 17, 100} {
			for _, c := range calls(names()...) {
				d := laid(t, text, more)
				twin, was := d.Clone(), told(d)
				got := c.do(twin)
				same(t, c.what+" of the clone of "+text, d, was)
				then := told(twin)
				if again := c.do(d); again != got {
					t.Errorf("%s of %s: %v, want %v as the clone told", c.what, text, again, got)
				}
				same(t, c.what+" of "+text, d, then)
				same(t, c.what+" of "+text+", the clone", twin, then)
			}
		}
	}
}

// P21.1, P21.2: without an error that is named a call is answered OK.
func TestErrors(t *testing.T) {
	allowed := map[string][]api.Errno{"spare": {api.OK, api.ErrFull}, "take": {api.OK, api.ErrFull}, "count": {api.OK}, "clean": {api.OK}}
	for _, text := range states() {
		for _, more := range []int{0, 16, 17, 100} {
			for _, c := range calls(names()...) {
				l, ok := allowed[c.what]
				if !ok {
					l = []api.Errno{api.OK, api.ErrNone}
				}
				if got := c.do(laid(t, text, more)); !slices.Contains(l, got.e) || got.e != api.OK && got != (answer{e: got.e}) {
					t.Errorf("%s of %s: %v", c.what, text, got)
				}
			}
		}
	}
}
