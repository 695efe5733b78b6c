package segment

import (
	"slices"
	"testing"

	"strandline/api"
)

// P22.1: what is handed in is neither changed nor kept, nor is the room behind its end.
func TestDataApart(t *testing.T) {
	for n := range most + 3 {
		for _, fail := range []int{0, 1, 9} {
			room := marks("d", n+5)
			data := room[: n : n+2]
			was := slices.Clone(room)
			d := laid(t, "a:17", 0)
			fine(t, d.Fail(fail))
			Prepare(d, "a", head(5, 1), data)
			if !slices.Equal(room, was) {
				t.Fatalf("%d sectors, op %d fails: data is changed", n, fail)
			}
			left := told(d)
			for i := range room {
				room[i] = mark("other", i)
			}
			same(t, "data is changed behind the call", d, left)
		}
	}
}

// P22.2: what Sectors answers is new memory: changing it changes neither the disk nor another answer.
func TestSectorsApart(t *testing.T) {
	for _, first := range []string{"@5/1", "@0>5/1"} {
		d := laid(t, "wal-1:17"+first+" wal-2:17@6/2", 0)
		left := told(d)
		one, e := Sectors(d, 1)
		fine(t, e)
		two, e := Sectors(d, 1)
		fine(t, e)
		was := slices.Clone(two)
		for i := range one {
			one[i] = mark("other", i)
		}
		same(t, "the answer is changed", d, left)
		three, e := Sectors(d, 1)
		fine(t, e)
		if !slices.Equal(two, was) || !slices.Equal(three, was) {
			t.Errorf("%s: another answer is changed", first)
		}
		fine(t, d.Write("wal-1", 0, marks("w", whole)))
		if !slices.Equal(two, was) {
			t.Errorf("%s: an answer follows the disk", first)
		}
	}
}

// P22.1, P22.2: what is done to a clone changes nothing of the disk, nor the other way round; both answer the same.
func TestClone(t *testing.T) {
	for _, text := range states() {
		for _, more := range []int{0, 17} {
			for _, c := range calls() {
				d := laid(t, text, more)
				twin, was := d.Clone(), told(d)
				got := c.do(twin)
				same(t, c.what+" of the clone of "+text, d, was)
				then := told(twin)
				c.goesBy(t, d, got, then)
				same(t, c.what+" of "+text+", the clone", twin, then)
			}
		}
	}
}

// P22.1, P22.2: no other file is changed: those that aren't named by the call are there as they were, and no further ones, whichever op fails.
func TestNoOtherFile(t *testing.T) {
	for _, text := range states() {
		for _, c := range calls() {
			for _, fail := range []int{0, 1, 2, 3, 9} {
				d := laid(t, text, 40)
				before := told(d)
				fine(t, d.Fail(fail))
				c.do(d)
				if d.Down() {
					before = before.fallen()
				}
				after := told(d)
				for _, name := range c.names {
					before, after = before.without(name), after.without(name)
				}
				if !slices.EqualFunc(before.files, after.files, fileState.equal) {
					t.Fatalf("%s of %s, op %d fails: %s\nwas: %s", c.what, text, fail, short(after), short(before))
				}
			}
		}
	}
}

// P22.1: Begin changes just the first file of the pool but the spare, and no file that it doesn't take.
func TestBeginLeavesPool(t *testing.T) {
	for _, c := range []struct{ files, taken string }{
		{"free-0:17@9/9 free-1:17 free-2:17@8/8 free-3:17 wal-1:17@1/1", "free-1"},
		{"free-0:17@9/9 free-1:16 free-2:17@8/8 free-3:17 wal-1:17@1/1", "free-2"},
		{"free-0:3@9/9 free-2:17 wal-1:17@1/1>0", "free-2"},
	} {
		d := laid(t, c.files, 100)
		before := told(d).without(c.taken)
		fine(t, Begin(d, head(5, 12)))
		after := told(d).without("wal-12")
		if !slices.EqualFunc(after.files, before.files, fileState.equal) {
			t.Errorf("%s: left are %s, want %s", c.files, short(after), short(before))
		}
	}
}

// P22.1, P22.2: without an error that the chapter names a call is answered OK; beside an error there is nothing.
func TestErrors(t *testing.T) {
	allowed := map[string][]api.Errno{
		"prepare": {api.OK, api.ErrArg, api.ErrNone, api.ErrRange},
		"begin":   {api.OK, api.ErrArg, api.ErrThere, api.ErrFull},
		"header":  {api.OK, api.ErrArg, api.ErrNone, api.ErrCorrupt},
		"sectors": {api.OK, api.ErrArg, api.ErrNone, api.ErrCorrupt},
		"newest":  {api.OK},
	}
	for _, text := range states() {
		for _, more := range []int{0, 16, 17, 100} {
			for _, c := range calls() {
				got := c.do(laid(t, text, more))
				if !slices.Contains(allowed[c.kind], got.e) || got.e != api.OK && !got.equal(failed(got.e)) {
					t.Errorf("%s of %s: %v", c.what, text, got)
				}
			}
		}
	}
}
