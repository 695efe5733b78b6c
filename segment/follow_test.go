package segment

import (
	"strconv"
	"testing"

	"strandline/api"
	"strandline/disk"
)

// crashes are such that keep none, all, each one alone, all but one, and tear one at many places; so many sectors may wait.
func crashes(waiting int) []api.Crash {
	l := []api.Crash{{}, {Torn: -1}, {Keep: ones(waiting), Torn: -1}, {Keep: ones(waiting + 9), Torn: waiting}}
	for i := range waiting {
		alone, but := make([]byte, 20), ones(waiting)
		alone[i/8] = 1 << (i % 8)
		but[i/8] &^= 1 << (i % 8)
		l = append(l, api.Crash{Keep: alone, Torn: -1}, api.Crash{Keep: but, Torn: -1})
		for _, cut := range []int{1, 4, 5, 13, 37, 41, 63} {
			l = append(l, api.Crash{Torn: i, Cut: cut}, api.Crash{Keep: ones(waiting), Torn: i, Cut: cut})
		}
	}
	return l
}

// pools are texts of what the file that is taken may have had, lasting and seen, beside other files that wait.
func pools() []string {
	var l []string
	for _, first := range []string{"", "@0", "@x", "@9/9", "@5/12", "@9/9>0", "@0>9/9", "@9/9>5/12", "@5/12~37", "@x>8/12"} {
		l = append(l, "a:17 free-0:17@3/3 free-1:17"+first+" wal-1:17@4/1 z:5", "a:3 free-1:4 free-2:17"+first+" wal-11:17@4/11>0")
	}
	return append(l, "", "a:17 wal-1:17@4/1", "free-0:17@9/12 free-2:3@9/9")
}

// begunBehind holds a disk on which one was begun against P22.3: it has its header, and is empty, lasting and seen.
func begunBehind(t *testing.T, what string, d *disk.Disk, h api.Header) {
	t.Helper()
	got, e := Header(d, h.Seq)
	if got != h || e != api.OK {
		t.Fatalf("%s: header %v, error %d", what, got, e)
	}
	l, e := Sectors(d, h.Seq)
	if e != api.OK || len(l) != most {
		t.Fatalf("%s: %d sectors, error %d", what, len(l), e)
	}
	for i, s := range l {
		if (s != api.Sec{}) {
			t.Fatalf("%s: sector %d: %v", what, i, s)
		}
	}
}

// P22.3: behind a Begin and any crash the segment has its header, and is empty, whatever the taken file had; so it has behind a second crash.
func TestEmptyBehindCrash(t *testing.T) {
	for _, files := range pools() {
		for _, h := range []api.Header{head(5, 12), {Epoch: 1, Seq: mostLSN, First: 1}} {
			begun := laid(t, files, whole)
			fine(t, Begin(begun, h))
			begunBehind(t, files, begun, h)
			for i, c := range crashes(begun.Waiting()) {
				d := begun.Clone()
				d.Crash(c)
				what := files + ", crash " + strconv.Itoa(i)
				begunBehind(t, what, d, h)
				if Newest(d) < h.Epoch {
					t.Fatalf("%s: Newest = %d", what, Newest(d))
				}
				d.Crash(api.Crash{})
				begunBehind(t, what, d, h)
			}
		}
	}
}

// P22.3: the same of a file all of whose sectors wait, each of any bytes.
func TestEmptyOverWaiting(t *testing.T) {
	h := head(5, 12)
	for at := range whole {
		d := laid(t, "free-1:17@9/9", 0)
		fine(t, d.Sync("free-1"))
		fine(t, d.Write("free-1", at, marks("w", whole-at)))
		fine(t, d.Write("free-1", 0, []api.Sec{sectorOf("8/12")}))
		fine(t, Begin(d, h))
		if d.Waiting() != 0 {
			t.Errorf("from %d on: %d sectors wait", at, d.Waiting())
		}
		d.Crash(api.Crash{Keep: ones(whole), Torn: 0, Cut: 30})
		begunBehind(t, "from "+strconv.Itoa(at)+" on", d, h)
	}
}

// P22.3: wherever the power goes in a Begin, and whatever is kept: there is no such segment, or it has its header, and is empty.
func TestPowerGoes(t *testing.T) {
	h := head(5, 12)
	for _, files := range pools() {
		for fail := range 5 {
			fallen := laid(t, files, whole)
			fine(t, fallen.Fail(fail))
			e := Begin(fallen, h)
			if (e == api.OK) == fallen.Down() {
				t.Fatalf("%s, op %d fails: error %d", files, fail, e)
			}
			for i, c := range crashes(fallen.Waiting()) {
				d := fallen.Clone()
				d.Crash(c)
				what := files + ", op " + strconv.Itoa(fail) + " fails, crash " + strconv.Itoa(i)
				if e == api.OK {
					begunBehind(t, what, d, h)
					continue
				}
				if got, e := Header(d, h.Seq); (got != api.Header{}) || e != api.ErrNone {
					t.Fatalf("%s: header %v, error %d", what, got, e)
				}
				fine(t, Begin(d, h))
				begunBehind(t, what, d, h)
			}
		}
	}
}

// P22.1, P22.3: behind a Prepare any crash leaves its sectors, also where a live segment was prepared again.
func TestPreparedBehindCrash(t *testing.T) {
	for _, first := range []string{"@4/12", "@0", "", "@x>4/12", "@6/12>0"} {
		prepared := laid(t, "a:17 wal-12:17"+first, 0)
		fine(t, Prepare(prepared, "wal-12", head(5, 12), marks("d", 7)))
		for _, c := range crashes(prepared.Waiting()) {
			d := prepared.Clone()
			d.Crash(c)
			h, e := Header(d, 12)
			l, e2 := Sectors(d, 12)
			want := append(marks("d", 7), make([]api.Sec, most-7)...)
			if h != head(5, 12) || e != api.OK || !(answer{data: l, e: e2}).equal(answer{data: want}) {
				t.Fatalf("%s: %v, %s, errors %d, %d", first, h, begins(l), e, e2)
			}
		}
	}
}
