package pool

import (
	"reflect"
	"testing"

	"strandline/api"
	"strandline/disk"
)

// P21.3: what was given is taken, with its bytes, lasting and seen, and what waits of it, as they were.
func TestGivenIsTaken(t *testing.T) {
	for _, g := range []struct{ name, files string }{
		{"a", "a:17"},
		{"a", "a:17 free-0:17"},
		{"a", "a:17 free-0:3 free-1:5"},
		{"a", "a:17 free-2:17"},
		{"a", "a:17 free-2:18"},
		{"wal-1", "free-1:16 wal-1:17 wal-2:17"},
		{"free-0", "free-0:17"},
		{"free-1", "free-0:17 free-1:17"},
		{"free-2", "a:17 free-2:17"},
	} {
		d := laid(t, g.files, 0)
		waiting := d.Waiting()
		fine(t, Give(d, g.name))
		name, e := Take(d)
		fine(t, e)
		bytesOf(t, d, name, g.name, segment)
		if d.Waiting() != waiting || d.Size(g.name) != 0 && g.name != name {
			t.Errorf("give %s of %s: Waiting = %d, want %d; left are %v", g.name, g.files, d.Waiting(), waiting, d.List())
		}
		fine(t, d.Sync(name))
		d.Crash(api.Crash{Torn: -1})
		_, seen := secs(g.name, segment)
		if got, e := d.Read(name, 0, segment); e != api.OK || !reflect.DeepEqual(got, seen) {
			t.Errorf("give %s of %s: a sync has other bytes lasting, error %d", g.name, g.files, e)
		}
	}
}

// P21.3: some are given; all of them that have room in the pool are taken, the one that was given first ahead.
func TestAllGivenAreTaken(t *testing.T) {
	d := laid(t, "a:17 b:17 c:17 d:3 e:17", 0)
	for _, name := range []string{"c", "d", "a", "e"} {
		fine(t, Give(d, name))
	}
	if Count(d) != 2 || d.Size("e") != 0 || d.Size("d") != 0 {
		t.Errorf("Count = %d, files %v", Count(d), d.List())
	}
	for i, origin := range []string{"c", "a"} {
		name, e := Take(d)
		fine(t, e)
		bytesOf(t, d, name, origin, segment)
		fine(t, d.Rename(name, []string{"wal-8", "wal-9"}[i]))
	}
	untouched(t, d, "b", segment)
	bytesOf(t, d, "wal-8", "c", segment)
	bytesOf(t, d, "wal-9", "a", segment)
	if Count(d) != 0 || len(d.List()) != 3 {
		t.Errorf("Count = %d, files %v", Count(d), d.List())
	}
}

// P21.3: what was given is lasting at once as a file of the pool: a crash behind it changes no more than what waits.
func TestGivenBehindCrash(t *testing.T) {
	for _, kept := range []bool{false, true} {
		d := laid(t, "a:17 free-1:17", 0)
		fine(t, Give(d, "a"))
		c := api.Crash{Torn: -1}
		if kept {
			c.Keep = ones(d.Waiting())
		}
		d.Crash(c)
		lasting, seen := secs("a", segment)
		if kept {
			lasting = seen
		}
		got, e := d.Read("free-2", 0, segment)
		fine(t, e)
		if Count(d) != 2 || !reflect.DeepEqual(got, lasting) {
			t.Errorf("kept %v: Count = %d", kept, Count(d))
		}
	}
}

// P21.3: no other file is changed: each file that a call does not name is there with its bytes, in each state, for each call.
func TestNoOtherFile(t *testing.T) {
	for _, text := range states() {
		for _, c := range calls(names()...) {
			d := laid(t, text, 40)
			c.do(d)
			for _, f := range specs(text) {
				free := f.name == "free-0" || f.name == "free-1" || f.name == "free-2"
				if free && f.n != segment || c.what == "give "+f.name {
					continue
				}
				untouched(t, d, f.name, f.n)
			}
		}
	}
}

// P21.2, P21.3: what is given and taken in turn needs no room beyond what there is.
func TestGiveTakeInTurn(t *testing.T) {
	d := disk.New(2 * segment)
	fine(t, Spare(d))
	name, e := Take(d)
	fine(t, e)
	for i := range 100 {
		fine(t, d.Rename(name, "wal-1"))
		fine(t, d.Write("wal-1", i%segment, []api.Sec{mark("w", i)}))
		fine(t, Give(d, "wal-1"))
		fine(t, Clean(d))
		fine(t, Spare(d))
		if name, e = Take(d); name != "free-1" || e != api.OK {
			t.Fatalf("turn %d: %s, error %d", i, name, e)
		}
		got, e := d.Read(name, i%segment, 1)
		if e != api.OK || got[0] != mark("w", i) {
			t.Fatalf("turn %d: other bytes, error %d", i, e)
		}
	}
	if d.Ops() != 2+300 || d.Used() != 2*segment || Count(d) != 1 {
		t.Errorf("Ops, Used, Count = %d, %d, %d", d.Ops(), d.Used(), Count(d))
	}
}
