package disk

import (
	"reflect"
	"testing"

	"strandline/api"
)

// P8.3: a clone is as the disk is, with its Ops, its Fail, what waits and its capacity, up or down.
func TestClone(t *testing.T) {
	for _, d := range []*Disk{New(0), New(5), laid(t, 9, file("a", 1)), two(t)} {
		same(t, "clone", d.Clone(), told(d))
		fine(t, d.Fail(3))
		same(t, "clone that will be down", d.Clone(), told(d))
	}
	d := two(t)
	fine(t, d.Fail(1))
	fine(t, d.Sync("b"))
	is(t, "the op", d.Sync("b"), api.ErrDown)
	c := d.Clone()
	same(t, "clone that is down", c, told(d))
	is(t, "an op", c.Sync("a"), api.ErrDown)
	c.Crash(api.Crash{Keep: []byte{1}, Torn: -1})
	seen(t, c, file("a", 1, 4), file("b", 3))
	if !d.Down() || d.Waiting() != 1 {
		t.Error("the disk is up, or has lost what waits")
	}
	is(t, "room", c.Make("c", 7), api.ErrFull)
	is(t, "room", c.Make("c", 6), api.OK)
}

// changes are calls that change a disk of the files a and b, a sector of a waiting, by their names.
func changes() map[string]func(d *Disk) {
	return map[string]func(d *Disk){
		"make":        func(d *Disk) { d.Make("c", 1) },
		"write":       func(d *Disk) { d.Write("a", 0, marks(8)) },
		"write again": func(d *Disk) { d.Write("a", 1, marks(9)) },
		"sync":        func(d *Disk) { d.Sync("a") },
		"rename":      func(d *Disk) { d.Rename("a", "z") },
		"rename over": func(d *Disk) { d.Rename("b", "a") },
		"remove":      func(d *Disk) { d.Remove("b") },
		"fail":        func(d *Disk) { d.Fail(4) },
		"down":        func(d *Disk) { d.Fail(0); d.Sync("a") },
		"lost":        func(d *Disk) { d.Crash(api.Crash{Torn: -1}) },
		"kept":        func(d *Disk) { d.Crash(api.Crash{Keep: []byte{1}, Torn: -1}) },
		"torn":        func(d *Disk) { d.Crash(api.Crash{Torn: 0, Cut: 9}) },
	}
}

// P8.3: what becomes of a clone changes nothing of the disk, nor the other way round.
func TestCloneApart(t *testing.T) {
	for what, change := range changes() {
		d := two(t)
		c := d.Clone()
		want := told(d)
		change(c)
		if reflect.DeepEqual(told(c), want) {
			t.Errorf("%s changes nothing", what)
		}
		same(t, what+" of the clone", d, want)
		c = d.Clone()
		change(d)
		same(t, what+" of the disk", c, want)
		same(t, "a clone of the changed one", d.Clone(), told(d))
	}
}

// spoil turns the bytes of all sectors of l, the room behind its end too.
func spoil(l []api.Sec) {
	l = l[:cap(l)]
	for i := range l {
		for k := range l[i] {
			l[i][k] ^= 0x5a
		}
	}
}

// Rule 3, P8.1, P8.3: what was given and what is answered is apart from the disk, and what was given is left as it was, the room behind its end too.
func TestApart(t *testing.T) {
	room := marks(1, 2, 3, 4)
	files := append(make([]api.File, 0, 3), api.File{Name: "a", L: room[:2]}, file("b", 5))
	d := laid(t, 9, files...)
	fine(t, d.Write("b", 0, room[2:3]))
	if !reflect.DeepEqual(room, marks(1, 2, 3, 4)) || !reflect.DeepEqual(files, []api.File{file("a", 1, 2), file("b", 5)}) {
		t.Error("what was given was changed")
	}
	want := told(d)
	spoil(room)
	files[0].Name, files[1].Name = "x", "y"
	same(t, "what was given", d, want)
	l, e := d.Read("a", 0, 2)
	fine(t, e)
	spoil(l)
	l, e = d.Read("b", 0, 1)
	fine(t, e)
	spoil(l)
	same(t, "what is read", d, want)
	all := d.Files()
	for i := range all {
		spoil(all[i].L)
		all[i].Name = "x"
	}
	same(t, "what is lasting", d, want)
	names := d.List()
	names[0], names[1] = "x", "y"
	same(t, "the names", d, want)
}

// Rule 3: no two lists of one answer share any, and no two answers do.
func TestAnswersApart(t *testing.T) {
	d := laid(t, 9, file("a", 1, 2), file("b", 3))
	all, again := d.Files(), d.Files()
	spoil(all[0].L)
	if !reflect.DeepEqual(all[1], file("b", 3)) || !reflect.DeepEqual(again, []api.File{file("a", 1, 2), file("b", 3)}) {
		t.Errorf("Files share: %v", again)
	}
	l, e := d.Read("a", 0, 2)
	fine(t, e)
	more, e := d.Read("a", 1, 1)
	fine(t, e)
	spoil(l)
	if !reflect.DeepEqual(more, marks(2)) {
		t.Errorf("what is read shares: %v", more)
	}
}

// Rule 3: a crash's Keep is neither changed nor kept.
func TestCrashApart(t *testing.T) {
	d := two(t)
	keep := []byte{1, 7}
	d.Crash(api.Crash{Keep: keep[:1], Torn: -1})
	if keep[0] != 1 || keep[1] != 7 {
		t.Errorf("Keep is %v", keep)
	}
	want := told(d)
	keep[0], keep[1] = 0, 0
	same(t, "Keep changed", d, want)
}
