package disk

import (
	"strandline/api"
	"strandline/name"
)

// sector is what is lasting of a file's sector, and what is seen of it: the same, if it doesn't wait.
type sector struct {
	lasting, seen api.Sec
	waits         bool
}

// settle makes the first n bytes that are seen lasting, the others being lost.
func (s *sector) settle(n int) {
	copy(s.lasting[:n], s.seen[:n])
	s.seen, s.waits = s.lasting, false
}

// job is what is asked of a disk. Its methods that begin with may tell the error that it finds, and change nothing; the others do it, and count on there being none.
type job struct {
	d        *Disk
	name, to string
	at, n    int
	l        []api.Sec
}

// mayMake tells whether a file of that name and of n sectors may be made.
func (j job) mayMake() api.Errno {
	switch {
	case !name.Right(j.name):
		return api.ErrName
	case j.d.Size(j.name) > 0:
		return api.ErrThere
	case j.n < 1 || j.n > api.MaxSectors:
		return api.ErrRange
	case j.d.Used()+j.n > j.d.capacity || len(j.d.files) >= api.MaxFiles:
		return api.ErrFull
	}
	return api.OK
}

// mayFind tells whether there is such a file: each one has a sector.
func (j job) mayFind() api.Errno {
	if j.d.Size(j.name) == 0 {
		return api.ErrNone
	}
	return api.OK
}

// mayReach tells whether the file has n sectors from at on.
func (j job) mayReach() api.Errno {
	if e := j.mayFind(); e != api.OK {
		return e
	}
	// at and n together may be more than an int has room for; the size without n isn't.
	if j.at < 0 || j.n < 0 || j.at > j.d.Size(j.name)-j.n {
		return api.ErrRange
	}
	return api.OK
}

// mayRename tells whether the file may have the name to.
func (j job) mayRename() api.Errno {
	if e := j.mayFind(); e != api.OK {
		return e
	}
	if !name.Right(j.to) {
		return api.ErrName
	}
	return api.OK
}

// mayFail tells whether there is an n-th op from now on.
func (j job) mayFail() api.Errno {
	if j.n < 0 {
		return api.ErrRange
	}
	return api.OK
}

func (j job) create() {
	j.d.files[j.name] = make([]sector, j.n)
}

func (j job) write() {
	f := j.d.files[j.name]
	for i, s := range j.l {
		f[j.at+i].seen, f[j.at+i].waits = s, true
	}
}

func (j job) read() []api.Sec {
	l := make([]api.Sec, j.n)
	for i, s := range j.d.files[j.name][j.at : j.at+j.n] {
		l[i] = s.seen
	}
	return l
}

func (j job) sync() {
	f := j.d.files[j.name]
	for i := range f {
		f[i].settle(api.Sector)
	}
}

func (j job) rename() {
	j.d.files[j.to] = j.d.files[j.name]
	delete(j.d.files, j.name)
}

func (j job) remove() {
	delete(j.d.files, j.name)
}
