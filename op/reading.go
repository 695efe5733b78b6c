package op

import (
	"strandline/api"
	"strandline/field"
)

// reading is what was read of b so far, and where it goes on. Its methods read one thing each, in the order in which they stand here.
type reading struct {
	b  []byte
	at int
	o  api.Op
}

func (r *reading) kind() api.Errno {
	if len(r.b) == 0 {
		return api.ErrShort
	}
	r.o.Kind, r.at = int(r.b[0]), 1
	if r.o.Kind != api.OpPut && r.o.Kind != api.OpDelete {
		return api.ErrForm
	}
	return api.OK
}

func (r *reading) key() api.Errno {
	return r.text(&r.o.Key)
}

func (r *reading) val() api.Errno {
	if r.o.Kind != api.OpPut {
		return api.OK
	}
	return r.text(&r.o.Val)
}

// end comes last: an error of what is laid goes ahead of a Key or Val whose length is wrong.
func (r *reading) end() api.Errno {
	if !Right(r.o) {
		return api.ErrForm
	}
	return api.OK
}

// text reads the field that stands next.
func (r *reading) text(to *string) api.Errno {
	f, size, e := field.Get(r.b[r.at:])
	*to, r.at = string(f), r.at+size
	return e
}
