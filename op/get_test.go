package op

import (
	"slices"
	"testing"

	"strandline/api"
	"strandline/field"
)

// sameGet holds what Get tells of b against what is wanted.
func sameGet(t *testing.T, why string, b []byte, want api.Op, wantSize int, wantE api.Errno) {
	t.Helper()
	if o, size, e := Get(b); o != want || size != wantSize || e != wantE {
		t.Errorf("%s: Get of %d bytes = %v, %d, %d, want %v, %d, %d", why, len(b), o, size, e, want, wantSize, wantE)
	}
}

// noGet holds it against an error, with nothing beside it.
func noGet(t *testing.T, why string, b []byte, e api.Errno) {
	t.Helper()
	sameGet(t, why, b, api.Op{}, 0, e)
}

// wrongField is bytes that begin with no field.
type wrongField struct {
	why string
	b   []byte
	e   api.Errno
	// ended is, whether the error comes of b's end: with more behind it it may be another one, or none.
	ended bool
}

// wrongFields are those of each error of layer 4.
func wrongFields() []wrongField {
	nine := slices.Repeat([]byte{255}, 9)
	return []wrongField{
		{"no length", nil, api.ErrShort, true},
		{"a length that is cut off", []byte{128}, api.ErrShort, true},
		{"a length that is cut off behind two bytes", []byte{129, 128}, api.ErrShort, true},
		{"a length that is cut off behind nine", nine, api.ErrShort, true},
		{"a byte, and none there", []byte{1}, api.ErrShort, true},
		{"two bytes, and one there", []byte{2, 97}, api.ErrShort, true},
		{"25 bytes, and 24 there", slices.Concat([]byte{25}, []byte(mixed(24))), api.ErrShort, true},
		{"128 bytes, and 127 there", slices.Concat([]byte{128, 1}, []byte(mixed(127))), api.ErrShort, true},
		{"129 bytes, and 128 there", slices.Concat([]byte{129, 1}, []byte(mixed(128))), api.ErrShort, true},
		{"the longest field, but for a byte", slices.Concat([]byte{128, 128, 4}, []byte(mixed(65535))), api.ErrShort, true},
		{"0 in two bytes", []byte{128, 0}, api.ErrForm, false},
		{"1 in two bytes", []byte{129, 0, 97}, api.ErrForm, false},
		{"1 in three bytes", []byte{129, 128, 0, 97}, api.ErrForm, false},
		{"a length of 2^64", append(slices.Repeat([]byte{128}, 9), 2), api.ErrRange, false},
		{"a length of eleven bytes", append(slices.Clone(nine), 129, 1), api.ErrRange, false},
		{"one more than a field has", []byte{129, 128, 4}, api.ErrLong, false},
		{"one more than a field has, all there", slices.Concat([]byte{129, 128, 4}, []byte(mixed(65537))), api.ErrLong, false},
		{"a length of 2^32", []byte{128, 128, 128, 128, 16}, api.ErrLong, false},
		{"a length of 2^32 + 1", []byte{129, 128, 128, 128, 16, 97}, api.ErrLong, false},
		{"a length of 2^64 - 1", append(slices.Clone(nine), 1), api.ErrLong, false},
	}
}

// P10.2: Get of each right operation's bytes, alone and with others behind.
func TestGet(t *testing.T) {
	for _, o := range rightOps() {
		b := slowBytes(o)
		for _, behind := range behinds() {
			sameGet(t, "an operation's bytes", slices.Concat(b, behind), o, len(b), api.OK)
		}
	}
}

// P10.2: Get at the bounds, with the bytes written out.
func TestGetWrittenOut(t *testing.T) {
	key, val := []byte(mixed(24)), []byte(mixed(128))
	for _, c := range []struct {
		b []byte
		o api.Op
	}{
		{[]byte{1, 1, 0, 0}, api.Op{Kind: put, Key: "\x00"}},
		{[]byte{1, 1, 255, 1, 128}, api.Op{Kind: put, Key: "\xff", Val: "\x80"}},
		{[]byte{1, 2, 128, 1, 2, 129, 0}, api.Op{Kind: put, Key: "\x80\x01", Val: "\x81\x00"}},
		{slices.Concat([]byte{1, 24}, key, []byte{0}), api.Op{Kind: put, Key: string(key)}},
		{slices.Concat([]byte{1, 1, 97, 127}, val[:127]), api.Op{Kind: put, Key: "a", Val: string(val[:127])}},
		{slices.Concat([]byte{1, 24}, key, []byte{128, 1}, val), api.Op{Kind: put, Key: string(key), Val: string(val)}},
		{[]byte{2, 1, 0}, api.Op{Kind: del, Key: "\x00"}},
		{slices.Concat([]byte{2, 24}, key), api.Op{Kind: del, Key: string(key)}},
	} {
		sameGet(t, "alone", c.b, c.o, len(c.b), api.OK)
		sameGet(t, "with one behind", append(slices.Clone(c.b), 1), c.o, len(c.b), api.OK)
	}
}

// P10.2: Get of no bytes, and of each first byte, alone and with others behind.
func TestGetOfFirstByte(t *testing.T) {
	noGet(t, "nil", nil, api.ErrShort)
	noGet(t, "empty bytes", []byte{}, api.ErrShort)
	noGet(t, "empty bytes with room", roomy(nil), api.ErrShort)
	for x := range 256 {
		first := []byte{byte(x)}
		switch x {
		case put:
			noGet(t, "a put's first byte", first, api.ErrShort)
			sameGet(t, "a put", append(first, 1, 97, 0), api.Op{Kind: put, Key: "a"}, 4, api.OK)
		case del:
			noGet(t, "a delete's first byte", first, api.ErrShort)
			sameGet(t, "a delete", append(first, 1, 97, 0), api.Op{Kind: del, Key: "a"}, 3, api.OK)
		default:
			noGet(t, "a first byte that is no Kind", first, api.ErrForm)
			noGet(t, "a first byte that is no Kind, and a Key", append(first, 1, 97, 0), api.ErrForm)
			for _, c := range wrongFields() {
				noGet(t, "a first byte that is no Kind, and "+c.why, slices.Concat(first, c.b), api.ErrForm)
			}
		}
	}
}

// P10.2: Get of each beginning of an operation's bytes is short, whatever lies in the room behind its end.
func TestGetOfBeginnings(t *testing.T) {
	for _, o := range rightOps() {
		b := slowBytes(o)
		for i := range b {
			noGet(t, "a beginning", slices.Clone(b[:i]), api.ErrShort)
			noGet(t, "a beginning, the others in its room", b[:i], api.ErrShort)
		}
	}
}

// P10.2: each error of layer 4 at the Key, of a put and of a delete.
func TestGetOfWrongKey(t *testing.T) {
	for _, c := range wrongFields() {
		for _, kind := range []byte{put, del} {
			b := slices.Concat([]byte{kind}, c.b)
			noGet(t, "the Key: "+c.why, b, c.e)
			if c.ended {
				continue
			}
			for _, behind := range behinds() {
				noGet(t, "the Key, bytes behind: "+c.why, slices.Concat(b, behind), c.e)
			}
			for _, val := range wrongFields() {
				noGet(t, "the Key: "+c.why+", and Val: "+val.why, slices.Concat(b, val.b), c.e)
			}
		}
	}
}

// P10.2: each error of layer 4 at Val, of a put alone; it comes ahead of ErrForm of a Key that is too short or too long.
func TestGetOfWrongVal(t *testing.T) {
	for _, c := range wrongFields() {
		for _, n := range []int{0, 1, 2, 24, 25, 26, 128, 65536} {
			key := field.Put(nil, []byte(mixed(n)))
			noGet(t, "Val: "+c.why, slices.Concat([]byte{put}, key, c.b), c.e)
			if c.ended {
				continue
			}
			for _, behind := range behinds() {
				noGet(t, "Val, bytes behind: "+c.why, slices.Concat([]byte{put}, key, c.b, behind), c.e)
			}
		}
	}
}

// P10.2: what stands behind a delete's Key isn't read.
func TestGetOfDelete(t *testing.T) {
	for _, c := range wrongFields() {
		sameGet(t, "a delete, and "+c.why, slices.Concat([]byte{2, 1, 97}, c.b), api.Op{Kind: del, Key: "a"}, 3, api.OK)
		noGet(t, "a delete of no Key, and "+c.why, slices.Concat([]byte{2, 0}, c.b), api.ErrForm)
		noGet(t, "a delete of a long Key, and "+c.why, slices.Concat([]byte{2, 25}, []byte(mixed(25)), c.b), api.ErrForm)
	}
}

// P10.2: what is read, and isn't right: each length of a Key, each of Val.
func TestGetOfWrongLengths(t *testing.T) {
	for _, n := range []int{0, 1, 2, 23, 24, 25, 26, 127, 128, 129, 255, 256, 257, 65535, 65536} {
		text := mixed(n)
		laid := field.Put(nil, []byte(text))
		wantKey, wantVal := api.OK, api.OK
		if n < 1 || n > 24 {
			wantKey = api.ErrForm
		}
		if n > 128 {
			wantVal = api.ErrForm
		}
		for _, c := range []struct {
			b []byte
			o api.Op
			e api.Errno
		}{
			{slices.Concat([]byte{2}, laid), api.Op{Kind: del, Key: text}, wantKey},
			{slices.Concat([]byte{1}, laid, []byte{0}), api.Op{Kind: put, Key: text}, wantKey},
			{slices.Concat([]byte{1}, laid, []byte{1, 120}), api.Op{Kind: put, Key: text, Val: "x"}, wantKey},
			{slices.Concat([]byte{1, 1, 97}, laid), api.Op{Kind: put, Key: "a", Val: text}, wantVal},
			{slices.Concat([]byte{1, 0}, laid), api.Op{}, api.ErrForm},
			{slices.Concat([]byte{1, 25}, []byte(mixed(25)), laid), api.Op{}, api.ErrForm},
		} {
			for _, behind := range behinds() {
				b := slices.Concat(c.b, behind)
				if c.e == api.OK {
					sameGet(t, "a right one", b, c.o, len(c.b), api.OK)
				} else {
					noGet(t, "one that isn't right", b, c.e)
				}
			}
		}
	}
}

// P10.2: Get tells of any bytes what the chapter's words, gone through one by one, tell.
func TestGetByWords(t *testing.T) {
	seen := map[api.Errno]int{}
	for _, b := range texts() {
		was := slices.Clone(b)
		o, size, e := slowGet(b)
		sameGet(t, "any bytes", b, o, size, e)
		if !slices.Equal(b, was) {
			t.Fatalf("Get changed %v to %v", was, b)
		}
		if t.Failed() {
			t.Fatalf("the bytes are %v", b)
		}
		seen[e]++
	}
	for _, e := range []api.Errno{api.OK, api.ErrShort, api.ErrForm, api.ErrLong} {
		if seen[e] < 20 {
			t.Errorf("just %d texts answer %d", seen[e], e)
		}
	}
}

// P10.2: what Get answers stays as it is, whatever becomes of the bytes.
func TestGetIsNew(t *testing.T) {
	for _, want := range append(manyOps(50), api.Op{Kind: put, Key: mixed(24), Val: mixed(128)}) {
		b := roomy(slowBytes(want))
		whole := slices.Clone(b[:cap(b)])
		got, _, _ := Get(b)
		if !slices.Equal(b[:cap(b)], whole) {
			t.Fatalf("Get of %v changed what was given", want)
		}
		spoil(b)
		if got != want {
			t.Fatalf("Get of %v: the answer became another one", want)
		}
	}
}

// P10.3: what was put is got, whatever stands behind it.
func TestPutIsGot(t *testing.T) {
	for _, o := range append(rightOps(), manyOps(3000)...) {
		b, e := Put(nil, o)
		if e != api.OK {
			t.Fatalf("Put of %v = %d", o, e)
		}
		for _, behind := range behinds() {
			sameGet(t, "what was put", slices.Concat(b, behind), o, len(b), api.OK)
		}
	}
}

// P10.3: operations that were put one behind the other are got one by one, with nothing left over.
func TestPutInRow(t *testing.T) {
	want := append(manyOps(400), rightOps()...)
	var b []byte
	for _, o := range want {
		next, e := Put(b, o)
		if e != api.OK {
			t.Fatalf("Put of %v = %d", o, e)
		}
		b = next
	}
	var got []api.Op
	for len(b) > 0 {
		o, size, e := Get(b)
		if e != api.OK {
			t.Fatalf("behind %d operations Get = %d", len(got), e)
		}
		got, b = append(got, o), b[size:]
	}
	if !slices.Equal(got, want) || !Same(got, want) {
		t.Errorf("%d operations are got, of %d", len(got), len(want))
	}
}

// P10.3: what is got is right, and put by the same bytes.
func TestGotIsPut(t *testing.T) {
	got := 0
	for _, b := range texts() {
		o, size, e := Get(b)
		if e != api.OK {
			continue
		}
		if again, e := Put(nil, o); !Right(o) || !slices.Equal(again, b[:size]) || e != api.OK {
			t.Fatalf("Get of %v = %v, which is put as %v, %d", b, o, again, e)
		}
		got++
	}
	if got < 3000 {
		t.Errorf("just %d texts are got", got)
	}
}
