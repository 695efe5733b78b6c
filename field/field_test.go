package field

import (
	"bytes"
	"math"
	"slices"
	"testing"

	"strandline/api"
	"strandline/varint"
)

// length is how many bytes a field has, with the short bytes that stand ahead of it, as they stand in no code but here.
type length struct {
	n     int
	short []byte
}

// lengths are those at the bounds of each count of short bytes, and some between, up to the greatest one.
func lengths() []length {
	return []length{
		{0, []byte{0}},
		{1, []byte{1}},
		{2, []byte{2}},
		{126, []byte{126}},
		{127, []byte{127}},
		{128, []byte{128, 1}},
		{129, []byte{129, 1}},
		{300, []byte{172, 2}},
		{16383, []byte{255, 127}},
		{16384, []byte{128, 128, 1}},
		{16385, []byte{129, 128, 1}},
		{65535, []byte{255, 255, 3}},
		{65536, []byte{128, 128, 4}},
	}
}

// tooLong are bytes that are longer than a field may be.
func tooLong() [][]byte {
	return [][]byte{text(Most + 1), text(Most + 2), text(1 << 17), text(1 << 21)}
}

// scatter tells numbers that look like any, the same ones in each run.
func scatter(count int) []uint64 {
	var l []uint64
	n := uint64(88172645463325252)
	for range count {
		n ^= n << 13
		n ^= n >> 7
		n ^= n << 17
		l = append(l, n)
	}
	return l
}

// text tells so many bytes that look like any, the same ones in each run.
func text(size int) []byte {
	b := make([]byte, size)
	for i, n := range scatter(size) {
		b[i] = byte(n >> 32)
	}
	return b
}

// aheads are bytes that something is put behind: none, and some, such as look like a length or a field among them.
func aheads() [][]byte {
	return [][]byte{nil, {}, {0}, {128}, {255, 255, 255}, {2, 97, 98, 0}, text(5000)}
}

// slowLaid are f's laid bytes, by division; none, if it is too long.
func slowLaid(f []byte) []byte {
	if len(f) > 65536 {
		return nil
	}
	var b []byte
	left := len(f)
	for left >= 128 {
		b = append(b, byte(left%128+128))
		left /= 128
	}
	b = append(b, byte(left))
	return slices.Concat(b, f)
}

// slowPack are the laid bytes of all of l.
func slowPack(l [][]byte) []byte {
	var b []byte
	for _, f := range l {
		b = slices.Concat(b, slowLaid(f))
	}
	return b
}

// slowGet is what the chapter says of Get, error by error.
func slowGet(b []byte) ([]byte, int, api.Errno) {
	n, head, e := varint.Get(b)
	if e != api.OK {
		return nil, 0, e
	}
	if n > 65536 {
		return nil, 0, api.ErrLong
	}
	var f []byte
	for i := range int(n) {
		if head+i >= len(b) {
			return nil, 0, api.ErrShort
		}
		f = append(f, b[head+i])
	}
	return f, head + int(n), api.OK
}

// slowUnpack goes on with slowGet till nothing is left.
func slowUnpack(b []byte) ([][]byte, api.Errno) {
	var l [][]byte
	for at := 0; at < len(b); {
		f, size, e := slowGet(b[at:])
		if e != api.OK {
			return nil, e
		}
		l, at = append(l, f), at+size
	}
	return l, api.OK
}

// same tells whether two lists have the same fields.
func same(a, b [][]byte) bool {
	return slices.EqualFunc(a, b, bytes.Equal)
}

// roomy is b, with bytes behind its end that are not its own.
func roomy(b []byte) []byte {
	return append(slices.Clone(b), text(200)...)[:len(b)]
}

// spoil turns all bits of b, and of the room behind its end.
func spoil(b []byte) {
	for i := range b[:cap(b)] {
		b[:cap(b)][i] ^= 255
	}
}

// texts are bytes of all kinds: all of up to two, those of up to six that are made of few telling ones, packed fields with a byte changed, cut off or added, and lengths around the greatest one.
func texts() [][]byte {
	l := [][]byte{nil}
	for x := range 256 {
		l = append(l, []byte{byte(x)})
	}
	for x := range 1 << 16 {
		l = append(l, []byte{byte(x), byte(x >> 8)})
	}
	grown := [][]byte{nil}
	for range 6 {
		var next [][]byte
		for _, b := range grown {
			for _, x := range []byte{0, 1, 2, 4, 127, 128, 129} {
				next = append(next, append(slices.Clone(b), x))
			}
		}
		l, grown = append(l, next...), next
	}
	for _, k := range []uint64{Most - 1, Most, Most + 1, Most + 2} {
		head := varint.Put(nil, k)
		for _, n := range []int{0, 1, Most - 1, Most, Most + 1, Most + 2} {
			l = append(l, append(slices.Clone(head), text(n)...))
		}
	}
	return append(l, packedTexts()...)
}

// packedTexts are fields' laid bytes, one behind the other; and the same with one byte changed, the last one gone, and one more.
func packedTexts() [][]byte {
	var l [][]byte
	for i := range 500 {
		b := slowPack(fields(i, i%9))
		l = append(l, b, append(slices.Clone(b), byte(i)))
		if len(b) > 0 {
			changed := slices.Clone(b)
			changed[i*31%len(b)] = byte(i * 7)
			l = append(l, changed, b[:len(b)-1])
		}
	}
	return l
}

// fields tells so many fields of unlike lengths, others for each start.
func fields(start, count int) [][]byte {
	var l [][]byte
	for _, n := range scatter(start + count)[start:] {
		size := int(n>>40) % 200
		if n>>16%3 == 0 {
			size = int(n>>40) % 4
		}
		l = append(l, text(size + 3)[3:])
	}
	return l
}

// The chapter's example, and the greatest length.
func TestExample(t *testing.T) {
	if got := Pack([]byte("ab"), nil); !slices.Equal(got, []byte{2, 97, 98, 0}) {
		t.Errorf("Pack of ab and nothing = %v, want 2, 97, 98, 0", got)
	}
	if Most != 65536 {
		t.Errorf("Most = %d, want 65536", Most)
	}
}

// P4.1: f's laid bytes, at the bounds of each count of short bytes, Most among them, behind no bytes and behind some.
func TestPut(t *testing.T) {
	for _, b := range aheads() {
		for _, c := range lengths() {
			f := text(c.n)
			if got, want := Put(b, f), slices.Concat(b, c.short, f); !slices.Equal(got, want) {
				t.Fatalf("Put behind %d bytes, of %d, has %d bytes, want %d", len(b), c.n, len(got), len(want))
			}
		}
	}
}

// P4.1: no field and an empty one are laid alike.
func TestPutOfNothing(t *testing.T) {
	for _, b := range aheads() {
		want := slices.Concat(b, []byte{0})
		if got := Put(b, nil); !slices.Equal(got, want) {
			t.Errorf("Put(%v, nil) = %v", b, got)
		}
		if got := Put(b, []byte{}); !slices.Equal(got, want) {
			t.Errorf("Put(%v, empty) = %v", b, got)
		}
	}
}

// P4.1: of one byte, each of them; and each length up to some.
func TestPutSmall(t *testing.T) {
	for x := range 256 {
		if got := Put([]byte{7}, []byte{byte(x)}); !slices.Equal(got, []byte{7, 1, byte(x)}) {
			t.Fatalf("Put(7, %d) = %v", x, got)
		}
	}
	for n := range 700 {
		f := text(n)
		if got := Put(nil, f); !slices.Equal(got, slowLaid(f)) {
			t.Fatalf("Put of %d bytes has %d bytes", n, len(got))
		}
	}
}

// P4.1: b alone, if f is too long, by one byte or by many.
func TestPutTooLong(t *testing.T) {
	for _, f := range tooLong() {
		for _, b := range aheads() {
			if got := Put(b, f); !slices.Equal(got, b) {
				t.Errorf("Put behind %d bytes, of %d, has %d bytes", len(b), len(f), len(got))
			}
		}
	}
}

// P4.1: neither b nor f, nor the room behind their ends, is changed, kept or shared, whether f is put or too long.
func TestPutIsNew(t *testing.T) {
	for _, start := range [][]byte{nil, {}, {9, 8, 7}} {
		for _, long := range [][]byte{nil, {5}, text(127), text(128), text(Most), text(Most + 1)} {
			b, f := roomy(start), roomy(long)
			wholeB, wholeF := slices.Clone(b[:cap(b)]), slices.Clone(f[:cap(f)])
			first, second := Put(b, f), Put(b, f)
			want := slices.Clone(first)
			spoil(first)
			if !slices.Equal(b[:cap(b)], wholeB) || !slices.Equal(f[:cap(f)], wholeF) {
				t.Fatalf("Put(%v, %d bytes) changed or shares what it was given", start, len(f))
			}
			spoil(b)
			spoil(f)
			if !slices.Equal(second, want) {
				t.Fatalf("Put(%v, %d bytes): the answer became another one", start, len(f))
			}
		}
	}
}

// P4.1: b and f may be parts of the same bytes, and f may lie where b's room is.
func TestPutOfParts(t *testing.T) {
	whole := text(600)
	was := slices.Clone(whole)
	for _, c := range [][4]int{{0, 600, 0, 600}, {0, 10, 10, 20}, {0, 10, 5, 300}, {0, 0, 0, 600}, {300, 310, 0, 305}, {0, 3, 1, 2}} {
		b, f := whole[c[0]:c[1]], whole[c[2]:c[3]]
		if got, want := Put(b, f), slices.Concat(was[c[0]:c[1]], slowLaid(was[c[2]:c[3]])); !slices.Equal(got, want) {
			t.Errorf("Put of the parts %v has %d bytes, want %d", c, len(got), len(want))
		}
		if !slices.Equal(whole, was) {
			t.Fatalf("Put of the parts %v changed them", c)
		}
	}
}

// P4.1: Pack of no fields, of some, and of some that are too long among others, wherever they stand.
func TestPack(t *testing.T) {
	long := text(Most + 1)
	for _, c := range []struct {
		why  string
		l    [][]byte
		want []byte
	}{
		{"no fields", nil, nil},
		{"an empty list", [][]byte{}, nil},
		{"nothing", [][]byte{nil}, []byte{0}},
		{"an empty field", [][]byte{{}}, []byte{0}},
		{"nothing three times", [][]byte{nil, {}, nil}, []byte{0, 0, 0}},
		{"one byte", [][]byte{{7}}, []byte{1, 7}},
		{"the example", [][]byte{{97, 98}, nil}, []byte{2, 97, 98, 0}},
		{"the example the other way about", [][]byte{nil, {97, 98}}, []byte{0, 2, 97, 98}},
		{"three", [][]byte{{1}, {2, 2}, {3, 3, 3}}, []byte{1, 1, 2, 2, 2, 3, 3, 3, 3}},
		{"one of Most", [][]byte{text(Most)}, slices.Concat([]byte{128, 128, 4}, text(Most))},
		{"one too long alone", [][]byte{long}, nil},
		{"two too long alone", [][]byte{long, text(1 << 20)}, nil},
		{"one too long first", [][]byte{long, {1}, {2}}, []byte{1, 1, 1, 2}},
		{"one too long among others", [][]byte{{1}, long, {2}}, []byte{1, 1, 1, 2}},
		{"one too long last", [][]byte{{1}, {2}, long}, []byte{1, 1, 1, 2}},
		{"ones too long everywhere", [][]byte{long, {1}, long, nil, long, {2}, long}, []byte{1, 1, 0, 1, 2}},
	} {
		if got := Pack(c.l...); !slices.Equal(got, c.want) {
			t.Errorf("Pack of %s has %d bytes, want %d", c.why, len(got), len(c.want))
		}
	}
	if got := Pack(); len(got) != 0 {
		t.Errorf("Pack() = %v", got)
	}
}

// P4.1: Pack is Put of each, behind those ahead.
func TestPackIsPuts(t *testing.T) {
	for i := range 200 {
		l := fields(i*5, i%12)
		var want []byte
		for _, f := range l {
			want = Put(want, f)
		}
		if got := Pack(l...); !slices.Equal(got, want) || !slices.Equal(got, slowPack(l)) {
			t.Fatalf("Pack of %d fields has %d bytes, want %d", len(l), len(got), len(want))
		}
	}
}

// P4.1: Pack neither changes nor keeps the list, its fields, or the room behind their ends.
func TestPackIsNew(t *testing.T) {
	start := [][]byte{{1, 2}, nil, text(128), text(Most + 1), {5}}
	list := make([][]byte, 0, 9)
	for _, f := range start {
		list = append(list, roomy(f))
	}
	var whole [][]byte
	for _, f := range list {
		whole = append(whole, slices.Clone(f[:cap(f)]))
	}
	first, second := Pack(list...), Pack(list...)
	spoil(first)
	for i, f := range list {
		if len(f) != len(start[i]) || !slices.Equal(f[:cap(f)], whole[i]) {
			t.Fatalf("Pack changed or shares the field %d", i)
		}
		spoil(f)
	}
	for i, f := range list[len(list):cap(list)] {
		if f != nil {
			t.Fatalf("Pack wrote the list's room at %d", i)
		}
	}
	if !slices.Equal(second, slowPack(start)) {
		t.Error("Pack's answer became another one")
	}
}

// P4.1: one field alone is new memory too, and the same one may be packed often.
func TestPackOfOne(t *testing.T) {
	f := []byte{4, 5, 6}
	got := Pack(f)
	spoil(got)
	if !slices.Equal(f, []byte{4, 5, 6}) {
		t.Errorf("Pack shares its one field, which became %v", f)
	}
	if got := Pack(f, f, f[:1]); !slices.Equal(got, []byte{3, 4, 5, 6, 3, 4, 5, 6, 1, 4}) {
		t.Errorf("Pack of one field twice, and of its beginning = %v", got)
	}
}

// P4.2: Get of fields, alone and with other bytes behind them, at the bounds of each count of short bytes.
func TestGet(t *testing.T) {
	for _, c := range lengths() {
		f := text(c.n)
		for _, behind := range [][]byte{nil, {0}, {1}, {128}, {255, 255}, {1, 128, 0}, text(3000)} {
			got, size, e := Get(slices.Concat(c.short, f, behind))
			if !slices.Equal(got, f) || size != len(c.short)+c.n || e != api.OK {
				t.Fatalf("Get of %d bytes, %d behind, = %d bytes, %d, %d", c.n, len(behind), len(got), size, e)
			}
		}
	}
}

// P4.2: each kind of bytes that begin with no field, and which error is the first one.
func TestGetOfNone(t *testing.T) {
	nine := slices.Repeat([]byte{255}, 9)
	most := []byte{128, 128, 4}
	for _, c := range []struct {
		why string
		b   []byte
		e   api.Errno
	}{
		{"no bytes", nil, api.ErrShort},
		{"empty bytes", []byte{}, api.ErrShort},
		{"a length that ends ahead", []byte{128}, api.ErrShort},
		{"a length that ends ahead, behind two bytes", []byte{128, 128}, api.ErrShort},
		{"a length that ends ahead, behind nine bytes", nine, api.ErrShort},
		{"a great length that ends ahead", []byte{255, 255, 255, 255}, api.ErrShort},
		{"a length whose last byte is 0", []byte{128, 0}, api.ErrForm},
		{"a length whose last byte is 0, with bytes behind", []byte{129, 0, 1, 1}, api.ErrForm},
		{"a length above Most whose last byte is 0", []byte{129, 128, 132, 0}, api.ErrForm},
		{"a length whose tenth byte is 0", append(slices.Clone(nine), 0), api.ErrForm},
		{"a length of 2^64", append(slices.Repeat([]byte{128}, 9), 2), api.ErrRange},
		{"a length above 2^64", append(slices.Clone(nine), 127), api.ErrRange},
		{"a length of eleven bytes", append(slices.Clone(nine), 129, 0), api.ErrRange},
		{"a length of eleven bytes, with many behind", append(slices.Clone(nine), text(100)...), api.ErrRange},
		{"one more than Most, and the end", []byte{129, 128, 4}, api.ErrLong},
		{"one more than Most, and a byte", []byte{129, 128, 4, 7}, api.ErrLong},
		{"one more than Most, and Most bytes", slices.Concat([]byte{129, 128, 4}, text(Most)), api.ErrLong},
		{"one more than Most, all of them there", slices.Concat([]byte{129, 128, 4}, text(Most+1)), api.ErrLong},
		{"twice Most, all of them there", slices.Concat([]byte{128, 128, 8}, text(2*Most)), api.ErrLong},
		{"2^31 - 1", []byte{255, 255, 255, 255, 7, 1, 2}, api.ErrLong},
		{"2^32", []byte{128, 128, 128, 128, 16}, api.ErrLong},
		{"2^32 and 1", []byte{129, 128, 128, 128, 16, 5}, api.ErrLong},
		{"2^63 - 1", []byte{255, 255, 255, 255, 255, 255, 255, 255, 127}, api.ErrLong},
		{"2^63", append(slices.Repeat([]byte{128}, 9), 1), api.ErrLong},
		{"2^64 - 1", append(slices.Clone(nine), 1, 3, 4, 5), api.ErrLong},
		{"one byte, and the end", []byte{1}, api.ErrShort},
		{"two bytes, and one", []byte{2, 97}, api.ErrShort},
		{"127 bytes, and 126", append([]byte{127}, text(126)...), api.ErrShort},
		{"128 bytes, and 127", append([]byte{128, 1}, text(127)...), api.ErrShort},
		{"Most, and the end", most, api.ErrShort},
		{"Most, and a byte", append(slices.Clone(most), 7), api.ErrShort},
		{"Most, and one less", append(slices.Clone(most), text(Most-1)...), api.ErrShort},
	} {
		f, size, e := Get(c.b)
		if len(f) != 0 || size != 0 || e != c.e {
			t.Errorf("%s: Get = %d bytes, %d, %d, want none, 0, %d", c.why, len(f), size, e, c.e)
		}
	}
}

// P4.2: Get tells of any bytes what the chapter's words, gone through one by one, tell.
func TestGetByWords(t *testing.T) {
	seen := map[api.Errno]int{}
	for _, b := range texts() {
		was := slices.Clone(b)
		f, size, e := Get(b)
		wantF, wantSize, wantE := slowGet(b)
		if !slices.Equal(f, wantF) || size != wantSize || e != wantE {
			t.Fatalf("Get of %d bytes = %d bytes, %d, %d, want %d, %d, %d", len(b), len(f), size, e, len(wantF), wantSize, wantE)
		}
		if !slices.Equal(b, was) {
			t.Fatalf("Get changed %v to %v", was, b)
		}
		seen[e]++
	}
	for _, e := range []api.Errno{api.OK, api.ErrShort, api.ErrForm, api.ErrLong} {
		if seen[e] < 5 {
			t.Errorf("just %d texts answer %d", seen[e], e)
		}
	}
}

// P4.2: of each beginning of a field's laid bytes Get is short.
func TestGetOfBeginnings(t *testing.T) {
	for _, n := range []int{0, 1, 2, 127, 128, 300} {
		b := slowLaid(text(n))
		for i := range b {
			if f, size, e := Get(b[:i]); len(f) != 0 || size != 0 || e != api.ErrShort {
				t.Fatalf("Get of %d of a field's %d laid bytes = %v, %d, %d", i, len(b), f, size, e)
			}
		}
	}
}

// P4.2: what lies in the room behind the end is neither got nor unpacked.
func TestGetLooksNotBehindTheEnd(t *testing.T) {
	b := []byte{2, 97, 98, 128, 1}
	for _, end := range []int{0, 1, 2} {
		if f, size, e := Get(b[:end]); len(f) != 0 || size != 0 || e != api.ErrShort {
			t.Errorf("Get of %d bytes = %v, %d, %d", end, f, size, e)
		}
	}
	if l, e := Unpack(b[:3]); !same(l, [][]byte{{97, 98}}) || e != api.OK {
		t.Errorf("Unpack of three bytes = %v, %d", l, e)
	}
	if l, e := Unpack(b[:4]); len(l) != 0 || e != api.ErrShort {
		t.Errorf("Unpack of four bytes = %v, %d", l, e)
	}
}

// P4.2: what Get answers is new memory, and holds nothing of what stands behind the field.
func TestGetIsNew(t *testing.T) {
	for _, n := range []int{0, 1, 2, 127, 128, Most} {
		want := text(n)
		b := roomy(slices.Concat(slowLaid(want), []byte{1, 2, 3}))
		whole := slices.Clone(b[:cap(b)])
		first, _, _ := Get(b)
		second, _, _ := Get(b)
		spoil(first)
		_ = append(first, 9, 9, 9, 9)
		if !slices.Equal(b[:cap(b)], whole) {
			t.Fatalf("Get of %d bytes shares what it was given", n)
		}
		spoil(b)
		if !slices.Equal(second, want) {
			t.Fatalf("Get of %d bytes: the answer became another one", n)
		}
	}
}

// P4.2: Unpack of no bytes, of some fields, and of bytes whose first, middle or last field is none.
func TestUnpack(t *testing.T) {
	long, range64 := []byte{129, 128, 4}, append(slices.Repeat([]byte{255}, 9), 2)
	for _, c := range []struct {
		why  string
		b    []byte
		want [][]byte
		e    api.Errno
	}{
		{"no bytes", nil, nil, api.OK},
		{"empty bytes", []byte{}, nil, api.OK},
		{"an empty field", []byte{0}, [][]byte{nil}, api.OK},
		{"three empty fields", []byte{0, 0, 0}, [][]byte{nil, nil, nil}, api.OK},
		{"the example", []byte{2, 97, 98, 0}, [][]byte{{97, 98}, nil}, api.OK},
		{"three fields", []byte{1, 1, 2, 2, 2, 3, 3, 3, 3}, [][]byte{{1}, {2, 2}, {3, 3, 3}}, api.OK},
		{"fields that look like lengths", []byte{2, 128, 0, 1, 255, 3, 129, 128, 4}, [][]byte{{128, 0}, {255}, {129, 128, 4}}, api.OK},
		{"the first one's length ends ahead", []byte{128}, nil, api.ErrShort},
		{"the first one ends ahead", []byte{2, 97}, nil, api.ErrShort},
		{"the first one's form", []byte{128, 0, 1, 7}, nil, api.ErrForm},
		{"the first one's range", append(slices.Clone(range64), 1, 7), nil, api.ErrRange},
		{"the first one too long", append(slices.Clone(long), 1, 7), nil, api.ErrLong},
		{"the middle one's form", []byte{1, 7, 129, 0, 1, 7}, nil, api.ErrForm},
		{"the middle one's range", slices.Concat([]byte{1, 7}, range64, []byte{1, 7}), nil, api.ErrRange},
		{"the middle one too long", slices.Concat([]byte{1, 7, 0}, long, []byte{1, 7}), nil, api.ErrLong},
		{"the middle one takes all that is left, and more", []byte{1, 7, 5, 1, 7, 0}, nil, api.ErrShort},
		{"the last one's length ends ahead", []byte{1, 7, 0, 200}, nil, api.ErrShort},
		{"the last one ends ahead", []byte{1, 7, 0, 3, 1, 2}, nil, api.ErrShort},
		{"the last one without its bytes", []byte{1, 7, 1}, nil, api.ErrShort},
		{"the last one's form", []byte{1, 7, 0, 255, 0}, nil, api.ErrForm},
		{"the last one's range", slices.Concat([]byte{1, 7, 0}, range64), nil, api.ErrRange},
		{"the last one too long", slices.Concat([]byte{1, 7, 0}, long), nil, api.ErrLong},
		{"the last one too long, all of it there", slices.Concat([]byte{1, 7, 0}, long, text(Most+1)), nil, api.ErrLong},
		{"ErrForm ahead of ErrLong", slices.Concat([]byte{128, 0}, long), nil, api.ErrForm},
		{"ErrLong ahead of ErrForm", slices.Concat(long, []byte{128, 0}), nil, api.ErrLong},
		{"ErrRange ahead of ErrShort", slices.Concat(range64, []byte{2, 1}), nil, api.ErrRange},
		{"ErrLong ahead of ErrRange", slices.Concat([]byte{0}, long, range64), nil, api.ErrLong},
	} {
		l, e := Unpack(c.b)
		if !same(l, c.want) || e != c.e {
			t.Errorf("%s: Unpack = %d fields, %d, want %d, %d", c.why, len(l), e, len(c.want), c.e)
		}
	}
}

// P4.2: Unpack tells of any bytes what Get tells, one behind the other.
func TestUnpackByWords(t *testing.T) {
	seen := map[api.Errno]int{}
	for _, b := range texts() {
		was := slices.Clone(b)
		l, e := Unpack(b)
		want, wantE := slowUnpack(b)
		if !same(l, want) || e != wantE {
			t.Fatalf("Unpack of %d bytes = %d fields, %d, want %d, %d", len(b), len(l), e, len(want), wantE)
		}
		if !slices.Equal(b, was) {
			t.Fatalf("Unpack changed %v to %v", was, b)
		}
		seen[e]++
	}
	for _, e := range []api.Errno{api.OK, api.ErrShort, api.ErrForm, api.ErrLong} {
		if seen[e] < 5 {
			t.Errorf("just %d texts answer %d", seen[e], e)
		}
	}
}

// P4.2: many fields, empty ones, small ones, and some of Most.
func TestUnpackMany(t *testing.T) {
	const count = 300_000
	l, e := Unpack(make([]byte, count))
	if len(l) != count || e != api.OK {
		t.Fatalf("Unpack of %d bytes 0 = %d fields, %d", count, len(l), e)
	}
	if l, e := Unpack(append(make([]byte, count), 1)); len(l) != 0 || e != api.ErrShort {
		t.Fatalf("Unpack of %d fields, and one that ends ahead, = %d fields, %d", count, len(l), e)
	}
	var want [][]byte
	for i := range 40_000 {
		want = append(want, []byte{byte(i), byte(i >> 8)}[:i%3])
		if i%5000 == 0 {
			want = append(want, text(Most))
		}
	}
	if l, e := Unpack(Pack(want...)); !same(l, want) || e != api.OK {
		t.Fatalf("Unpack of %d fields = %d, %d", len(want), len(l), e)
	}
}

// P4.2: what Unpack answers is new memory: no field shares any with the bytes, with another field, or with another answer, the room behind its end among it.
func TestUnpackIsNew(t *testing.T) {
	want := [][]byte{{1}, nil, {2, 2}, {}, text(127), text(128), nil, {3, 3, 3}, text(Most), {4}}
	b := roomy(slowPack(want))
	whole := slices.Clone(b[:cap(b)])
	first, _ := Unpack(b)
	second, _ := Unpack(b)
	for i := range want {
		spoil(first[i])
		_ = append(first[i], 9, 9, 9, 9)
		for k, f := range first[i+1:] {
			if !slices.Equal(f, want[i+1+k]) {
				t.Fatalf("the fields %d and %d share memory", i, i+1+k)
			}
		}
	}
	for i := range want {
		spoil(first[i])
		if !slices.Equal(first[i], want[i]) {
			t.Fatalf("the field %d shares memory with one behind it", i)
		}
	}
	if !slices.Equal(b[:cap(b)], whole) {
		t.Fatal("Unpack changed or shares what it was given")
	}
	spoil(b)
	if !same(second, want) {
		t.Fatal("an answer of Unpack became another one")
	}
}

// P4.3: what was packed is unpacked.
func TestPackedIsUnpacked(t *testing.T) {
	var all [][]byte
	for _, c := range lengths() {
		all = append(all, text(c.n), nil)
	}
	lists := [][][]byte{nil, {nil}, {{}}, {nil, nil}, {{0}}, {{255}, {128, 0}}, all}
	for i := range 300 {
		lists = append(lists, fields(i*3, i%20))
	}
	for _, want := range lists {
		if got, e := Unpack(Pack(want...)); !same(got, want) || e != api.OK {
			t.Fatalf("of %d fields that were packed %d are unpacked, %d", len(want), len(got), e)
		}
	}
}

// P4.3: with some too long among them, all others are unpacked.
func TestPackedWithoutTooLong(t *testing.T) {
	for _, long := range tooLong() {
		got, e := Unpack(Pack([]byte{1}, long, nil, text(Most), long, []byte{2, 3}))
		if want := [][]byte{{1}, nil, text(Most), {2, 3}}; !same(got, want) || e != api.OK {
			t.Errorf("beside those of %d bytes %d are unpacked, %d", len(long), len(got), e)
		}
	}
}

// P4.3: what was put is got, whatever stands behind it, and nothing is left over.
func TestPutIsGot(t *testing.T) {
	for _, c := range lengths() {
		f := text(c.n)
		laid := Put(nil, f)
		for _, behind := range aheads() {
			got, size, e := Get(slices.Concat(laid, behind))
			if !slices.Equal(got, f) || size != len(laid) || e != api.OK {
				t.Fatalf("of %d bytes that were put %d are got, %d, %d", c.n, len(got), size, e)
			}
		}
	}
}

// P4.3: what is unpacked is packed by the same bytes, and what is got is put by them.
func TestUnpackedIsPacked(t *testing.T) {
	packed := 0
	for _, b := range texts() {
		if f, size, e := Get(b); e == api.OK && !slices.Equal(Put(nil, f), b[:size]) {
			t.Fatalf("Get of %d bytes, put again, has %d bytes, want %d", len(b), len(Put(nil, f)), size)
		}
		l, e := Unpack(b)
		if e != api.OK {
			continue
		}
		if got := Pack(l...); !slices.Equal(got, b) {
			t.Fatalf("Unpack of %d bytes, packed again, has %d bytes", len(b), len(got))
		}
		packed++
	}
	if packed < 1000 {
		t.Errorf("just %d texts are unpacked", packed)
	}
}

// P4.3: what was packed is not unpacked once a byte is gone, as long as the last field has one.
func TestCutOffIsNotUnpacked(t *testing.T) {
	for i := range 100 {
		l := append(fields(i*7, i%5), []byte{byte(i)})
		b := Pack(l...)
		if got, e := Unpack(b[:len(b)-1]); len(got) != 0 || e != api.ErrShort {
			t.Fatalf("without its last byte %d fields are unpacked, %d", len(got), e)
		}
	}
}

// What is answered hangs on the bytes alone: great lengths end at once.
func TestGreatLengths(t *testing.T) {
	for _, n := range []uint64{Most + 1, math.MaxInt32, math.MaxUint32, 1 << 40, math.MaxInt64, 1 << 63, math.MaxUint64} {
		head := varint.Put(nil, n)
		for _, b := range [][]byte{head, append(slices.Clone(head), text(1000)...)} {
			if f, size, e := Get(b); len(f) != 0 || size != 0 || e != api.ErrLong {
				t.Errorf("Get of the length %d = %d bytes, %d, %d", n, len(f), size, e)
			}
			if l, e := Unpack(b); len(l) != 0 || e != api.ErrLong {
				t.Errorf("Unpack of the length %d = %d fields, %d", n, len(l), e)
			}
		}
	}
}
