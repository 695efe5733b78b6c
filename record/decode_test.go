package record

import (
	"math"
	"slices"
	"testing"

	"strandline/api"
	"strandline/varint"
)

// sameDecode holds what Decode tells of b against what is wanted.
func sameDecode(t *testing.T, why string, b []byte, want api.Rec, wantE api.Errno) {
	t.Helper()
	r, e := Decode(b)
	if e != wantE || !slowSame(r, want) {
		t.Errorf("%s: Decode of %d bytes %v = %v, %d, want %v, %d", why, len(b), b[:min(len(b), 24)], r, e, want, wantE)
	}
}

// noDecode holds it against an error, with nothing beside it.
func noDecode(t *testing.T, why string, b []byte, e api.Errno) {
	t.Helper()
	sameDecode(t, why, b, api.Rec{}, e)
}

// wrongNumber is bytes that begin with no number's short bytes.
type wrongNumber struct {
	why string
	b   []byte
	e   api.Errno
	// ended is, whether the error comes of b's end: with more behind it it may be another one, or none.
	ended bool
}

// wrongNumbers are those of each error of layer 2.
func wrongNumbers() []wrongNumber {
	nine := func(x byte, behind ...byte) []byte { return append(slices.Repeat([]byte{x}, 9), behind...) }
	return []wrongNumber{
		{"none", nil, api.ErrShort, true},
		{"one byte, cut off", []byte{128}, api.ErrShort, true},
		{"one full byte, cut off", []byte{255}, api.ErrShort, true},
		{"two bytes, cut off", []byte{129, 128}, api.ErrShort, true},
		{"four bytes, cut off", []byte{255, 255, 255, 255}, api.ErrShort, true},
		{"five bytes, cut off", []byte{255, 255, 255, 255, 135}, api.ErrShort, true},
		{"nine bytes, cut off", nine(128), api.ErrShort, true},
		{"nine full bytes, cut off", nine(255), api.ErrShort, true},
		{"0 in two bytes", []byte{128, 0}, api.ErrForm, false},
		{"1 in two bytes", []byte{129, 0}, api.ErrForm, false},
		{"1 in three bytes", []byte{129, 128, 0}, api.ErrForm, false},
		{"127 in two bytes", []byte{255, 0}, api.ErrForm, false},
		{"128 in three bytes", []byte{128, 129, 0}, api.ErrForm, false},
		{"the greatest LSN in six bytes", []byte{255, 255, 255, 255, 135, 0}, api.ErrForm, false},
		{"a tenth byte 0", nine(255, 0), api.ErrForm, false},
		{"2^64", nine(128, 2), api.ErrRange, false},
		{"2^64 and 1", append([]byte{129}, append(slices.Repeat([]byte{128}, 8), 2)...), api.ErrRange, false},
		{"ten full bytes", nine(255, 127), api.ErrRange, false},
		{"eleven bytes", nine(128, 129, 1), api.ErrRange, false},
		{"eleven bytes, the tenth one 128", nine(128, 128, 1), api.ErrRange, false},
	}
}

// great are numbers of 64 bits: right ones, those above the greatest LSN, what fewer bits make right ones of, and the ends of the type.
func great() []uint64 {
	l := []uint64{0, 1<<31 + 1, 1<<32 - 1, 1 << 32, 1<<32 + 1, 1<<32 + 2, 1<<32 + 127, 1<<32 + 300, 1 << 33, 1<<62 + 1, 1<<63 - 1, 1 << 63, 1<<63 + 1, 1<<63 + 300}
	for n := range uint64(6) {
		l = append(l, 1<<31-3+n, math.MaxUint64-n)
	}
	for _, lsn := range rightLSNs() {
		l = append(l, uint64(lsn), uint64(-lsn), uint64(lsn)+1<<31, uint64(lsn)+1<<32, uint64(lsn)+1<<63)
	}
	return l
}

// laid are these two bytes, and the numbers' short bytes.
func laid(kind, chain byte, lsn, back uint64) []byte {
	return varint.Put(varint.Put([]byte{kind, chain}, lsn), back)
}

// P11.2: Decode at the bounds, with the bytes written out.
func TestDecode(t *testing.T) {
	for _, c := range []struct {
		b []byte
		r api.Rec
		e api.Errno
	}{
		{[]byte{1, 0, 1, 1}, api.Rec{Kind: 1, LSN: 1}, api.OK},
		{[]byte{1, 0, 1, 0}, api.Rec{}, api.ErrForm},
		{[]byte{1, 0, 1, 2}, api.Rec{}, api.ErrForm},
		{[]byte{1, 0, 0, 0}, api.Rec{}, api.ErrForm},
		{[]byte{1, 0, 0, 1}, api.Rec{}, api.ErrForm},
		{[]byte{0, 0, 1, 1}, api.Rec{}, api.ErrForm},
		{[]byte{9, 3, 1, 1}, api.Rec{Kind: 9, Chain: 3, LSN: 1}, api.OK},
		{[]byte{10, 3, 1, 1}, api.Rec{}, api.ErrForm},
		{[]byte{9, 4, 1, 1}, api.Rec{}, api.ErrForm},
		{[]byte{2, 1, 127, 127, 0}, api.Rec{Kind: 2, Chain: 1, LSN: 127, Data: []byte{0}}, api.OK},
		{[]byte{2, 1, 127, 1, 0, 127, 128, 255}, api.Rec{Kind: 2, Chain: 1, LSN: 127, Prev: 126, Data: []byte{0, 127, 128, 255}}, api.OK},
		{[]byte{2, 1, 127, 128, 1, 5}, api.Rec{}, api.ErrForm},
		{[]byte{3, 2, 128, 1, 127}, api.Rec{Kind: 3, Chain: 2, LSN: 128, Prev: 1}, api.OK},
		{[]byte{3, 2, 128, 1, 128, 1}, api.Rec{Kind: 3, Chain: 2, LSN: 128}, api.OK},
		{[]byte{3, 2, 128, 1, 129, 1}, api.Rec{}, api.ErrForm},
		{[]byte{8, 0, 255, 255, 255, 255, 7, 255, 255, 255, 255, 7}, api.Rec{Kind: 8, LSN: mostLSN}, api.OK},
		{[]byte{8, 0, 255, 255, 255, 255, 7, 1, 1, 1}, api.Rec{Kind: 8, LSN: mostLSN, Prev: mostLSN - 1, Data: []byte{1, 1}}, api.OK},
		{[]byte{8, 0, 255, 255, 255, 255, 7, 128, 128, 128, 128, 8}, api.Rec{}, api.ErrForm},
		{[]byte{8, 0, 128, 128, 128, 128, 8, 1}, api.Rec{}, api.ErrForm},
		{[]byte{8, 0, 129, 128, 128, 128, 16, 1}, api.Rec{}, api.ErrForm},
	} {
		sameDecode(t, "written out", c.b, c.r, c.e)
		sameDecode(t, "with bytes in its room", roomy(c.b), c.r, c.e)
	}
}

// P11.2: Decode of nil, of none, of one, two and three bytes, each first one and each second one.
func TestDecodeOfFew(t *testing.T) {
	for _, b := range [][]byte{nil, {}, roomy(nil)} {
		noDecode(t, "no bytes", b, api.ErrShort)
	}
	for x := range 256 {
		noDecode(t, "one byte", []byte{byte(x)}, api.ErrShort)
		noDecode(t, "one byte, and others in its room", roomy([]byte{byte(x)}), api.ErrShort)
		for y := range 256 {
			noDecode(t, "two bytes", []byte{byte(x), byte(y)}, api.ErrShort)
			// An LSN of one byte, and no second number; or one that is cut off.
			for _, z := range []byte{0, 1, 127, 128, 255} {
				noDecode(t, "three bytes", []byte{byte(x), byte(y), z}, api.ErrShort)
			}
		}
	}
	noDecode(t, "two bytes, and others in their room", roomy([]byte{1, 0}), api.ErrShort)
	noDecode(t, "three bytes, and others in their room", roomy([]byte{1, 0, 1}), api.ErrShort)
}

// P11.2: each first byte and each second byte, of what is right else.
func TestDecodeOfKindAndChain(t *testing.T) {
	for kind := range 256 {
		for chain := range 256 {
			b := []byte{byte(kind), byte(chain), 172, 2, 3, 7}
			if kind >= 1 && kind <= 9 && chain <= 3 {
				sameDecode(t, "a record", b, api.Rec{Kind: kind, Chain: chain, LSN: 300, Prev: 297, Data: []byte{7}}, api.OK)
			} else {
				noDecode(t, "no Kind or no Chain", b, api.ErrForm)
			}
		}
	}
}

// P11.2: each beginning of a record's bytes is short, or has less Data, whatever lies in the room behind its end.
func TestDecodeOfBeginnings(t *testing.T) {
	for _, head := range heads() {
		b := slowBytes(withData(head, []byte(mixed(20))))
		ahead := len(slowBytes(head))
		for i := range len(b) + 1 {
			if i < ahead {
				noDecode(t, "a beginning", slices.Clone(b[:i]), api.ErrShort)
				noDecode(t, "a beginning, the others in its room", b[:i], api.ErrShort)
				continue
			}
			want := withData(head, []byte(mixed(20)[:i-ahead]))
			sameDecode(t, "with less Data", slices.Clone(b[:i]), want, api.OK)
			sameDecode(t, "with less Data, the others in its room", b[:i], want, api.OK)
		}
	}
}

// P11.2: each error of layer 2 at LSN goes ahead of what is wrong with the Kind, the Chain and the second number.
func TestDecodeOfWrongLSN(t *testing.T) {
	for _, c := range wrongNumbers() {
		for _, head := range [][]byte{{1, 0}, {9, 3}, {0, 0}, {10, 0}, {1, 4}, {255, 255}} {
			b := slices.Concat(head, c.b)
			noDecode(t, "LSN: "+c.why, b, c.e)
			noDecode(t, "LSN, others in the room: "+c.why, roomy(b), c.e)
			if c.ended {
				continue
			}
			for _, behind := range [][]byte{{0}, {1}, {127}, {1, 1}, {128}, []byte(mixed(300))} {
				noDecode(t, "LSN, bytes behind: "+c.why, slices.Concat(b, behind), c.e)
			}
			for _, second := range wrongNumbers() {
				noDecode(t, "LSN: "+c.why+", the second number: "+second.why, slices.Concat(b, second.b), c.e)
			}
		}
	}
}

// P11.2: each error of layer 2 at the second number goes ahead of what is wrong with the Kind, the Chain and the LSN.
func TestDecodeOfWrongSecond(t *testing.T) {
	for _, c := range wrongNumbers() {
		for _, head := range [][]byte{{1, 0}, {9, 3}, {0, 0}, {10, 0}, {1, 4}, {255, 255}} {
			for _, lsn := range great() {
				b := slices.Concat(varint.Put(head, lsn), c.b)
				noDecode(t, "the second number: "+c.why, b, c.e)
				noDecode(t, "the second number, others in the room: "+c.why, roomy(b), c.e)
				if !c.ended {
					noDecode(t, "the second number, bytes behind: "+c.why, append(slices.Clone(b), 1, 1, 1), c.e)
				}
			}
		}
	}
}

// P11.2: an LSN and a second number of 64 bits each: right are just those up to MaxLSN, and up to LSN.
func TestDecodeOfGreat(t *testing.T) {
	right := 0
	for _, lsn := range great() {
		for _, back := range append(great(), lsn-1, lsn+1, lsn+2, 2*lsn, lsn/2) {
			for _, data := range [][]byte{nil, {0}, {255, 1}} {
				b := append(laid(7, 2, lsn, back), data...)
				if lsn < 1 || lsn > 2147483647 || back < 1 || back > lsn {
					noDecode(t, "not right", b, api.ErrForm)
					continue
				}
				sameDecode(t, "right", b, api.Rec{Kind: 7, Chain: 2, LSN: int(lsn), Prev: int(lsn - back), Data: data}, api.OK)
				right++
			}
		}
		if t.Failed() {
			t.Fatalf("the LSN is %d", lsn)
		}
	}
	if right < 500 {
		t.Errorf("just %d are right", right)
	}
}

// P11.2: as many bytes as may be, and more, of a record and of others.
func TestDecodeOfLong(t *testing.T) {
	for _, r := range heads() {
		head := slowBytes(r)
		for _, n := range []int{510, 511, 512} {
			r.Data = []byte(mixed(n - len(head)))
			sameDecode(t, "not too long", slices.Concat(head, r.Data), r, api.OK)
			sameDecode(t, "not too long, others in the room", roomy(slices.Concat(head, r.Data)), r, api.OK)
		}
		for _, n := range []int{513, 514, 768, 1024, 1 << 16} {
			noDecode(t, "too long", slices.Concat(head, []byte(mixed(n-len(head)))), api.ErrLong)
		}
	}
}

// P11.2: ErrLong goes ahead of all else; of so many bytes as may be the others are told.
func TestDecodeOfLongAndWrong(t *testing.T) {
	heads := [][]byte{{0, 0, 1, 1}, {1, 4, 1, 1}, {1, 0, 0, 1}, {1, 0, 1, 0}, {1, 0, 1, 2}, laid(1, 0, 1<<31, 1), {10, 255, 1, 1}}
	for _, b := range heads {
		noDecode(t, "wrong", b, api.ErrForm)
		noDecode(t, "wrong, with 512 bytes", append(slices.Clone(b), make([]byte, 512-len(b))...), api.ErrForm)
		noDecode(t, "wrong, with 513 bytes", append(slices.Clone(b), make([]byte, 513-len(b))...), api.ErrLong)
	}
	for _, c := range wrongNumbers() {
		if c.ended {
			continue
		}
		for _, head := range [][]byte{{1, 0}, {0, 0}, {1, 0, 1}, {0, 9, 5}} {
			b := slices.Concat(head, c.b)
			noDecode(t, c.why+", with 512 bytes", append(slices.Clone(b), make([]byte, 512-len(b))...), c.e)
			noDecode(t, c.why+", with 513 bytes", append(slices.Clone(b), make([]byte, 513-len(b))...), api.ErrLong)
		}
	}
	for _, x := range []byte{0, 1, 127, 128, 255} {
		b := slices.Repeat([]byte{x}, 513)
		noDecode(t, "one byte, again and again", b, api.ErrLong)
		want, e := slowDecode(b[:512])
		sameDecode(t, "one byte, but for the last one", b[:512], want, e)
	}
}

// P11.2: Decode tells of any bytes what the chapter's words, gone through one by one, tell.
func TestDecodeByWords(t *testing.T) {
	seen := map[api.Errno]int{}
	for _, b := range texts() {
		was := slices.Clone(b)
		r, e := slowDecode(b)
		sameDecode(t, "any bytes", b, r, e)
		if !slices.Equal(b, was) {
			t.Fatalf("Decode changed %v to %v", was, b)
		}
		if t.Failed() {
			t.Fatalf("the bytes are %v", b)
		}
		seen[e]++
	}
	for _, e := range []api.Errno{api.OK, api.ErrShort, api.ErrForm, api.ErrLong} {
		if seen[e] < 1000 {
			t.Errorf("just %d texts answer %d", seen[e], e)
		}
	}
}

// P11.2: what Decode answers stays as it is, whatever becomes of the bytes, and the other way round.
func TestDecodeIsNew(t *testing.T) {
	for _, want := range append(manyRecs(50), withData(api.Rec{Kind: 1, LSN: 1}, []byte(mixed(508))), api.Rec{Kind: 1, LSN: 1}) {
		b := roomy(slowBytes(want))
		whole := slices.Clone(b[:cap(b)])
		first, _ := Decode(b)
		second, _ := Decode(b)
		spoil(first.Data)
		_ = append(first.Data, 9, 9, 9)
		if !slices.Equal(b[:cap(b)], whole) {
			t.Fatalf("Decode of %v changed or shares what was given", want)
		}
		spoil(b)
		if !slowSame(second, want) {
			t.Fatalf("Decode of %v: the answer became another one", want)
		}
	}
}

// P11.3: what was encoded is decoded, with nothing left over.
func TestEncodedIsDecoded(t *testing.T) {
	l := manyRecs(4000)
	for _, r := range heads() {
		room := most - len(slowBytes(r))
		for _, data := range datas(room) {
			if len(data) <= room {
				l = append(l, withData(r, data))
			}
		}
	}
	for _, r := range l {
		b, e := Encode(r)
		if e != api.OK {
			t.Fatalf("Encode of %v = %d", r, e)
		}
		if got, e := Decode(b); !Same(got, r) || !slowSame(got, r) || e != api.OK {
			t.Fatalf("%v is decoded as %v, %d", r, got, e)
		}
	}
}

// P11.3: what is decoded is right, and encoded by the same bytes.
func TestDecodedIsEncoded(t *testing.T) {
	decoded := 0
	for _, b := range texts() {
		r, e := Decode(b)
		if e != api.OK {
			continue
		}
		if again, e := Encode(r); !Right(r) || Size(r) != len(b) || !slices.Equal(again, b) || e != api.OK {
			t.Fatalf("%v is decoded as %v, encoded as %v, %d", b, r, again, e)
		}
		decoded++
	}
	if decoded < 5000 {
		t.Errorf("just %d texts are decoded", decoded)
	}
}
