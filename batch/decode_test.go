package batch

import (
	"slices"
	"testing"

	"strandline/api"
)

// wrongBytes is bytes that begin with no operation.
type wrongBytes struct {
	why string
	b   []byte
	e   api.Errno
	// ended is, whether the error comes of b's end: with more behind it it may be another one, or none.
	ended bool
}

// wrongs are those of each error of layer 10.
func wrongs() []wrongBytes {
	nine := slices.Repeat([]byte{255}, 9)
	l := []wrongBytes{
		{"no Kind: 0", []byte{0}, api.ErrForm, false},
		{"no Kind: 3", []byte{3}, api.ErrForm, false},
		{"no Kind: 128", []byte{128, 1, 97}, api.ErrForm, false},
		{"no Kind: 255", []byte{255, 1, 97, 0}, api.ErrForm, false},
		{"no Kind, and a Key that is too long", []byte{4, 129, 128, 4}, api.ErrForm, false},
	}
	for _, kind := range []byte{put, del} {
		l = append(l, behindBytes("the Key: ", []byte{kind}, wrongFields(nine))...)
		l = append(l,
			wrongBytes{"an empty Key", []byte{kind, 0, 0}, api.ErrForm, false},
			wrongBytes{"a Key of 25 bytes", slices.Concat([]byte{kind, 25}, []byte(mixed(25)), []byte{0}), api.ErrForm, false},
			wrongBytes{"a Key of 65536 bytes", slices.Concat([]byte{kind, 128, 128, 4}, []byte(mixed(65536)), []byte{0}), api.ErrForm, false},
		)
	}
	l = append(l, behindBytes("Val: ", []byte{put, 1, 97}, wrongFields(nine))...)
	l = append(l, behindBytes("an empty Key, and Val: ", []byte{put, 0}, wrongFields(nine))...)
	return append(l,
		wrongBytes{"a Val of 129 bytes", slices.Concat([]byte{put, 1, 97, 129, 1}, []byte(mixed(129))), api.ErrForm, false},
		wrongBytes{"a Val of 65536 bytes", slices.Concat([]byte{put, 1, 97, 128, 128, 4}, []byte(mixed(65536))), api.ErrForm, false},
	)
}

// wrongFields are bytes that begin with no field.
func wrongFields(nine []byte) []wrongBytes {
	return []wrongBytes{
		{"no length", nil, api.ErrShort, true},
		{"a length that is cut off", []byte{128}, api.ErrShort, true},
		{"two bytes, and one there", []byte{2, 97}, api.ErrShort, true},
		{"128 bytes, and 127 there", slices.Concat([]byte{128, 1}, []byte(mixed(127))), api.ErrShort, true},
		{"0 in two bytes", []byte{128, 0}, api.ErrForm, false},
		{"1 in two bytes", []byte{129, 0, 97}, api.ErrForm, false},
		{"a length of 2^64", append(slices.Repeat([]byte{128}, 9), 2), api.ErrRange, false},
		{"one more than a field has", []byte{129, 128, 4}, api.ErrLong, false},
		{"a length of 2^64 - 1", append(slices.Clone(nine), 1), api.ErrLong, false},
	}
}

// behindBytes are these, each behind some bytes.
func behindBytes(why string, ahead []byte, l []wrongBytes) []wrongBytes {
	var told []wrongBytes
	for _, c := range l {
		told = append(told, wrongBytes{why + c.why, slices.Concat(ahead, c.b), c.e, c.ended})
	}
	return told
}

// P12.1: no bytes are no batch's.
func TestDecodeOfNone(t *testing.T) {
	noDecode(t, "nil", nil, api.ErrForm)
	noDecode(t, "none", []byte{}, api.ErrForm)
	noDecode(t, "none, and room", roomyBytes(nil), api.ErrForm)
}

// P12.1: one byte of each value.
func TestDecodeOfOneByte(t *testing.T) {
	for x := range 256 {
		want := api.ErrForm
		if x == put || x == del {
			want = api.ErrShort
		}
		noDecode(t, "one byte", []byte{byte(x)}, want)
		noDecode(t, "one byte, and room", roomyBytes([]byte{byte(x)}), want)
	}
}

// P12.1: each beginning of a batch's bytes: those that end with an operation are a batch, all others are short, whatever lies in the room behind.
func TestDecodeOfBeginnings(t *testing.T) {
	batches := append(manyBatches(24), some(8), slices.Repeat([]api.Op{{Kind: put, Key: mixed(24), Val: mixed(128)}}, 8), slices.Repeat([]api.Op{{Kind: del, Key: "a"}}, 8))
	for _, l := range batches {
		b, ends := slowBytes(l), map[int]int{}
		for n := 1; n <= len(l); n++ {
			ends[len(slowBytes(l[:n]))] = n
		}
		noDecode(t, "nothing of it", b[:0], api.ErrForm)
		for i := 1; i <= len(b); i++ {
			if n := ends[i]; n > 0 {
				sameDecode(t, "whole operations", b[:i], l[:n], api.OK)
				continue
			}
			noDecode(t, "a beginning", slices.Clone(b[:i]), api.ErrShort)
			noDecode(t, "a beginning, the others in its room", b[:i], api.ErrShort)
		}
	}
}

// P12.1: each of layer 10's errors at the first operation, at one in between, and at the last one.
func TestDecodeOfWrong(t *testing.T) {
	for _, c := range wrongs() {
		for n := range 9 {
			ahead := slowBytes(some(n))
			noDecode(t, c.why, slices.Concat(ahead, c.b), c.e)
			if c.ended {
				continue
			}
			for _, behind := range [][]byte{{0}, {1}, {255, 255}, slowBytes(some(1)), slowBytes(some(8)), slowBytes(some(20))} {
				noDecode(t, c.why+", and more behind", slices.Concat(ahead, c.b, behind), c.e)
			}
			for _, other := range wrongs() {
				noDecode(t, c.why+", and "+other.why, slices.Concat(ahead, c.b, []byte{}, other.b), c.e)
			}
		}
	}
}

// P12.1: what layer 10 finds wrong goes ahead of ErrForm of too many, however far behind it stands.
func TestDecodeOfWrongBehindMany(t *testing.T) {
	for _, n := range []int{8, 9, 10, 16, 17, 100, 257, 1000} {
		ahead := slowBytes(some(n))
		for _, c := range wrongs() {
			noDecode(t, c.why, slices.Concat(ahead, c.b), c.e)
		}
		noDecode(t, "a byte that is left over", append(slices.Clone(ahead), put), api.ErrShort)
	}
}

// P12.1: right operations' bytes are a batch as long as they are 1 to 8 of them.
func TestDecodeOfCounts(t *testing.T) {
	for _, n := range counts() {
		b := slowBytes(some(n))
		if n >= 1 && n <= 8 {
			sameDecode(t, "right ones", b, some(n), api.OK)
			sameDecode(t, "right ones, and room", roomyBytes(b), some(n), api.OK)
		} else {
			noDecode(t, "right ones", b, api.ErrForm)
			noDecode(t, "right ones, and room", roomyBytes(b), api.ErrForm)
		}
	}
	for n := range 40 {
		l := slices.Repeat([]api.Op{{Kind: del, Key: "k"}}, n)
		if n >= 1 && n <= 8 {
			sameDecode(t, "the same ones", slowBytes(l), l, api.OK)
		} else {
			noDecode(t, "the same ones", slowBytes(l), api.ErrForm)
		}
	}
}

// P12.1: a batch's bytes with one left over behind.
func TestDecodeOfOneOver(t *testing.T) {
	for _, l := range append(manyBatches(16), some(1), some(7), some(8)) {
		for x := range 256 {
			want := api.ErrForm
			if x == put || x == del {
				want = api.ErrShort
			}
			noDecode(t, "a byte left over", append(slowBytes(l), byte(x)), want)
		}
	}
}

// P12.1: Decode tells of any bytes what the chapters' words, gone through one by one, tell, and changes none of them.
func TestDecodeByWords(t *testing.T) {
	seen := map[api.Errno]int{}
	for _, b := range texts() {
		was := slices.Clone(b)
		want, e := slowDecode(b)
		sameDecode(t, "any bytes", b, want, e)
		if !slices.Equal(b, was) {
			t.Fatalf("Decode changed %v to %v", was, b)
		}
		if t.Failed() {
			t.Fatalf("the bytes are %v", b)
		}
		seen[e]++
	}
	for _, e := range []api.Errno{api.OK, api.ErrShort, api.ErrForm} {
		if seen[e] < 1000 {
			t.Errorf("just %d texts answer %d", seen[e], e)
		}
	}
}

// P12.1: Decode's operations are new ones: the bytes may change, and what is told, and neither changes the other.
func TestDecodeIsNew(t *testing.T) {
	for _, want := range append(manyBatches(100), some(8)) {
		b := roomyBytes(slowBytes(want))
		whole := slices.Clone(b[:cap(b)])
		l, _ := Decode(b)
		again, _ := Decode(b)
		spoilOps(again)
		sameOps(t, "another answer's change", l, want)
		if !slices.Equal(b[:cap(b)], whole) {
			t.Fatalf("what was given was changed")
		}
		spoilBytes(b)
		sameOps(t, "the bytes' change", l, want)
	}
}
