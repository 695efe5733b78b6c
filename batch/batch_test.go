package batch

import (
	"slices"
	"strings"
	"testing"

	"strandline/api"
	"strandline/op"
)

// The chapter's example, the limits, and a batch of two with its bytes written out.
func TestExample(t *testing.T) {
	both := []api.Op{{Kind: api.OpPut, Key: "a", Val: "x"}, {Kind: api.OpDelete, Key: "a"}}
	sameOps(t, "a put, and a delete of the same Key", Last(both), both[1:])
	want := []byte{1, 1, 97, 1, 120, 2, 1, 97}
	if b, e := Encode(both); !slices.Equal(b, want) || e != api.OK || !Right(both) {
		t.Errorf("Encode = %v, %d", b, e)
	}
	sameDecode(t, "these bytes", want, both, api.OK)
	if api.OpPut != put || api.OpDelete != del || api.MaxKey != mostKey || api.MaxVal != mostVal || api.MaxOps != most {
		t.Errorf("OpPut, OpDelete, MaxKey, MaxVal, MaxOps = %d, %d, %d, %d, %d", api.OpPut, api.OpDelete, api.MaxKey, api.MaxVal, api.MaxOps)
	}
}

// noEncode holds a list against being no batch: it isn't right, and Encode answers ErrArg with nothing beside it.
func noEncode(t *testing.T, why string, l []api.Op) {
	t.Helper()
	if Right(l) {
		t.Errorf("%s: %d operations are a batch", why, len(l))
	}
	if b, e := Encode(l); len(b) != 0 || e != api.ErrArg {
		t.Errorf("%s: Encode of %d operations = %d bytes, %d", why, len(l), len(b), e)
	}
}

// sameEncode holds a list against being a batch with these bytes.
func sameEncode(t *testing.T, why string, l []api.Op, want []byte) {
	t.Helper()
	if !Right(l) {
		t.Errorf("%s: %d operations are no batch", why, len(l))
	}
	if b, e := Encode(l); !slices.Equal(b, want) || e != api.OK {
		t.Errorf("%s: Encode of %d operations = %v, %d, want %v", why, len(l), b, e, want)
	}
}

// P12.1: no operations are no batch, whatever lies in the room behind them.
func TestOfNone(t *testing.T) {
	noEncode(t, "nil", nil)
	noEncode(t, "none", []api.Op{})
	noEncode(t, "none, and room", roomyOps(nil))
	noEncode(t, "none of a batch", some(8)[:0])
}

// P12.1: right operations are a batch as long as they are 1 to 8.
func TestOfCounts(t *testing.T) {
	for _, n := range counts() {
		l := some(n)
		if n >= 1 && n <= 8 {
			sameEncode(t, "right ones", l, slowBytes(l))
			sameEncode(t, "right ones, and room", roomyOps(l), slowBytes(l))
		} else {
			noEncode(t, "right ones", l)
			noEncode(t, "right ones, and room", roomyOps(l))
		}
	}
	for n := range 40 {
		same := slices.Repeat([]api.Op{{Kind: put, Key: "k", Val: "v"}}, n)
		if Right(same) != (n >= 1 && n <= 8) {
			t.Errorf("%d times the same operation: Right = %t", n, Right(same))
		}
	}
}

// P12.1: one that isn't right, at the first place, in between, or at the last one, and nowhere else.
func TestOfOneWrong(t *testing.T) {
	for _, n := range counts() {
		for _, wrong := range wrongOps() {
			for _, at := range places(n) {
				l := some(min(n, 300))
				l[at*len(l)/n] = wrong
				noEncode(t, "one that isn't right", l)
			}
		}
	}
	for n := 1; n <= 8; n++ {
		for at := range n {
			for _, wrong := range wrongOps() {
				l := some(n)
				l[at] = wrong
				noEncode(t, "one that isn't right", l)
				l[at] = api.Op{Kind: put, Key: "right"}
				sameEncode(t, "a right one in its place", l, slowBytes(l))
			}
		}
	}
}

// P12.1: all that aren't right.
func TestOfAllWrong(t *testing.T) {
	for _, n := range []int{1, 2, 8, 9, 300} {
		for _, wrong := range wrongOps() {
			noEncode(t, "all wrong", slices.Repeat([]api.Op{wrong}, n))
		}
	}
}

// P12.1: an operation that isn't right in the room behind a batch's end isn't one of it.
func TestOfRoom(t *testing.T) {
	for n := 1; n <= 8; n++ {
		l := append(some(n), wrongOps()...)[:n]
		sameEncode(t, "wrong ones in the room", l, slowBytes(l))
	}
}

// P12.1: Encode at the bounds, with the bytes written out.
func TestEncodeWrittenOut(t *testing.T) {
	key, val := mixed(24), mixed(128)
	for _, c := range []struct {
		why  string
		l    []api.Op
		want []byte
	}{
		{"a delete", []api.Op{{Kind: del, Key: "a"}}, []byte{2, 1, 97}},
		{"a put", []api.Op{{Kind: put, Key: "a"}}, []byte{1, 1, 97, 0}},
		{"bytes 0 and 127", []api.Op{{Kind: put, Key: "\x00", Val: "\x7f"}, {Kind: del, Key: "\x7f"}}, []byte{1, 1, 0, 1, 127, 2, 1, 127}},
		{"bytes 128 and 255", []api.Op{{Kind: del, Key: "\x80"}, {Kind: put, Key: "\xff", Val: "\x80\xff"}}, []byte{2, 1, 128, 1, 1, 255, 2, 128, 255}},
		{"the same Key, one behind the other", []api.Op{{Kind: put, Key: "k", Val: "1"}, {Kind: del, Key: "k"}, {Kind: put, Key: "k", Val: "2"}}, []byte{1, 1, 107, 1, 49, 2, 1, 107, 1, 1, 107, 1, 50}},
		{"Keys the other way about", []api.Op{{Kind: del, Key: "b"}, {Kind: del, Key: "a"}}, []byte{2, 1, 98, 2, 1, 97}},
		{"the greatest put", []api.Op{{Kind: put, Key: key, Val: val}}, slices.Concat([]byte{1, 24}, []byte(key), []byte{128, 1}, []byte(val))},
		{"the greatest delete", []api.Op{{Kind: del, Key: key}}, slices.Concat([]byte{2, 24}, []byte(key))},
		{"the greatest batch", slices.Repeat([]api.Op{{Kind: put, Key: key, Val: val}}, 8), slices.Repeat(slices.Concat([]byte{1, 24}, []byte(key), []byte{128, 1}, []byte(val)), 8)},
		{"the least of eight", slices.Repeat([]api.Op{{Kind: del, Key: "a"}}, 8), []byte{2, 1, 97, 2, 1, 97, 2, 1, 97, 2, 1, 97, 2, 1, 97, 2, 1, 97, 2, 1, 97, 2, 1, 97}},
	} {
		sameEncode(t, c.why, c.l, c.want)
		sameDecode(t, c.why, c.want, c.l, api.OK)
	}
}

// P12.1: a batch's bytes are layer 10's of each operation, one behind the other.
func TestEncodeIsPut(t *testing.T) {
	batches := manyBatches(2000)
	for _, o := range telling() {
		batches = append(batches, []api.Op{o}, []api.Op{o, o}, slices.Repeat([]api.Op{o}, 8))
	}
	for _, l := range batches {
		var want []byte
		for _, o := range l {
			b, e := op.Put(nil, o)
			if e != api.OK {
				t.Fatalf("%v isn't put: %d", o, e)
			}
			want = append(want, b...)
		}
		sameEncode(t, "a batch", l, want)
	}
}

// P12.1: Right, Encode and Last change nothing that was given, nor in the room behind it.
func TestGivenStays(t *testing.T) {
	lists := append(manyBatches(100), nil, some(9), some(300), wrongOps(), append(some(4), wrongOps()...))
	for _, given := range lists {
		l := roomyOps(given)
		whole := slices.Clone(l[:cap(l)])
		Right(l)
		Encode(l)
		Last(l)
		if !slices.Equal(l[:cap(l)], whole) {
			t.Fatalf("of %d operations some were changed", len(l))
		}
	}
}

// P12.1: Encode's bytes are new ones: what is given may change, and what is told, and neither changes the other.
func TestEncodeIsNew(t *testing.T) {
	for _, given := range manyBatches(100) {
		l, want := roomyOps(given), slowBytes(given)
		b, _ := Encode(l)
		again, _ := Encode(l)
		spoilBytes(again)
		if !slices.Equal(l, given) || !slices.Equal(b, want) {
			t.Fatalf("another answer's change is seen in this one: %v", b)
		}
		spoilOps(l)
		if !slices.Equal(b, want) {
			t.Fatalf("the batch's change is seen in its bytes: %v", b)
		}
	}
}

// P12.3: what is encoded is decoded.
func TestEncodedIsDecoded(t *testing.T) {
	batches := manyBatches(4000)
	for _, o := range telling() {
		for n := 1; n <= 8; n++ {
			batches = append(batches, slices.Repeat([]api.Op{o}, n), append(some(n-1), o))
		}
	}
	for _, l := range batches {
		b, e := Encode(l)
		if e != api.OK {
			t.Fatalf("Encode of %v = %d", l, e)
		}
		sameDecode(t, "what was encoded", b, l, api.OK)
		sameDecode(t, "what was encoded, and room", roomyBytes(b), l, api.OK)
	}
}

// P12.3: what is decoded is a batch, and encoded by the same bytes.
func TestDecodedIsEncoded(t *testing.T) {
	decoded := 0
	for _, b := range texts() {
		l, e := Decode(b)
		if e != api.OK {
			continue
		}
		sameEncode(t, "what was decoded", l, b)
		decoded++
	}
	if decoded < 2000 {
		t.Errorf("just %d texts are decoded", decoded)
	}
}

// P12.1, P12.3: lists of all kinds are batches as the chapter's words, gone through one by one, tell, and of them alone there are bytes.
func TestEncodeByWords(t *testing.T) {
	right, all := 0, append(telling(), append(wrongOps(), manyOps(100)...)...)
	for i, n := range scatter(30000) {
		var l []api.Op
		for k := range n >> 50 % 11 {
			if at := n >> k % uint64(len(all)); n>>20%2 == 0 || slowRight(all[at]) {
				l = append(l, all[at])
			}
		}
		want := slowBatch(l)
		if Right(l) != want {
			t.Fatalf("list %d: Right = %t: %v", i, !want, l)
		}
		if want {
			sameEncode(t, "a batch", l, slowBytes(l))
			right++
		} else {
			noEncode(t, "no batch", l)
		}
	}
	if right < 5000 || right > 25000 {
		t.Errorf("%d lists are batches", right)
	}
}

// P12.1: a put's Key and Val are kept apart, and so are neighbours' bytes.
func TestEncodeTellsApart(t *testing.T) {
	seen := map[string]int{}
	for i, l := range [][]api.Op{
		{{Kind: put, Key: "ab", Val: "c"}}, {{Kind: put, Key: "a", Val: "bc"}}, {{Kind: put, Key: "abc"}}, {{Kind: del, Key: "abc"}},
		{{Kind: del, Key: "ab"}, {Kind: del, Key: "c"}}, {{Kind: del, Key: "a"}, {Kind: del, Key: "bc"}}, {{Kind: put, Key: "a"}, {Kind: put, Key: "bc"}},
		{{Kind: put, Key: "a", Val: strings.Repeat("\x01", 4)}}, {{Kind: put, Key: "a"}, {Kind: put, Key: "\x01"}},
	} {
		b, e := Encode(l)
		if other, there := seen[string(b)]; there || e != api.OK {
			t.Errorf("batch %d has the bytes of %d: %v, %d", i, other, b, e)
		}
		seen[string(b)] = i
	}
}
