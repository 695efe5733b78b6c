package batch

import (
	"math"
	"slices"
	"strings"
	"testing"

	"strandline/api"
)

// A batch's numbers, as they are told in no code but here.
const (
	put     = 1
	del     = 2
	mostKey = 24
	mostVal = 128
	most    = 8
)

// scatter tells numbers that look like any, the same ones in each run.
func scatter(count int) []uint64 {
	var l []uint64
	n := uint64(88172645463325252)
	for range count {
		n ^= n << 13
		n ^= n >> 7
		n ^= n << 17
		l = append(l, n)
	}
	return l
}

// mixed tells so many bytes of 0, 127, 128, 255, and others.
func mixed(n int) string {
	return strings.Repeat("\x00\x7f\x80\xffab\x01\x02", n/8+1)[:n]
}

// text is one byte of each number.
func text(numbers []uint64) string {
	var b []byte
	for _, n := range numbers {
		b = append(b, byte(n>>32))
	}
	return string(b)
}

// manyOps are right ones of all lengths, with bytes that look like any.
func manyOps(count int) []api.Op {
	var l []api.Op
	numbers := scatter(count + 200)
	for i := range count {
		n := numbers[i]
		o := api.Op{Kind: put, Key: text(numbers[i : i+1+int(n>>20%mostKey)]), Val: text(numbers[i : i+int(n>>40%(mostVal+1))])}
		if n>>10%3 == 0 {
			o.Kind, o.Val = del, ""
		}
		l = append(l, o)
	}
	return l
}

// telling are right operations at the bounds of their lengths, with bytes 0, 127, 128 and 255, and some that look like others' bytes.
func telling() []api.Op {
	var l []api.Op
	for _, key := range []string{"a", "\x00", "\x7f", "\x80", "\xff", "\x01\x01a\x00", mixed(23), mixed(24), strings.Repeat("\x00", 24), strings.Repeat("\xff", 24)} {
		l = append(l, api.Op{Kind: del, Key: key})
		for _, val := range []string{"", "\x00", "\x7f", "\x80", "\xff", "\x02\x01a", mixed(127), mixed(128), strings.Repeat("\xff", 128)} {
			l = append(l, api.Op{Kind: put, Key: key, Val: val})
		}
	}
	return l
}

// wrongOps are operations that aren't right: one of each way to be so, and of several at once.
func wrongOps() []api.Op {
	var l []api.Op
	for _, kind := range []int{math.MinInt, -256, -255, -254, -1, 0, 3, 4, 255, 256, 257, 258, math.MaxUint32 + 2, math.MaxUint32 + 3, math.MaxInt} {
		l = append(l, api.Op{Kind: kind, Key: "a"}, api.Op{Kind: kind, Key: "a", Val: "x"})
	}
	for _, kind := range []int{put, del} {
		l = append(l, api.Op{Kind: kind}, api.Op{Kind: kind, Key: mixed(25)}, api.Op{Kind: kind, Key: mixed(256 + 1)})
		l = append(l, api.Op{Kind: kind, Key: "a", Val: mixed(129)}, api.Op{Kind: kind, Key: "a", Val: mixed(256)})
		l = append(l, api.Op{Kind: kind, Val: "x"}, api.Op{Kind: kind, Key: mixed(25), Val: mixed(129)})
	}
	return append(l, api.Op{}, api.Op{Kind: del, Key: "a", Val: "x"}, api.Op{Kind: del, Key: "a", Val: "\x00"}, api.Op{Kind: del, Key: mixed(24), Val: mixed(128)})
}

// counts are how many operations a list has: a batch's bounds, what is beside them, what is between, and far more.
func counts() []int {
	return []int{0, 1, 2, 3, 7, 8, 9, 10, 15, 16, 17, 255, 256, 257, 264, 1000, 65537}
}

// places are the first one of so many, one in between, and the last one.
func places(count int) []int {
	if count == 0 {
		return nil
	}
	return slices.Compact([]int{0, count / 2, count - 1})
}

// some are so many right operations, all different from their neighbours.
func some(count int) []api.Op {
	t := telling()
	var l []api.Op
	for i := range count {
		l = append(l, t[(i*7+count)%len(t)])
	}
	return l
}

// manyBatches are some of each count, with operations that look like any.
func manyBatches(count int) [][]api.Op {
	all := manyOps(count*most + most)
	var l [][]api.Op
	for i := range count {
		l = append(l, all[i*most:i*most+1+i%most])
	}
	return l
}

// slowRight is what the chapters say of a right operation, case by case.
func slowRight(o api.Op) bool {
	keyed := len(o.Key) >= 1 && len(o.Key) <= mostKey
	return keyed && (o.Kind == put && len(o.Val) <= mostVal || o.Kind == del && len(o.Val) == 0)
}

// slowBatch is what the chapter says of a batch.
func slowBatch(l []api.Op) bool {
	return len(l) >= 1 && len(l) <= most && !slices.ContainsFunc(l, func(o api.Op) bool { return !slowRight(o) })
}

// slowBytes are the bytes of right operations, one behind the other: a Val of 128 bytes alone has a length of two.
func slowBytes(l []api.Op) []byte {
	var b []byte
	for _, o := range l {
		b = append(b, byte(o.Kind), byte(len(o.Key)))
		b = append(b, o.Key...)
		if o.Kind == del {
			continue
		}
		if len(o.Val) == mostVal {
			b = append(b, 128, 1)
		} else {
			b = append(b, byte(len(o.Val)))
		}
		b = append(b, o.Val...)
	}
	return b
}

// slowField is what layer 4 answers of bytes: a field, how many bytes it takes, and its error.
func slowField(b []byte) (string, int, api.Errno) {
	n, i := uint64(0), 0
	for ; i < len(b) && i < 10 && b[i] >= 128; i++ {
		n += uint64(b[i]-128) << (7 * i)
	}
	if i == 10 || i == 9 && len(b) > 9 && b[9] > 1 {
		return "", 0, api.ErrRange
	}
	if i == len(b) {
		return "", 0, api.ErrShort
	}
	if i > 0 && b[i] == 0 {
		return "", 0, api.ErrForm
	}
	n += uint64(b[i]) << (7 * i)
	if n > 65536 {
		return "", 0, api.ErrLong
	}
	if len(b)-i-1 < int(n) {
		return "", 0, api.ErrShort
	}
	return string(b[i+1 : i+1+int(n)]), i + 1 + int(n), api.OK
}

// slowDecode is what the chapters say of Decode, operation by operation and error by error.
func slowDecode(b []byte) ([]api.Op, api.Errno) {
	var l []api.Op
	for len(b) > 0 {
		if b[0] != put && b[0] != del {
			return nil, api.ErrForm
		}
		o := api.Op{Kind: int(b[0])}
		b = b[1:]
		for _, text := range []*string{&o.Key, &o.Val} {
			if text == &o.Val && o.Kind == del {
				break
			}
			s, n, e := slowField(b)
			if e != api.OK {
				return nil, e
			}
			*text, b = s, b[n:]
		}
		if !slowRight(o) {
			return nil, api.ErrForm
		}
		l = append(l, o)
	}
	if !slowBatch(l) {
		return nil, api.ErrForm
	}
	return l, api.OK
}

// slowLast is what the chapter says of Last: each operation that no later one has the Key of, put in where it belongs.
func slowLast(l []api.Op) []api.Op {
	var told []api.Op
	for i, o := range l {
		later := slices.ContainsFunc(l[i+1:], func(x api.Op) bool { return x.Key == o.Key })
		if later {
			continue
		}
		at := 0
		for at < len(told) && slowBelow(told[at].Key, o.Key) {
			at++
		}
		told = slices.Insert(told, at, o)
	}
	return told
}

// slowBelow tells whether a text comes ahead of another one, byte by byte: one that is the other one's beginning does.
func slowBelow(a, b string) bool {
	for i := range len(a) {
		if i == len(b) || a[i] > b[i] {
			return false
		}
		if a[i] < b[i] {
			return true
		}
	}
	return len(a) < len(b)
}

// roomyBytes is b, with bytes behind its end that are not its own.
func roomyBytes(b []byte) []byte {
	return append(slices.Clone(b), strings.Repeat("\x01\x01a\x00", 100)...)[:len(b)]
}

// spoilBytes turns all bits of b, and of the room behind its end.
func spoilBytes(b []byte) {
	for i := range b[:cap(b)] {
		b[:cap(b)][i] ^= 255
	}
}

// roomyOps is l, with operations behind its end that are not its own.
func roomyOps(l []api.Op) []api.Op {
	return append(slices.Clone(l), slices.Repeat([]api.Op{{Kind: put, Key: "room", Val: "behind"}, {Kind: 9}}, 10)...)[:len(l)]
}

// spoilOps makes others of a list's operations, and of those in the room behind its end.
func spoilOps(l []api.Op) {
	for i := range l[:cap(l)] {
		l[:cap(l)][i] = api.Op{Kind: -1, Key: "spoiled", Val: "by a test"}
	}
}

// grown are all texts of up to so many bytes, each one of few telling ones.
func grown(longest int, telling ...byte) [][]byte {
	l := [][]byte{nil}
	last := l
	for range longest {
		var next [][]byte
		for _, b := range last {
			for _, x := range telling {
				next = append(next, append(slices.Clone(b), x))
			}
		}
		l, last = append(l, next...), next
	}
	return l
}

// texts are bytes of all kinds: all of up to two, those of up to seven that are made of few telling ones, and batches' bytes, with one changed, cut off or added, and with more behind them.
func texts() [][]byte {
	l := grown(7, 0, 1, 2, 97, 128)
	for x := range 256 {
		l = append(l, []byte{byte(x)})
	}
	for x := range 1 << 16 {
		l = append(l, []byte{byte(x), byte(x >> 8)})
	}
	for i, ops := range manyBatches(1500) {
		b := slowBytes(ops)
		l = append(l, b, append(slices.Clone(b), byte(i)), b[:len(b)-1], slices.Concat(b, b), slices.Concat(b, b[:i%len(b)]))
		for k := range 8 {
			changed := slices.Clone(b)
			changed[(i*31+k*97)%len(b)] = byte(i*7 + k)
			l = append(l, changed)
		}
	}
	return l
}

// sameOps holds a list against what is wanted.
func sameOps(t *testing.T, why string, got, want []api.Op) {
	t.Helper()
	if !slices.Equal(got, want) {
		t.Errorf("%s: %d operations, want %d: %v, want %v", why, len(got), len(want), got[:min(len(got), 12)], want[:min(len(want), 12)])
	}
}

// sameDecode holds what Decode tells of b against what is wanted.
func sameDecode(t *testing.T, why string, b []byte, want []api.Op, wantE api.Errno) {
	t.Helper()
	got, e := Decode(b)
	sameOps(t, why, got, want)
	if e != wantE {
		t.Errorf("%s: Decode of %d bytes: error %d, want %d", why, len(b), e, wantE)
	}
}

// noDecode holds it against an error, with nothing beside it.
func noDecode(t *testing.T, why string, b []byte, e api.Errno) {
	t.Helper()
	sameDecode(t, why, b, nil, e)
}
