package op

import (
	"math"
	"slices"
	"strings"

	"strandline/api"
	"strandline/field"
)

// An operation's numbers, as they are told in no code but here.
const (
	put     = 1
	del     = 2
	mostKey = 24
	mostVal = 128
)

// kinds are a Kind's bounds, what is beside them, what a byte makes the same of, and what is far beyond.
func kinds() []int {
	return []int{
		math.MinInt, math.MinInt + 1, math.MinInt + 2, math.MinInt32, -65535, -256, -255, -254, -2, -1, 0,
		put, del, 3, 4, 127, 128, 255, 256, 257, 258, 65537, 65538,
		math.MaxInt32, math.MaxUint32, math.MaxUint32 + 2, math.MaxUint32 + 3, math.MaxInt - 1, math.MaxInt,
	}
}

// scatter tells numbers that look like any, the same ones in each run.
func scatter(count int) []uint64 {
	var l []uint64
	n := uint64(88172645463325252)
	for range count {
		n ^= n << 13
		n ^= n >> 7
		n ^= n << 17
		l = append(l, n)
	}
	return l
}

// mixed tells so many bytes of 0, 127, 128, 255, and others.
func mixed(n int) string {
	return strings.Repeat("\x00\x7f\x80\xffab\x01\x02", n/8+1)[:n]
}

// filled are texts of so many bytes: of 0 alone, 127, 128, 255, of a letter, and of all of these; one alone of none.
func filled(n int) []string {
	if n == 0 {
		return []string{""}
	}
	var l []string
	for _, x := range []string{"\x00", "\x7f", "\x80", "\xff", "a"} {
		l = append(l, strings.Repeat(x, n))
	}
	return append(l, mixed(n))
}

// keys are right ones and wrong ones, at the bounds, beside them and between.
func keys() []string {
	var l []string
	for _, n := range []int{0, 1, 2, 12, 23, 24, 25, 26} {
		l = append(l, filled(n)...)
	}
	return append(l, mixed(128), mixed(256+1), mixed(65536+1))
}

// vals are right ones and wrong ones, at the bounds, beside them and between.
func vals() []string {
	var l []string
	for _, n := range []int{0, 1, 2, 24, 25, 127, 128, 129, 130} {
		l = append(l, filled(n)...)
	}
	return append(l, mixed(256), mixed(256+1), mixed(65536), mixed(65536+1))
}

// ops are right ones and wrong ones: each of the kinds with each of the keys and each of the vals.
func ops() []api.Op {
	var l []api.Op
	for _, kind := range kinds() {
		for _, key := range keys() {
			for _, val := range vals() {
				l = append(l, api.Op{Kind: kind, Key: key, Val: val})
			}
		}
	}
	return l
}

// rightOps are those of ops that are right.
func rightOps() []api.Op {
	var l []api.Op
	for _, o := range ops() {
		if slowRight(o) {
			l = append(l, o)
		}
	}
	return l
}

// manyOps are right ones of all lengths, with bytes that look like any.
func manyOps(count int) []api.Op {
	var l []api.Op
	numbers := scatter(count + 200)
	for i := range count {
		n := numbers[i]
		o := api.Op{Kind: put, Key: text(numbers[i : i+1+int(n>>20%mostKey)]), Val: text(numbers[i : i+int(n>>40%(mostVal+1))])}
		if n>>10%3 == 0 {
			o.Kind, o.Val = del, ""
		}
		l = append(l, o)
	}
	return l
}

// text is one byte of each number.
func text(numbers []uint64) string {
	var b []byte
	for _, n := range numbers {
		b = append(b, byte(n>>32))
	}
	return string(b)
}

// slowRight is what the chapter says of a right one, case by case.
func slowRight(o api.Op) bool {
	keyed := len(o.Key) >= 1 && len(o.Key) <= mostKey
	if o.Kind == put {
		return keyed && len(o.Val) <= mostVal
	}
	if o.Kind == del {
		return keyed && len(o.Val) == 0
	}
	return false
}

// slowBytes are a right one's bytes: a Val of 128 bytes alone has a length of two.
func slowBytes(o api.Op) []byte {
	b := []byte{byte(o.Kind), byte(len(o.Key))}
	b = append(b, o.Key...)
	if o.Kind == del {
		return b
	}
	if len(o.Val) == mostVal {
		b = append(b, 128, 1)
	} else {
		b = append(b, byte(len(o.Val)))
	}
	return append(b, o.Val...)
}

// slowGet is what the chapter says of Get, error by error.
func slowGet(b []byte) (api.Op, int, api.Errno) {
	if len(b) == 0 {
		return api.Op{}, 0, api.ErrShort
	}
	if b[0] != put && b[0] != del {
		return api.Op{}, 0, api.ErrForm
	}
	key, size, e := field.Get(b[1:])
	if e != api.OK {
		return api.Op{}, 0, e
	}
	o, all := api.Op{Kind: int(b[0]), Key: string(key)}, 1+size
	if o.Kind == put {
		val, size, e := field.Get(b[all:])
		if e != api.OK {
			return api.Op{}, 0, e
		}
		o.Val, all = string(val), all+size
	}
	if !slowRight(o) {
		return api.Op{}, 0, api.ErrForm
	}
	return o, all, api.OK
}

// roomy is b, with bytes behind its end that are not its own.
func roomy(b []byte) []byte {
	return append(slices.Clone(b), strings.Repeat("\x01\x01a\x00", 100)...)[:len(b)]
}

// spoil turns all bits of b, and of the room behind its end.
func spoil(b []byte) {
	for i := range b[:cap(b)] {
		b[:cap(b)][i] ^= 255
	}
}

// behinds are bytes that stand ahead of or behind an operation's: none, and some, such as look like a length or an operation among them.
func behinds() [][]byte {
	return [][]byte{nil, {}, {0}, {1}, {2}, {128}, {255, 255, 255}, {1, 1, 97, 0}, {2, 1, 97}, {128, 0}, []byte(mixed(3000))}
}

// grown are all texts of up to so many bytes, each one of few telling ones.
func grown(most int, telling ...byte) [][]byte {
	l := [][]byte{nil}
	longest := l
	for range most {
		var next [][]byte
		for _, b := range longest {
			for _, x := range telling {
				next = append(next, append(slices.Clone(b), x))
			}
		}
		l, longest = append(l, next...), next
	}
	return l
}

// texts are bytes of all kinds: all of up to two, those of up to six that are made of few telling ones, and operations' bytes, with one changed, cut off or added.
func texts() [][]byte {
	l := grown(6, 0, 1, 2, 3, 97, 128, 129)
	for x := range 256 {
		l = append(l, []byte{byte(x)})
	}
	for x := range 1 << 16 {
		l = append(l, []byte{byte(x), byte(x >> 8)})
	}
	for i, o := range manyOps(3000) {
		b := slowBytes(o)
		l = append(l, b, append(slices.Clone(b), byte(i)), b[:len(b)-1])
		for k := range 8 {
			changed := slices.Clone(b)
			changed[(i*31+k)%min(len(b), 40)] = byte(i*7 + k)
			l = append(l, changed)
		}
	}
	return l
}
