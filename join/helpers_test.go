package join

import (
	"math"
	"slices"
	"strconv"
	"strings"
	"testing"

	"strandline/api"
)

// The kinds of fragments, and how many bytes a record may have, as they are told in no code but here.
const (
	full   = 1
	first  = 2
	middle = 3
	last   = 4
	most   = 512
)

// row is a fragment that is fed, and what is told then, Idle behind it among that.
type row struct {
	f    api.Frag
	want string
	ok   bool
	e    api.Errno
	idle bool
}

// of is a fragment with that text as its Data.
func of(kind int, data string) api.Frag {
	return api.Frag{Kind: kind, Data: []byte(data)}
}

// on is a fragment with which a record goes on.
func on(kind int, data string) row {
	return row{f: of(kind, data)}
}

// ends is a fragment that ends a record.
func ends(kind int, data, want string) row {
	return row{f: of(kind, data), want: want, ok: true, idle: true}
}

// bad is a fragment that is an error.
func bad(kind int, data string, e api.Errno) row {
	return row{f: of(kind, data), e: e, idle: true}
}

// run feeds a new joiner what the rows have, and fails, if it tells anything else than they do.
func run(t *testing.T, name string, rows []row) {
	t.Helper()
	j := New()
	for i, r := range rows {
		got, ok, e := j.Feed(r.f)
		if string(got) != r.want || ok != r.ok || e != r.e {
			t.Errorf("%s: the %dth Feed tells %q, %t, %d, not %q, %t, %d", name, i, got, ok, e, r.want, r.ok, r.e)
		}
		if idle := j.Idle(); idle != r.idle {
			t.Errorf("%s: behind the %dth Feed Idle is %t", name, i, idle)
		}
	}
}

// words is what the chapter says of a joiner: the parts that it has, or that it is idle.
type words struct {
	busy  bool
	parts [][]byte
}

// feed is what the chapter says of Feed, case by case.
func (w *words) feed(f api.Frag) ([]byte, bool, api.Errno) {
	tells := map[bool]map[int]string{
		false: {full: "ends", first: "goes on"},
		true:  {middle: "goes on", last: "ends"},
	}
	what := tells[w.busy][f.Kind]
	parts := append(slices.Clone(w.parts), f.Data)
	count := 0
	for _, p := range parts {
		count += len(p)
	}
	w.busy, w.parts = false, nil
	if what == "" {
		return nil, false, api.ErrForm
	}
	if count > most {
		return nil, false, api.ErrLong
	}
	if what == "goes on" {
		w.busy, w.parts = true, parts
		return nil, false, api.OK
	}
	return slices.Concat(parts...), true, api.OK
}

// slowJoin is what the chapter says of Join.
func slowJoin(l []api.Frag) ([][]byte, api.Errno) {
	var w words
	var all [][]byte
	for _, f := range l {
		b, ok, e := w.feed(f)
		if e != api.OK {
			return nil, e
		}
		if ok {
			all = append(all, b)
		}
	}
	if w.busy {
		return nil, api.ErrShort
	}
	return all, api.OK
}

// byWords feeds a joiner all of l, and fails, if something is told that the chapter's words don't tell.
func byWords(t *testing.T, j *Joiner, w *words, l []api.Frag) {
	t.Helper()
	for i, f := range l {
		want, wantOK, wantE := w.feed(f)
		got, ok, e := j.Feed(f)
		if !slices.Equal(got, want) || ok != wantOK || e != wantE {
			t.Fatalf("the %dth of%s: Feed tells %d bytes, %t, %d, not %d, %t, %d", i, shape(l), len(got), ok, e, len(want), wantOK, wantE)
		}
		if j.Idle() == w.busy {
			t.Fatalf("behind the %dth of%s: Idle is %t", i, shape(l), j.Idle())
		}
	}
}

// shape tells the fragments' kinds and how many bytes they have, for a test's failure.
func shape(l []api.Frag) string {
	var b strings.Builder
	for _, f := range l {
		b.WriteString(" " + strconv.Itoa(f.Kind) + ":" + strconv.Itoa(len(f.Data)))
	}
	return b.String()
}

// sequences yields each list of count fragments of those that are given, in the same room.
func sequences(choice []api.Frag, count int) func(func([]api.Frag) bool) {
	return func(yield func([]api.Frag) bool) {
		l := make([]api.Frag, count)
		at := make([]int, count)
		for {
			for i := range l {
				l[i] = choice[at[i]]
			}
			if !yield(l) {
				return
			}
			i := 0
			for i < count && at[i] == len(choice)-1 {
				at[i] = 0
				i++
			}
			if i == count {
				return
			}
			at[i]++
		}
	}
}

// choices are fragments of each of the kinds with each of the datas, each with an Epoch of its own.
func choices(kinds []int, datas [][]byte) []api.Frag {
	var l []api.Frag
	for _, kind := range kinds {
		for _, data := range datas {
			l = append(l, api.Frag{Kind: kind, Epoch: uint32(len(l)) * 0x9e3779b1, Data: data})
		}
	}
	return l
}

// others are numbers that are no Kind of a fragment, some the same as one in fewer bits.
func others() []int {
	l := []int{
		math.MinInt, math.MinInt + full, math.MinInt + last, math.MinInt32, -1 << 32, -1<<32 + full, -1<<32 + last, -65536 + first, -256 + middle,
		math.MaxInt, math.MaxInt - 1, math.MaxInt32, math.MaxInt32 + 1, 1 << 32, 1<<32 + full, 1<<32 + first, 1<<32 + middle, 1<<32 + last, 1<<62 + full, 65536 + full, 65536 + last,
	}
	for kind := -300; kind <= 600; kind++ {
		if kind < full || kind > last {
			l = append(l, kind)
		}
	}
	return l
}

// mixed tells so many bytes of 0, 127, 128, 255, and others, of which each one is not the one ahead.
func mixed(n int) []byte {
	return []byte(strings.Repeat("\x00\x7f\x80\xffab\x01", n/7+1)[:n])
}

// scatter tells bytes that look like any, the same ones in each run.
func scatter(count int) []byte {
	l := make([]byte, 0, count)
	n := uint64(88172645463325252)
	for range count {
		n ^= n << 13
		n ^= n >> 7
		n ^= n << 17
		l = append(l, byte(n>>32))
	}
	return l
}

// roomy is b, with bytes behind its end that are not its own.
func roomy(b []byte) []byte {
	return append(slices.Clone(b), strings.Repeat("\x01\x00\xff\x7f", 300)...)[:len(b)]
}

// whole is b, and the room behind its end, as they are now.
func whole(b []byte) []byte {
	return slices.Clone(b[:cap(b)])
}

// spoil turns all bits of b, and of the room behind its end.
func spoil(b []byte) {
	for i := range b[:cap(b)] {
		b[:cap(b)][i] ^= 255
	}
}

// sameRecords tells whether the records are the same, byte by byte.
func sameRecords(a, b [][]byte) bool {
	return slices.EqualFunc(a, b, slices.Equal[[]byte])
}
