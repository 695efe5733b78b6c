package join

import (
	"math"
	"slices"
	"testing"

	"strandline/api"
)

// sameJoin fails, if Join tells anything else.
func sameJoin(t *testing.T, name string, l []api.Frag, want []string, wantE api.Errno) {
	t.Helper()
	got, e := Join(l)
	same := slices.EqualFunc(got, want, func(b []byte, s string) bool { return string(b) == s })
	if !same || e != wantE {
		t.Errorf("%s: Join tells %q, %d, not %q, %d", name, got, e, want, wantE)
	}
}

// P15.2: none, one, and several records, in order, records without bytes among them, written out.
func TestJoinWrittenOut(t *testing.T) {
	sameJoin(t, "nil", nil, nil, api.OK)
	sameJoin(t, "none", []api.Frag{}, nil, api.OK)
	sameJoin(t, "none of some", []api.Frag{of(middle, "a")}[:0], nil, api.OK)
	sameJoin(t, "one", []api.Frag{of(full, "a")}, []string{"a"}, api.OK)
	sameJoin(t, "one without bytes", []api.Frag{of(full, "")}, []string{""}, api.OK)
	sameJoin(t, "one of nil", []api.Frag{{Kind: full}}, []string{""}, api.OK)
	sameJoin(t, "the example", []api.Frag{of(first, "a"), of(last, "b")}, []string{"ab"}, api.OK)
	sameJoin(t, "two of no bytes", []api.Frag{of(first, ""), of(last, "")}, []string{""}, api.OK)
	sameJoin(t, "four of one", []api.Frag{of(first, "a"), of(middle, "b"), of(middle, ""), of(last, "c")}, []string{"abc"}, api.OK)
	sameJoin(t, "three in order", []api.Frag{of(full, "c"), of(full, "b"), of(full, "a")}, []string{"c", "b", "a"}, api.OK)
	sameJoin(t, "the same ones", []api.Frag{of(full, "a"), of(full, "a"), of(first, "a"), of(last, "")}, []string{"a", "a", "a"}, api.OK)
	sameJoin(t, "some without bytes", []api.Frag{of(full, ""), of(full, "a"), of(full, ""), of(first, ""), of(middle, ""), of(last, ""), of(first, "b"), of(last, "c"), {Kind: full}}, []string{"", "a", "", "", "bc", ""}, api.OK)
	sameJoin(t, "bytes at the bounds", []api.Frag{of(first, "\x00"), of(middle, "\x7f\x80"), of(last, "\xff"), of(full, "\x00\x00")}, []string{"\x00\x7f\x80\xff", "\x00\x00"}, api.OK)
	all := string(mixed(most))
	sameJoin(t, "as many as a record has", []api.Frag{of(full, all), of(first, all[:300]), of(last, all[300:]), of(full, all)}, []string{all, all, all}, api.OK)
}

// P15.2: ErrShort, if it isn't idle in the end, whatever records were ahead.
func TestJoinShort(t *testing.T) {
	for _, ahead := range [][]api.Frag{nil, {of(full, "a")}, {of(first, "a"), of(last, "b")}, {of(full, ""), of(full, "b"), of(first, ""), of(middle, "c"), of(last, "")}} {
		for _, open := range [][]api.Frag{
			{of(first, "")},
			{{Kind: first}},
			{of(first, "x")},
			{of(first, string(mixed(most)))},
			{of(first, ""), of(middle, "")},
			{of(first, "x"), of(middle, "y")},
			{of(first, "x"), of(middle, "y"), of(middle, "")},
		} {
			sameJoin(t, "left open", slices.Concat(ahead, open), nil, api.ErrShort)
			sameJoin(t, "ended", slices.Concat(open, []api.Frag{of(last, "")}, open), nil, api.ErrShort)
		}
	}
}

// P15.2: Feed's first error, and nothing beside it, whatever is ahead and behind.
func TestJoinErrors(t *testing.T) {
	long, all := string(mixed(most+1)), string(mixed(most))
	errors := []struct {
		l []api.Frag
		e api.Errno
	}{
		{[]api.Frag{of(middle, "a")}, api.ErrForm},
		{[]api.Frag{of(last, "a")}, api.ErrForm},
		{[]api.Frag{of(0, "a")}, api.ErrForm},
		{[]api.Frag{of(5, "")}, api.ErrForm},
		{[]api.Frag{of(-1, "")}, api.ErrForm},
		{[]api.Frag{of(math.MinInt, "")}, api.ErrForm},
		{[]api.Frag{of(math.MaxInt, "")}, api.ErrForm},
		{[]api.Frag{of(first, "a"), of(full, "b")}, api.ErrForm},
		{[]api.Frag{of(first, "a"), of(first, "b")}, api.ErrForm},
		{[]api.Frag{of(first, "a"), of(middle, "b"), of(first, "c")}, api.ErrForm},
		{[]api.Frag{of(full, long)}, api.ErrLong},
		{[]api.Frag{of(first, long)}, api.ErrLong},
		{[]api.Frag{of(first, all), of(middle, "a")}, api.ErrLong},
		{[]api.Frag{of(first, "a"), of(last, all)}, api.ErrLong},
		{[]api.Frag{of(last, long)}, api.ErrForm},
		{[]api.Frag{of(first, "a"), of(full, long)}, api.ErrForm},
	}
	ahead := [][]api.Frag{nil, {of(full, "a")}, {of(first, "a"), of(middle, "b"), of(last, "c"), of(full, "")}}
	behind := [][]api.Frag{nil, {of(full, "a")}, {of(first, "a")}, {of(last, "a")}, {of(full, long)}, {of(0, "")}}
	for _, c := range errors {
		for _, a := range ahead {
			for _, b := range behind {
				sameJoin(t, "an error", slices.Concat(a, c.l, b), nil, c.e)
			}
		}
	}
}

// P15.2: of several errors the first one is told, also where the list ends in a record that is not ended.
func TestJoinFirstError(t *testing.T) {
	long := string(mixed(most + 1))
	sameJoin(t, "ErrForm, ErrLong", []api.Frag{of(full, "a"), of(last, "b"), of(full, long)}, nil, api.ErrForm)
	sameJoin(t, "ErrLong, ErrForm", []api.Frag{of(full, "a"), of(full, long), of(last, "b")}, nil, api.ErrLong)
	sameJoin(t, "ErrForm, ErrShort", []api.Frag{of(middle, "a"), of(first, "b")}, nil, api.ErrForm)
	sameJoin(t, "ErrLong, ErrShort", []api.Frag{of(first, long), of(first, "b")}, nil, api.ErrLong)
	sameJoin(t, "ErrLong, ErrForm, ErrShort", []api.Frag{of(full, long), of(last, ""), of(first, "")}, nil, api.ErrLong)
}

// P15.2: all lists of up to five fragments, by the chapter's words, and by one joiner that is fed all of them.
func TestJoinByWords(t *testing.T) {
	lists := [][]api.Frag{choices([]int{full, first, middle, last, 0}, [][]byte{nil, {}, {7}, mixed(300)}), choices([]int{full, first, middle, last, 5}, [][]byte{nil, {0, 255}})}
	for count := range 6 {
		for i, choice := range lists {
			if i == 0 && count > 3 {
				continue
			}
			for l := range sequences(choice, count) {
				want, wantE := slowJoin(l)
				got, e := Join(l)
				if !sameRecords(got, want) || e != wantE {
					t.Fatalf("Join of%s = %d records, %d, not %d, %d", shape(l), len(got), e, len(want), wantE)
				}
				fed, fedE := fedOneByOne(l)
				if !sameRecords(got, fed) || e != fedE {
					t.Fatalf("Join of%s = %d records, %d; one by one %d, %d", shape(l), len(got), e, len(fed), fedE)
				}
			}
		}
	}
}

// fedOneByOne is what Join tells, by Feed and Idle alone.
func fedOneByOne(l []api.Frag) ([][]byte, api.Errno) {
	j := New()
	var all [][]byte
	for _, f := range l {
		b, ok, e := j.Feed(f)
		if e != api.OK {
			return nil, e
		}
		if ok {
			all = append(all, b)
		}
	}
	if !j.Idle() {
		return nil, api.ErrShort
	}
	return all, api.OK
}
