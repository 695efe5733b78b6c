package reader

import (
	"encoding/hex"
	"math"
	"strconv"
	"strings"
	"testing"

	"strandline/api"
	"strandline/disk"
	"strandline/segment"
	"strandline/writer"
)

// Fragments, byte by byte, their masked sums reckoned apart: of the epoch 5, but one.
const (
	fullHi    = "74b96b7b020001050000006869"
	fullNone  = "693597df00000105000000"
	fullOver  = "bb8b8fd80c0001050000006f7665722074686520656e64" // over the end
	otherHi   = "bd92dff1020001060000006869"                     // of the epoch 6
	firstAb   = "c17b3476020002050000006162"
	firstNone = "cec57fff00000205000000"
	middleCd  = "fe2db0c6020003050000006364"
	middleNo  = "ac95272600000305000000"
	lastE     = "dde1f4ff0100040500000065"
	lastNone  = "10e5b04100000405000000"
)

// unhex are the bytes of a text.
func unhex(t *testing.T, text string) []byte {
	t.Helper()
	b, err := hex.DecodeString(text)
	if err != nil {
		t.Fatal(err)
	}
	return b
}

// bodied are all sectors of a body, by that epoch, that has bytes at places: each is told as 13:74b96b7b.
func bodied(t *testing.T, epoch uint64, text string) []api.Sec {
	t.Helper()
	body := make([]byte, all)
	for _, word := range strings.Fields(text) {
		place, bytes, _ := strings.Cut(word, ":")
		at, err := strconv.Atoi(place)
		if err != nil {
			t.Fatal(err)
		}
		copy(body[at:], unhex(t, bytes))
	}
	return sealed(epoch, body, all)
}

// The chapter's example, and the numbers that the tests tell themselves.
func TestExample(t *testing.T) {
	d := disk.New(whole)
	fine(t, segment.Begin(d, heading(5, 1)))
	for _, at := range places() {
		if got, e := Read(d, api.Place{Seq: 1, At: at}); len(got) != 0 || e != api.ErrCorrupt {
			t.Fatalf("at %d: %d bytes, error %d", at, len(got), e)
		}
	}
	if api.Sector != sector || api.Room != room || api.BlockRoom != block || api.SegRoom != all || api.Data != sectors || api.Head != head || api.SegSectors != whole || api.MaxRecord != longest || api.MaxLSN != mostLSN {
		t.Error("the limits are others")
	}
}

// P24.1: two whole sectors, byte by byte: two records, the second one over a sector's end.
func TestSectorsWrittenOut(t *testing.T) {
	l := []api.Sec{
		api.Sec(unhex(t, "050000000000000000000000"+fullHi+fullOver+strings.Repeat("00", room-36))),
		api.Sec(unhex(t, "050000000000000001000000"+fullNone+strings.Repeat("00", room-11))),
	}
	for at, want := range map[int]struct {
		rec    string
		behind int
	}{0: {"hi", 13}, 13: {"over the end", 36}, 52: {"", 63}} {
		stands(t, "two sectors", 5, l, at, []byte(want.rec), want.behind)
	}
	for _, at := range places() {
		if at != 0 && at != 13 && at != 52 {
			lacks(t, "two sectors", 5, l, at)
		}
	}
}

// P24.1: bytes at places, written out, and what stands at one of them.
func TestWrittenOut(t *testing.T) {
	for _, c := range []struct {
		bytes  string
		at     int
		rec    string
		behind int // 0, if none stands there
	}{
		{"", 0, "", 0},
		{"0:" + fullHi, 0, "hi", 13},
		{"0:" + fullHi, 1, "", 0},
		{"0:" + fullHi, 13, "", 0},
		{"0:" + fullHi, -1, "", 0},
		{"7:" + fullHi, 7, "hi", 20},
		{"7:" + fullHi, 0, "", 0},
		{"0:" + otherHi, 0, "", 0},
		// Up to a sector's last place at which a head has room, and behind that: looked at all the same.
		{"41:" + fullNone, 41, "", 52},
		{"42:" + fullNone, 42, "", 53},
		{"41:" + fullHi, 41, "hi", 54},
		{"45:" + fullHi, 45, "hi", 58},
		{"51:" + fullHi, 51, "hi", 64},
		{"45:" + fullHi, 52, "", 0},
		{"52:" + fullHi, 45, "", 0},
		{"52:" + fullHi, 41, "", 0},
		{"145:" + fullOver, 145, "over the end", 168},
		// Up to a block's end, and over it.
		{"195:" + fullHi, 195, "hi", 208},
		{"196:" + fullHi, 196, "", 0},
		{"197:" + fullNone, 197, "", 208},
		{"198:" + fullNone, 198, "", 0},
		{"207:" + fullNone, 207, "", 0},
		{"208:" + fullNone, 207, "", 0},
		{"208:" + fullNone, 208, "", 219},
		{"819:" + fullHi, 819, "hi", 832},
		{"820:" + fullHi, 820, "", 0},
		{"821:" + fullNone, 821, "", 832},
		{"822:" + fullNone, 822, "", 0},
		{"0:" + fullHi, 832, "", 0},
		{"0:" + fullHi, 833, "", 0},
		// Two fragments, and more.
		{"0:" + firstAb + " 13:" + lastE, 0, "abe", 25},
		{"0:" + firstAb + " 13:" + lastE, 13, "", 0},
		{"0:" + firstAb + " 14:" + lastE, 0, "", 0},
		{"0:" + firstAb, 0, "", 0},
		{"0:" + lastE, 0, "", 0},
		{"0:" + middleCd + " 13:" + lastE, 0, "", 0},
		{"0:" + firstAb + " 13:" + middleCd + " 26:" + lastE, 0, "abcde", 38},
		{"0:" + firstAb + " 13:" + middleCd, 0, "", 0},
		{"0:" + firstAb + " 13:" + middleCd + " 26:" + middleCd + " 39:" + lastE, 0, "abcdcde", 51},
		{"0:" + firstAb + " 13:" + firstAb + " 26:" + lastE, 0, "", 0},
		{"0:" + firstAb + " 13:" + firstAb + " 26:" + lastE, 13, "abe", 38},
		{"0:" + firstAb + " 13:" + fullHi + " 26:" + lastE, 0, "", 0},
		{"0:" + firstAb + " 13:" + fullHi + " 26:" + lastE, 13, "hi", 26},
		{"0:" + firstAb + " 13:" + otherHi + " 26:" + lastE, 0, "", 0},
		{"0:" + firstNone + " 11:" + lastNone, 0, "", 22},
		{"0:" + firstNone + " 11:" + middleNo + " 22:" + lastNone, 0, "", 33},
		// One goes on at the next sector, where a head has no room in this one; just there.
		{"30:" + firstAb + " 52:" + lastE, 30, "abe", 64},
		{"30:" + firstAb + " 43:" + lastE, 30, "", 0},
		{"28:" + firstAb + " 41:" + lastE, 28, "abe", 53},
		{"29:" + firstAb + " 42:" + lastE, 29, "", 0},
		{"29:" + firstAb + " 52:" + lastE, 29, "abe", 64},
		{"29:" + firstAb + " 42:" + lastE + " 52:" + lastE, 29, "abe", 64},
		{"45:" + firstAb + " 58:" + lastE, 45, "abe", 70},
		{"183:" + firstAb + " 196:" + lastE, 183, "abe", 208},
		{"184:" + firstAb + " 197:" + lastNone, 184, "ab", 208},
		{"184:" + firstAb + " 197:" + lastE, 184, "", 0},
		{"185:" + firstAb + " 208:" + lastE, 185, "abe", 220},
		{"195:" + firstAb + " 208:" + middleCd + " 221:" + lastE, 195, "abcde", 233},
		{"807:" + firstAb + " 820:" + lastE, 807, "abe", 832},
		{"808:" + firstAb + " 821:" + lastNone, 808, "ab", 832},
		{"819:" + firstAb, 819, "", 0},
	} {
		l := bodied(t, 5, c.bytes)
		if c.behind == 0 {
			lacks(t, c.bytes, 5, l, c.at)
		} else {
			stands(t, c.bytes, 5, l, c.at, []byte(c.rec), c.behind)
		}
		asRead(t, c.bytes, 5, l, c.at)
	}
}

// P24.1: fragments have an epoch's lowest 32 bits, and sectors all of them.
func TestEpochsWrittenOut(t *testing.T) {
	for _, c := range []struct {
		stamped, asked uint64
		stands         bool
	}{
		{5, 5, true},
		{1<<32 + 5, 1<<32 + 5, true},
		{math.MaxUint64 - 1<<32 + 6, math.MaxUint64 - 1<<32 + 6, true},
		{1<<32 + 5, 5, false},
		{5, 1<<32 + 5, false},
		{6, 6, false},
		{6, 5, false},
		{0, 0, false},
		{0, 5, false},
	} {
		l := bodied(t, c.stamped, "30:"+firstAb+" 52:"+lastE)
		if c.stands {
			stands(t, "an epoch", c.asked, l, 30, []byte("abe"), 64)
		} else {
			lacks(t, "an epoch", c.asked, l, 30)
		}
	}
}

// P24.2: a segment that is begun and written, record by record.
func TestReadAndAll(t *testing.T) {
	d := disk.New(60)
	h := heading(9, 4)
	fine(t, segment.Begin(d, h))
	tells(t, "begun", d, 4, slowScan(9, nil), api.OK)
	w := writer.New(d, h, nil, 0)
	for i, c := range []struct{ n, at, behind int }{{10, 0, 21}, {10, 21, 42}, {300, 52, 374}, {0, 374, 385}, {20, 385, 416}, {186, 416, 613}, {0, 613, 624}} {
		at, e := w.Append(mixed(i, c.n))
		if at != c.at || e != api.OK {
			t.Fatalf("Append tells %d, error %d, not %d", at, e, c.at)
		}
		reads(t, "written", d, api.Place{Seq: 4, At: at}, mixed(i, c.n), api.OK)
		r, e := All(d, 4)
		if last := len(r.Recs) - 1; e != api.OK || last != i || r.Places[i] != c.at || string(r.Recs[i]) != string(mixed(i, c.n)) || r.End != c.behind || r.Kind != clean {
			t.Fatalf("%s, error %d", text(r), e)
		}
		reads(t, "behind the last one", d, api.Place{Seq: 4, At: c.behind}, nil, api.ErrCorrupt)
	}
	for _, at := range places() {
		if _, e := Read(d, api.Place{Seq: 4, At: at}); (e == api.OK) != (at == 0 || at == 21 || at == 52 || at == 374 || at == 385 || at == 416 || at == 613) {
			t.Errorf("at %d: error %d", at, e)
		}
	}
}
