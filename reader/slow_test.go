package reader

import (
	"math"
	"slices"

	"strandline/api"
	"strandline/disk"
	"strandline/scan"
)

// sum is the masked sum of b: layer 3's words, bit by bit.
func sum(b []byte) uint32 {
	s := uint32(math.MaxUint32)
	for _, x := range b {
		s ^= uint32(x)
		for range 8 {
			low := s & 1
			s >>= 1
			if low == 1 {
				s ^= 0x82f63b78
			}
		}
	}
	s ^= math.MaxUint32
	return s>>15 + s<<17 + 0xa282ead8
}

// low are a number's first bytes, the lowest one first.
func low(n uint64, count int) []byte {
	var b []byte
	for range count {
		b = append(b, byte(n))
		n >>= 8
	}
	return b
}

// fragment is a fragment's bytes: layer 13's words, byte by byte.
func fragment(kind int, epoch uint64, data []byte) []byte {
	return summed(slices.Concat(low(uint64(len(data)), 2), []byte{byte(kind)}, low(epoch, 4), data))
}

// summed are bytes, with their sum ahead.
func summed(b []byte) []byte {
	return append(low(uint64(sum(b)), 4), b...)
}

// begin is where a fragment goes on: layer 7's words, place by place.
func begin(at int) int {
	for at < all && room-at%room < head {
		at++
	}
	return at
}

// piece is where one begins, its Kind, and which of the record's bytes it has.
type piece struct{ at, kind, from, to int }

// pieces are those of a record of n bytes, and the place behind the last one: layer 14's words, byte by byte.
func pieces(at, n int) ([]piece, int, bool) {
	var l []piece
	had := 0
	for len(l) == 0 || had < n {
		p := piece{at: begin(at), kind: 3, from: had}
		if p.at == all {
			return nil, 0, false
		}
		at = p.at + head
		for had < n && at%block != 0 {
			at++
			had++
		}
		p.to = had
		l = append(l, p)
	}
	l[0].kind = 2
	l[len(l)-1].kind = 4
	if len(l) == 1 {
		l[0].kind = 1
	}
	return l, at, true
}

// stampOf are the first bytes of a sector that is stamped so: layer 6's words.
func stampOf(epoch uint64, i int) []byte {
	return append(low(epoch, 8), low(uint64(i), 4)...)
}

// stamped is a sector with that stamp, and this room.
func stamped(epoch uint64, i int, room []byte) api.Sec {
	var s api.Sec
	copy(s[:], stampOf(epoch, i))
	copy(s[ahead:], room)
	return s
}

// sealed are the sectors of a body: those that have a place below end, the others empty.
func sealed(epoch uint64, body []byte, end int) []api.Sec {
	l := make([]api.Sec, sectors)
	for i := range l {
		if room*i < end {
			l[i] = stamped(epoch, i, body[room*i:room*i+room])
		}
	}
	return l
}

// slowFlat are the bytes that sectors have by an epoch, and which of these are stamped: layer 16's words.
func slowFlat(epoch uint64, l []api.Sec) ([]byte, []bool) {
	b, is := make([]byte, all), make([]bool, all)
	for i := range min(len(l), sectors) {
		if slices.Equal(l[i][:ahead], stampOf(epoch, i)) {
			for k := range room {
				b[room*i+k], is[room*i+k] = l[i][ahead+k], true
			}
		}
	}
	return b, is
}

// slowFragment is the Kind and the Data of the fragment that is told at a place: layers 13's and 19's words; 0, if there is none.
func slowFragment(epoch uint64, b []byte, is []bool, at int) (int, []byte) {
	to := at
	for to < all && to/block == at/block {
		to++
	}
	if to-at < head {
		return 0, nil
	}
	count, kind := int(b[at+4])+256*int(b[at+5]), int(b[at+6])
	if kind < 1 || kind > 4 || count > most || at+head+count > to {
		return 0, nil
	}
	data := b[at+head : at+head+count]
	for i, x := range fragment(kind, epoch, data) {
		if b[at+i] != x || !is[at+i] {
			return 0, nil
		}
	}
	return kind, data
}

// slowFrom is what the chapter says of From, byte by byte.
func slowFrom(epoch uint64, l []api.Sec, at int) ([]byte, int, bool) {
	if at < 0 || at > all {
		return nil, 0, false
	}
	b, is := slowFlat(epoch, l)
	var had []byte
	for first := true; ; first = false {
		kind, data := slowFragment(epoch, b, is, at)
		if kind == 0 || first != (kind < 3) || len(had)+len(data) > longest {
			return nil, 0, false
		}
		had, at = append(had, data...), at+head+len(data)
		if kind == 1 || kind == 4 {
			return had, at, true
		}
		at = begin(at)
	}
}

// slowScan is what layer 19 says of Scan: the records that stand one behind the other.
func slowScan(epoch uint64, l []api.Sec) scan.Result {
	r := scan.Result{Kind: clean}
	for {
		rec, behind, ok := slowFrom(epoch, l, begin(r.End))
		if !ok {
			break
		}
		r.Recs, r.Places, r.End = append(r.Recs, rec), append(r.Places, begin(r.End)), behind
	}
	b, _ := slowFlat(epoch, l)
	for i := range min(len(l), sectors) {
		if room*i >= r.End && l[i] != (api.Sec{}) {
			r.Kind = torn
		}
	}
	for _, x := range b[r.End:] {
		if x != 0 {
			r.Kind = torn
		}
	}
	return r
}

// slowRight is what layer 18 says of a right header.
func slowRight(h api.Header) bool {
	if h.Epoch == 0 || h.Seq < 1 || h.Seq > mostLSN || h.First < 1 || h.First > mostLSN {
		return false
	}
	for _, n := range h.Heads {
		if n < 0 || n >= h.First {
			return false
		}
	}
	return true
}

// slowSector is a header's sector, byte by byte as layer 18's words tell it.
func slowSector(h api.Header) api.Sec {
	l := slices.Concat([]byte("strd\x01"), low(h.Epoch, 8), low(uint64(h.Seq), 4), low(uint64(h.First), 4))
	for _, n := range h.Heads {
		l = append(l, low(uint64(n), 4)...)
	}
	var s api.Sec
	copy(s[:], append(l, low(uint64(sum(l)), 4)...))
	return s
}

// slowTold is the header whose sector s is, if it is one's: the right one that has s as its sector.
func slowTold(s api.Sec) (api.Header, bool) {
	number := func(at, width int) uint64 {
		n := uint64(0)
		for i := range width {
			n |= uint64(s[at+i]) << (8 * i)
		}
		return n
	}
	h := api.Header{Epoch: number(5, 8), Seq: int(number(13, 4)), First: int(number(17, 4))}
	for i := range h.Heads {
		h.Heads[i] = int(number(21+4*i, 4))
	}
	if !slowRight(h) || slowSector(h) != s {
		return api.Header{}, false
	}
	return h, true
}

// slowLive is a number's live name, digit by digit; nothing, if it has none.
func slowLive(seq int) string {
	if seq < 1 || seq > mostLSN {
		return ""
	}
	digits := ""
	for n := seq; n > 0; n /= 10 {
		digits = string([]byte{byte('0' + n%10)}) + digits
	}
	return "wal-" + digits
}

// slowSeen are the sectors of a file, as they are seen: a crash that keeps all has them lasting.
func slowSeen(d *disk.Disk, name string) ([]api.Sec, bool) {
	c := d.Clone()
	c.Crash(api.Crash{Keep: ones(d.Waiting()), Torn: -1})
	for _, f := range c.Files() {
		if f.Name == name {
			return f.L, true
		}
	}
	return nil, false
}

// slowSectors are the Epoch of a segment's header and its Data sectors: layer 22's words.
func slowSectors(d *disk.Disk, seq int) (uint64, []api.Sec, api.Errno) {
	if slowLive(seq) == "" {
		return 0, nil, api.ErrArg
	}
	if d == nil {
		return 0, nil, api.ErrState
	}
	if d.Down() {
		return 0, nil, api.ErrDown
	}
	l, ok := slowSeen(d, slowLive(seq))
	if !ok {
		return 0, nil, api.ErrNone
	}
	if len(l) != whole {
		return 0, nil, api.ErrCorrupt
	}
	h, ok := slowTold(l[0])
	if !ok || h.Seq != seq {
		return 0, nil, api.ErrCorrupt
	}
	return h.Epoch, l[1:], api.OK
}

// slowRead is Read by the chapter's words.
func slowRead(d *disk.Disk, at api.Place) ([]byte, api.Errno) {
	epoch, l, e := slowSectors(d, at.Seq)
	if e != api.OK {
		return nil, e
	}
	rec, _, ok := slowFrom(epoch, l, at.At)
	if !ok {
		return nil, api.ErrCorrupt
	}
	return rec, api.OK
}

// slowAll is All by the chapter's words.
func slowAll(d *disk.Disk, seq int) (scan.Result, api.Errno) {
	epoch, l, e := slowSectors(d, seq)
	if e != api.OK {
		return scan.Result{}, e
	}
	return slowScan(epoch, l), api.OK
}
