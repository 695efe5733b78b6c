package segment

import (
	"math"
	"slices"
	"strings"

	"strandline/api"
	"strandline/disk"
)

// slowRight is what layer 18 says of a right header.
func slowRight(h api.Header) bool {
	if h.Epoch == 0 || h.Seq < 1 || h.Seq > mostLSN || h.First < 1 || h.First > mostLSN {
		return false
	}
	for i := range heads {
		if h.Heads[i] < 0 || h.Heads[i] >= h.First {
			return false
		}
	}
	return true
}

// slowSector is a header's sector, byte by byte as layer 18's words tell it.
func slowSector(h api.Header) api.Sec {
	l := []byte{115, 116, 114, 100, 1}
	for _, n := range []struct {
		n     uint64
		width int
	}{
		{h.Epoch, 8}, {uint64(h.Seq), 4}, {uint64(h.First), 4},
		{uint64(h.Heads[0]), 4}, {uint64(h.Heads[1]), 4}, {uint64(h.Heads[2]), 4}, {uint64(h.Heads[3]), 4},
	} {
		for range n.width {
			l = append(l, byte(n.n%256))
			n.n /= 256
		}
	}
	sum := slowSum(l)
	l = append(l, byte(sum), byte(sum>>8), byte(sum>>16), byte(sum>>24))
	var s api.Sec
	for i := range l {
		s[i] = l[i]
	}
	return s
}

// slowSum is the masked sum, bit by bit as layer 3's words tell it.
func slowSum(b []byte) uint32 {
	sum := uint32(math.MaxUint32)
	for _, c := range b {
		sum ^= uint32(c)
		for range 8 {
			low := sum & 1
			sum >>= 1
			if low == 1 {
				sum ^= 0x82f63b78
			}
		}
	}
	sum ^= math.MaxUint32
	for range 15 {
		sum = sum>>1 + sum<<31
	}
	return sum + 0xa282ead8
}

// slowTold is the header whose sector s is, if it is one's: the right one that has s as its sector.
func slowTold(s api.Sec) (api.Header, bool) {
	at := 5
	next := func(width int) uint64 {
		n := uint64(0)
		for i := range width {
			n = n*256 + uint64(s[at+width-1-i])
		}
		at += width
		return n
	}
	h := api.Header{Epoch: next(8), Seq: int(next(4)), First: int(next(4))}
	for i := range heads {
		h.Heads[i] = int(next(4))
	}
	if !slowRight(h) || slowSector(h) != s {
		return api.Header{}, false
	}
	return h, true
}

// slowLive is a number's live name, digit by digit; nothing, if it has none.
func slowLive(seq int) string {
	if seq < 1 || seq > mostLSN {
		return ""
	}
	digits := ""
	for n := seq; n > 0; n /= 10 {
		digits = string([]byte{byte('0' + n%10)}) + digits
	}
	return "wal-" + digits
}

// slowLives tells whether a name is a live or a free one.
func slowLives(name string) bool {
	if slices.Contains(frees(), name) {
		return true
	}
	digits, ok := strings.CutPrefix(name, "wal-")
	n := 0
	for i := range len(digits) {
		if digits[i] < '0' || digits[i] > '9' || n > mostLSN {
			return false
		}
		n = n*10 + int(digits[i]-'0')
	}
	return ok && slowLive(n) == name
}

// slowLaid are the sectors of a segment.
func slowLaid(h api.Header, data []api.Sec) []api.Sec {
	l := []api.Sec{slowSector(h)}
	for i := range data {
		l = append(l, data[i])
	}
	for len(l) < whole {
		l = append(l, api.Sec{})
	}
	return l
}

// slowSeen are the sectors of a file, as they are seen.
func slowSeen(d *disk.Disk, name string) ([]api.Sec, bool) {
	c := d.Clone()
	c.Crash(api.Crash{Keep: ones(d.Waiting()), Torn: -1})
	for _, f := range c.Files() {
		if f.Name == name {
			return f.L, true
		}
	}
	return nil, false
}

// slowPower is what the disk's state keeps from being done.
func slowPower(d *disk.Disk) api.Errno {
	if d == nil {
		return api.ErrState
	}
	if d.Down() {
		return api.ErrDown
	}
	return api.OK
}

// slowPrepare is Prepare by the chapter's words.
func slowPrepare(d *disk.Disk, name string, h api.Header, data []api.Sec) api.Errno {
	if !slowRight(h) || len(data) > most {
		return api.ErrArg
	}
	if e := slowPower(d); e != api.OK {
		return e
	}
	l, ok := slowSeen(d, name)
	if !ok {
		return api.ErrNone
	}
	if len(l) != whole {
		return api.ErrRange
	}
	if e := d.Write(name, 0, slowLaid(h, data)); e != api.OK {
		return e
	}
	return d.Sync(name)
}

// slowTake is Take by layer 21's words, of a disk that is up.
func slowTake(d *disk.Disk) (string, api.Errno) {
	for _, name := range frees()[1:] {
		if d.Size(name) == whole {
			return name, api.OK
		}
	}
	for _, name := range frees()[1:] {
		if !slices.Contains(d.List(), name) {
			return name, d.Make(name, whole)
		}
	}
	return "", api.ErrFull
}

// slowBegin is Begin by the chapter's words.
func slowBegin(d *disk.Disk, h api.Header) api.Errno {
	if !slowRight(h) {
		return api.ErrArg
	}
	if e := slowPower(d); e != api.OK {
		return e
	}
	if slices.Contains(d.List(), slowLive(h.Seq)) {
		return api.ErrThere
	}
	name, e := slowTake(d)
	if e != api.OK {
		return e
	}
	if e := slowPrepare(d, name, h, nil); e != api.OK {
		return e
	}
	return d.Rename(name, slowLive(h.Seq))
}

// slowSegment is Header and Sectors by the chapter's words.
func slowSegment(d *disk.Disk, seq int) (api.Header, []api.Sec, api.Errno) {
	if slowLive(seq) == "" {
		return api.Header{}, nil, api.ErrArg
	}
	if e := slowPower(d); e != api.OK {
		return api.Header{}, nil, e
	}
	l, ok := slowSeen(d, slowLive(seq))
	if !ok {
		return api.Header{}, nil, api.ErrNone
	}
	if len(l) != whole {
		return api.Header{}, nil, api.ErrCorrupt
	}
	h, ok := slowTold(l[0])
	if !ok || h.Seq != seq {
		return api.Header{}, nil, api.ErrCorrupt
	}
	return h, l[1:], api.OK
}

// slowNewest is Newest by the chapter's words.
func slowNewest(d *disk.Disk) uint64 {
	newest := uint64(0)
	for _, f := range d.Files() {
		h, ok := slowTold(f.L[0])
		if ok && slowLives(f.Name) && h.Epoch > newest {
			newest = h.Epoch
		}
	}
	return newest
}
