package writer

import (
	"slices"
	"strings"

	"strandline/api"
	"strandline/disk"
)

// slowSum is the masked sum of b: layer 3's words, bit by bit.
func slowSum(b []byte) uint32 {
	s := ^uint32(0)
	for _, x := range b {
		s ^= uint32(x)
		for range 8 {
			low := s & 1
			s >>= 1
			if low == 1 {
				s ^= 0x82f63b78
			}
		}
	}
	s = ^s
	return s>>15 + s<<17 + 0xa282ead8
}

// slowFragment is a fragment's bytes: layer 13's words, byte by byte.
func slowFragment(kind int, epoch uint64, data []byte) []byte {
	l := []byte{0, 0, 0, 0, byte(len(data)), byte(len(data) >> 8), byte(kind), byte(epoch), byte(epoch >> 8), byte(epoch >> 16), byte(epoch >> 24)}
	l = append(l, data...)
	s := slowSum(l[4:])
	for i := range 4 {
		l[i] = byte(s)
		s >>= 8
	}
	return l
}

// slowBegin is where a piece begins: layer 7's words, place by place.
func slowBegin(at int) int {
	for at < all && room-at%room < head {
		at++
	}
	return at
}

// piece is where one begins, its Kind, and which of the record's bytes it has.
type piece struct{ at, kind, from, to int }

// slowPieces are those of a record of n bytes, and the place behind the last one: layer 14's words, byte by byte.
func slowPieces(at, n int) ([]piece, int, bool) {
	var l []piece
	had := 0
	for len(l) == 0 || had < n {
		p := piece{at: slowBegin(at), kind: 3, from: had}
		if p.at == all {
			return nil, 0, false
		}
		at = p.at + head
		for had < n && at%block != 0 {
			at++
			had++
		}
		p.to = had
		l = append(l, p)
	}
	l[0].kind = 2
	l[len(l)-1].kind = 4
	if len(l) == 1 {
		l[0].kind = 1
	}
	return l, at, true
}

// slowRoom is the greatest length of a record that fits from the place at on, length by length; -1, if there is none.
func slowRoom(at int) int {
	n := 0
	for ; n <= all; n++ {
		if _, _, ok := slowPieces(at, n); !ok {
			break
		}
	}
	return n - 1
}

// slowSector is the i-th sector of a body: layers 6 and 16, byte by byte.
func slowSector(epoch uint64, i int, body []byte) api.Sec {
	var s api.Sec
	for k := range 8 {
		s[k] = byte(epoch >> (8 * k))
	}
	s[8] = byte(i)
	for k := range room {
		s[stamped+k] = body[room*i+k]
	}
	return s
}

// slowData are a segment's Data sectors of all records, one behind the other from the place 0 on: layer 17.
func slowData(epoch uint64, records [][]byte) ([]api.Sec, bool) {
	body, end := make([]byte, all), 0
	for _, data := range records {
		l, behind, ok := slowPieces(end, len(data))
		if !ok {
			return nil, false
		}
		for _, p := range l {
			copy(body[p.at:], slowFragment(p.kind, epoch, data[p.from:p.to]))
		}
		end = behind
	}
	l := make([]api.Sec, sectors)
	for i := range l {
		if room*i < end {
			l[i] = slowSector(epoch, i, body)
		}
	}
	return l, true
}

// slowLive is a number's live name, digit by digit; nothing, if it has none.
func slowLive(seq int) string {
	if seq < 1 || seq > mostLSN {
		return ""
	}
	digits := ""
	for n := seq; n > 0; n /= 10 {
		digits = string([]byte{byte('0' + n%10)}) + digits
	}
	return "wal-" + digits
}

// slowFile is a file, sector by sector.
type slowFile struct {
	lasting, seen []api.Sec
	waits         []bool
}

// slowDisk is a disk by layer 8's words, as far as these tests ask it: it is never full.
type slowDisk struct {
	files map[string]*slowFile
	ops   int
	left  int // how many ops are done ahead of the one that isn't; below 0, if no Fail is told
	down  bool
}

// twinOf is a slow disk that is as d is, which is up and has no Fail to come.
func twinOf(d *disk.Disk) *slowDisk {
	s := told(d)
	twin := &slowDisk{files: map[string]*slowFile{}, ops: s.ops, left: -1}
	for _, f := range s.files {
		twin.files[f.name] = &slowFile{f.lasting, f.seen, f.waits}
	}
	return twin
}

// clone is one that is as d is, apart.
func (d *slowDisk) clone() *slowDisk {
	c := *d
	c.files = map[string]*slowFile{}
	for name, f := range d.files {
		c.files[name] = &slowFile{slices.Clone(f.lasting), slices.Clone(f.seen), slices.Clone(f.waits)}
	}
	return &c
}

// names are the files' names, rising.
func (d *slowDisk) names() []string {
	var l []string
	for name := range d.files {
		l = append(l, name)
	}
	slices.SortFunc(l, strings.Compare)
	return l
}

// told tells all that is told of it.
func (d *slowDisk) told() state {
	s := state{ops: d.ops, down: d.down, until: endless}
	if d.left >= 0 {
		s.until = min(d.left, endless)
	}
	if d.down {
		s.until = -1
	}
	for _, name := range d.names() {
		f := d.files[name]
		shown := fileState{name: name, lasting: f.lasting, seen: f.seen}
		s.used += len(f.seen)
		for _, is := range f.waits {
			if is {
				s.waiting++
			}
		}
		if !d.down {
			shown.waits = f.waits
		}
		s.files = append(s.files, shown)
	}
	return s
}

// op tells whether one that has no error is done, or the power goes at it.
func (d *slowDisk) op() api.Errno {
	if d.left == 0 {
		d.down = true
		return api.ErrDown
	}
	d.left = max(d.left-1, -1)
	d.ops++
	return api.OK
}

// find tells a file of a disk that is up.
func (d *slowDisk) find(name string) (*slowFile, api.Errno) {
	if d.down {
		return nil, api.ErrDown
	}
	if d.files[name] == nil {
		return nil, api.ErrNone
	}
	return d.files[name], api.OK
}

func (d *slowDisk) write(name string, at int, l []api.Sec) api.Errno {
	f, e := d.find(name)
	if e != api.OK {
		return e
	}
	if at < 0 || at+len(l) > len(f.seen) {
		return api.ErrRange
	}
	if e := d.op(); e != api.OK {
		return e
	}
	for i := range l {
		f.seen[at+i] = l[i]
		f.waits[at+i] = true
	}
	return api.OK
}

func (d *slowDisk) sync(name string) api.Errno {
	f, e := d.find(name)
	if e != api.OK {
		return e
	}
	if e := d.op(); e != api.OK {
		return e
	}
	for i := range f.seen {
		f.lasting[i] = f.seen[i]
		f.waits[i] = false
	}
	return api.OK
}

func (d *slowDisk) make(name string, n int) api.Errno {
	if d.down {
		return api.ErrDown
	}
	if d.files[name] != nil {
		return api.ErrThere
	}
	if e := d.op(); e != api.OK {
		return e
	}
	d.files[name] = &slowFile{make([]api.Sec, n), make([]api.Sec, n), make([]bool, n)}
	return api.OK
}

func (d *slowDisk) rename(from, to string) api.Errno {
	f, e := d.find(from)
	if e != api.OK || from == to {
		return e
	}
	if e := d.op(); e != api.OK {
		return e
	}
	d.files[to] = f
	delete(d.files, from)
	return api.OK
}

func (d *slowDisk) remove(name string) api.Errno {
	if _, e := d.find(name); e != api.OK {
		return e
	}
	if e := d.op(); e != api.OK {
		return e
	}
	delete(d.files, name)
	return api.OK
}

func (d *slowDisk) fail(after int) api.Errno {
	if d.down {
		return api.ErrDown
	}
	d.left = after
	return api.OK
}

func (d *slowDisk) crash(c api.Crash) {
	nth := 0
	for _, name := range d.names() {
		f := d.files[name]
		for i := range f.seen {
			if !f.waits[i] {
				continue
			}
			keep := 0
			if nth/8 < len(c.Keep) && c.Keep[nth/8]>>(nth%8)%2 == 1 {
				keep = sector
			}
			if nth == c.Torn {
				keep = min(max(c.Cut, 0), sector)
			}
			for k := range keep {
				f.lasting[i][k] = f.seen[i][k]
			}
			f.seen[i] = f.lasting[i]
			f.waits[i] = false
			nth++
		}
	}
	d.down, d.left = false, -1
}

// slowWriter is a writer by the chapter's words, of a slow disk.
type slowWriter struct {
	d     *slowDisk
	name  string
	epoch uint64
	body  []byte
	end   int
}

func slowNew(d *slowDisk, h api.Header, body []byte, end int) *slowWriter {
	if d == nil || slowLive(h.Seq) == "" {
		return nil
	}
	w := &slowWriter{d: d, name: slowLive(h.Seq), epoch: h.Epoch, end: end}
	for i := range all {
		if i < len(body) {
			w.body = append(w.body, body[i])
		} else {
			w.body = append(w.body, 0)
		}
	}
	if w.end < 0 {
		w.end = 0
	}
	if w.end > all {
		w.end = all
	}
	return w
}

func (w *slowWriter) append(data []byte) (int, api.Errno) {
	l, behind, ok := slowPieces(w.end, len(data))
	if !ok {
		return 0, api.ErrFull
	}
	body := slices.Clone(w.body)
	for _, p := range l {
		for i, x := range slowFragment(p.kind, w.epoch, data[p.from:p.to]) {
			body[p.at+i] = x
		}
	}
	var secs []api.Sec
	last := -1
	for at := w.end; at < behind; at++ {
		if at/room != last {
			last = at / room
			secs = append(secs, slowSector(w.epoch, last, body))
		}
	}
	if e := w.d.write(w.name, 1+w.end/room, secs); e != api.OK {
		return 0, e
	}
	w.body, w.end = body, behind
	return l[0].at, api.OK
}

func (w *slowWriter) sync() api.Errno {
	return w.d.sync(w.name)
}

func (w *slowWriter) fits(n int) bool {
	if n < 0 || n > all {
		return false
	}
	_, _, ok := slowPieces(w.end, n)
	return ok
}
