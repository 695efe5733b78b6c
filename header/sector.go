package header

import (
	"strandline/api"
	"strandline/crc"
	"strandline/word"
)

// mark is what each header's sector begins with: four letters, and the number 1.
const mark = "strd\x01"

// width is how many bytes each number has, but Epoch.
const width = 4

// Where the fields behind the mark begin, and where the last one ends.
const (
	epochAt = len(mark)
	seqAt   = epochAt + 8
	firstAt = seqAt + width
	headsAt = firstAt + width
	sumAt   = headsAt + width*api.MaxChains
	end     = sumAt + width
)

// rest is what stands behind a header's fields.
type rest [api.Sector - end]byte

// lay tells the sector of h, whose numbers have room in it.
func lay(h api.Header) api.Sec {
	var s api.Sec
	put(&s, 0, []byte(mark), word.Put(h.Epoch, seqAt-epochAt), number(h.Seq), number(h.First))
	for i, n := range h.Heads {
		put(&s, headsAt+width*i, number(n))
	}
	// Last, as it is the sum of all that was put ahead of it.
	put(&s, sumAt, sum(s))
	return s
}

// read tells the header that s has, right or not.
func read(s api.Sec) api.Header {
	h := api.Header{Epoch: word.Get(s[epochAt:seqAt]), Seq: get(s, seqAt), First: get(s, firstAt)}
	for i := range h.Heads {
		h.Heads[i] = get(s, headsAt+width*i)
	}
	return h
}

// put lays fields into s, one behind the other, from the place at on.
func put(s *api.Sec, at int, fields ...[]byte) {
	for _, f := range fields {
		at += copy(s[at:], f)
	}
}

// get tells the number at that place of s.
func get(s api.Sec, at int) int {
	return int(word.Get(s[at : at+width]))
}

func number(n int) []byte {
	return word.Put(uint64(n), width)
}

// sum tells the masked sum of what stands ahead of a sum in s, as its bytes.
func sum(s api.Sec) []byte {
	return word.Put(uint64(crc.Mask(crc.Of(s[:sumAt]))), width)
}
