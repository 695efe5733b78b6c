package frag

import (
	"strandline/api"
	"strandline/crc"
	"strandline/word"
)

// Where each number of a head begins, and where the last one ends.
const (
	sumAt   = 0
	countAt = 4
	kindAt  = 6
	epochAt = 7
	end     = api.Head
)

// head is what stands ahead of a fragment's Data: its sum, how many bytes Data has, its Kind, its Epoch.
type head [api.Head]byte

// cut tells the bytes from one place to another without the room behind them, so that nothing that is done with them reaches the next number.
func (h *head) cut(from, to int) []byte {
	return h[from:to:to]
}

func (h *head) put(from, to int, n uint64) {
	copy(h.cut(from, to), word.Put(n, to-from))
}

func (h *head) get(from, to int) uint64 {
	return word.Get(h.cut(from, to))
}

// sumWith tells the masked sum of all that stands behind the sum: the head's other bytes, and data.
func (h *head) sumWith(data []byte) uint64 {
	sum := crc.More(crc.Of(h.cut(countAt, end)), data)
	return uint64(crc.Mask(sum))
}
