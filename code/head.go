package code

import (
	"thyrsus/api"
)

// Where the parts of a head begin, and how long it is.
const (
	opAt    = 0
	nAt     = 1
	nLen    = 8
	kidsAt  = nAt + nLen
	headLen = kidsAt + 1
)

// head is the bytes of a term without those of its Kids.
type head [headLen]byte

func headOf(t api.Tm) head {
	var h head
	h[opAt] = byte(t.Op)
	n := uint64(t.N)
	for i := range nLen {
		h[nAt+i] = byte(n >> (8 * i))
	}
	h[kidsAt] = byte(len(t.Kids))
	return h
}

func (h head) op() int { return int(h[opAt]) }

func (h head) n() int {
	var n uint64
	for i := range nLen {
		n |= uint64(h[nAt+i]) << (8 * i)
	}
	return int(n)
}

func (h head) kids() int { return int(h[kidsAt]) }
