package squeeze

import (
	"scriptorium/api"
	"scriptorium/arith"
	"scriptorium/model"
)

const (
	order   = 1  // of the model
	unread  = 14 // bits that a decoder has read behind the end of its code when it has decoded all
	noValue = -1 // of a bit that cannot be decoded
)

// modeled is the coding that expects each bit with the probability that the model predicts.
type modeled struct{}

func (modeled) encode(block, _ []byte) api.Bits {
	l := make([]api.Choice, 0, 8*len(block))
	// Neither the walk nor the coder can fail: a block has as many bits as they take at most, and all
	// predicted probabilities are those of the coder.
	model.Walk(order, 8*len(block), func(p int) int {
		bit := bitAt(block, len(l))
		l = append(l, api.Choice{Bit: bit, P: p})
		return bit
	})
	code, _ := arith.Encode(l)
	return code
}

func (modeled) decode(payload []byte, size int, _ []byte) ([]byte, bool) {
	code := wholeBits(payload)
	d, fault := arith.Open(code)
	if fault != (api.Fault{}) {
		return nil, false
	}
	block := make([]byte, size)
	at := 0
	fault = model.Walk(order, 8*size, func(p int) int {
		bit, next, fault := arith.Get(d, code, p)
		if fault != (api.Fault{}) {
			return noValue // so that the walk ends
		}
		block[at/8] = block[at/8]<<1 | byte(bit)
		at++
		d = next
		return bit
	})
	used := (d.At - unread + 7) / 8
	if fault != (api.Fault{}) || used != len(payload) {
		return nil, false
	}
	return block, true
}

// bitAt returns a bit of bytes, counted from the most significant one of the first byte on.
func bitAt(block []byte, at int) int {
	return int(block[at/8] >> (7 - at%8) & 1)
}
