package squeeze

import (
	"scriptorium/api"
	"scriptorium/bits"
	"scriptorium/lz"
)

// matched is the coding with the tokens that cost least.
type matched struct{}

func (matched) encode(block, dict []byte) api.Bits {
	l, _ := lz.Parse(block, dict) // the lengths of both are checked
	code, _ := lz.Encode(l)       // a block has at most as many tokens as bytes
	return code
}

func (matched) decode(payload []byte, size int, dict []byte) ([]byte, bool) {
	l, end, fault := lz.Decode(wholeBits(payload), size)
	if fault != (api.Fault{}) {
		return nil, false
	}
	// The bits up to the end need all these bytes, and only zeros follow them, if they are a bit string.
	if !bits.Valid(api.Bits{Data: payload, Count: end}) {
		return nil, false
	}
	block, fault := lz.Expand(l, dict)
	return block, fault == (api.Fault{})
}
