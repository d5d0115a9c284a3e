package squeeze

import (
	"slices"

	"scriptorium/api"
)

const sizeBytes = 2 // that hold the length of a block

// method is one of the ways to pack a block.
type method interface {
	// pack returns what follows the number of the method in the packed form of a block. It may be the
	// memory of the block.
	pack(block, dict []byte) []byte
	// unpack returns the block for what follows the number, and whether there is one.
	unpack(rest, dict []byte) ([]byte, bool)
}

// coding is one of the ways to write a block in bits, if its length is known.
type coding interface {
	// encode returns the code of a block.
	encode(block, dict []byte) api.Bits
	// decode returns the block of a length for the bytes of a code, and whether there is one.
	decode(payload []byte, size int, dict []byte) ([]byte, bool)
}

// methods returns all methods, each one at the position that is its number.
func methods() []method {
	return []method{stored{}, sized{modeled{}}, sized{matched{}}}
}

// stored is the method that leaves a block as it is.
type stored struct{}

func (stored) pack(block, _ []byte) []byte {
	return block
}

func (stored) unpack(rest, _ []byte) ([]byte, bool) {
	return slices.Clone(rest), true
}

// sized is the method that writes the length of a block ahead of its code.
type sized struct {
	coding coding
}

func (s sized) pack(block, dict []byte) []byte {
	size := []byte{byte(len(block)), byte(len(block) >> 8)}
	// The bits of a valid bit string behind its last one are zeros, as they are to be in the last byte.
	return append(size, s.coding.encode(block, dict).Data...)
}

func (s sized) unpack(rest, dict []byte) ([]byte, bool) {
	if len(rest) < sizeBytes {
		return nil, false
	}
	size := int(rest[0]) + int(rest[1])<<8
	if size > api.MaxBlock {
		return nil, false
	}
	return s.coding.decode(rest[sizeBytes:], size, dict)
}

// wholeBits returns all bits of bytes. It shares their memory.
func wholeBits(payload []byte) api.Bits {
	return api.Bits{Data: payload, Count: 8 * len(payload)}
}
