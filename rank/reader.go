package rank

import (
	"scriptorium/api"
	"scriptorium/bits"
)

// Reader answers questions about a bit string. The zero Reader is that of the empty bit string.
type Reader struct {
	vector api.Vector // valid, but for the zero Reader, which has no sums
}

// Open returns the reader of a bit string.
func Open(b api.Bits) (Reader, api.Fault) {
	v, fault := Build(b)
	return Reader{vector: v}, fault
}

// Len returns the number of bits.
func (r Reader) Len() int {
	return r.vector.Bits.Count
}

// Rank returns the number of ones ahead of a position.
func (r Reader) Rank(i int) int {
	to := min(i, r.Len())
	if to <= 0 {
		return 0 // without a look at the sums, since the zero Reader has none
	}
	k := to / step
	return r.vector.Sums[k] + count(r.vector.Bits.Data, k*step, to)
}

// Bit reports whether there is a one at a position.
func (r Reader) Bit(i int) bool {
	// Beside the fault for a position that does not exist stands 0.
	bit, _ := bits.Read(r.vector.Bits, i, 1)
	return bit == 1
}
