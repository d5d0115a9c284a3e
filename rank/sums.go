package rank

import (
	"math/bits"

	"scriptorium/api"
)

// step is the number of positions from one sum to the next.
const step = 64

// sums returns the numbers of ones ahead of the positions that are multiples of step.
func sums(b api.Bits) []int {
	out := make([]int, b.Count/step+1)
	for k := range b.Count / step {
		out[k+1] = out[k] + count(b.Data, k*step, (k+1)*step)
	}
	return out
}

// count returns the number of ones from a position where a byte begins up to any other position.
func count(data []byte, from, to int) int {
	n := 0
	for _, c := range data[from/8 : to/8] {
		n += bits.OnesCount8(c)
	}
	if rest := to % 8; rest != 0 {
		n += bits.OnesCount8(data[to/8] >> (8 - rest))
	}
	return n
}
