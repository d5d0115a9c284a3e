package rank_test

import (
	"bytes"
	"math"
	"slices"
	"testing"

	"scriptorium/api"
	"scriptorium/rank"
)

// roomy returns a vector whose slices have spare capacity, and these slices with it.
func roomy(t *testing.T, text string) (v api.Vector, data []byte, sums []int) {
	t.Helper()
	v = vector(t, text)
	data = append(bytes.Clone(v.Bits.Data), 0xa5, 0x5a, 0xff)
	sums = append(slices.Clone(v.Sums), 111, -222, 333)
	v.Bits.Data = data[:len(data)-3]
	v.Sums = sums[:len(sums)-3]
	return v, data, sums
}

func TestArgumentsAreLeftAlone(t *testing.T) {
	for _, n := range []int{0, 5, 63, 64, 65, 300} {
		v, data, sums := roomy(t, noise(n, 50))
		data0, sums0 := bytes.Clone(data), slices.Clone(sums)
		rank.Build(v.Bits)
		rank.Validate(v)
		r, _ := rank.Open(v.Bits)
		for _, i := range []int{-1, 0, 1, n / 2, n, n + 1, math.MaxInt} {
			rank.Rank(v, i)
			rank.Select(v, i)
			rank.SelectZero(v, i)
			r.Rank(i)
			r.Bit(i)
		}
		if !bytes.Equal(data, data0) || !slices.Equal(sums, sums0) {
			t.Errorf("%d bits: an argument was changed", n)
		}
	}
}

// overwrite changes all of a slice, its spare capacity included.
func overwrite[T byte | int](s []T) {
	s = s[:cap(s)]
	for i := range s {
		s[i] ^= 0x5b
	}
}

func TestResultsHaveMemoryOfTheirOwn(t *testing.T) {
	for _, n := range []int{1, 5, 63, 64, 65, 300} {
		text := noise(n, 50)
		want := vector(t, text)
		given, data, _ := roomy(t, text)
		first, _ := rank.Build(given.Bits)
		second, _ := rank.Build(given.Bits)
		overwrite(data)
		if !same(first, want) || !same(second, want) {
			t.Errorf("%d bits: a vector changes with the argument", n)
		}
		kept := bytes.Clone(data)
		overwrite(first.Bits.Data)
		overwrite(first.Sums)
		if !bytes.Equal(data, kept) || !same(second, want) {
			t.Errorf("%d bits: something else changes with a vector", n)
		}
	}
}

func TestReadersKeepNoArgument(t *testing.T) {
	for _, n := range []int{0, 1, 5, 63, 64, 65, 300} {
		text := noise(n, 50)
		given, data, _ := roomy(t, text)
		r := opened(t, given.Bits)
		overwrite(data)
		wantReader(t, "the argument was changed", r, text)
	}
}
