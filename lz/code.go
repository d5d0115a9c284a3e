package lz

import (
	"scriptorium/api"
	"scriptorium/bits"
)

// code returns the code of a valid token in characters 0 and 1. Its numbers meet the limits of package
// bits, so that no step can fail.
func code(t api.Token) string {
	var b api.Bits
	if isLiteral(t) {
		b, _ = bits.Append(b, int(t.Literal), literalBits) // with the bit 0 ahead of its 8 bits
	} else {
		b, _ = bits.Append(b, 1, 1)
		b, _ = bits.AppendGamma(b, t.Distance)
		b, _ = bits.AppendGamma(b, t.Length-lengthOffset)
	}
	text, _ := bits.Text(b)
	return text
}

// read returns the token whose code begins at a position, and the position behind it. Only the code of
// its Fault has a meaning.
func read(b api.Bits, at, missing int) (api.Token, int, api.Fault) {
	kind, fault := bits.Read(b, at, 1)
	switch {
	case fault != (api.Fault{}):
		return api.Token{}, 0, fault
	case kind == 0:
		return readLiteral(b, at)
	}
	return readMatch(b, at+1, missing)
}

func readLiteral(b api.Bits, at int) (api.Token, int, api.Fault) {
	n, fault := bits.Read(b, at, literalBits)
	return api.Token{Literal: byte(n)}, at + literalBits, fault
}

// readMatch reads the numbers of a match for at most as many bytes as are missing.
func readMatch(b api.Bits, at, missing int) (api.Token, int, api.Fault) {
	distance, at, fault := bits.ReadGamma(b, at)
	switch {
	case fault != (api.Fault{}):
		return api.Token{}, 0, fault
	case distance > maxDistance:
		return api.Token{}, 0, api.Fault{Code: api.ErrCorrupt}
	}
	n, at, fault := bits.ReadGamma(b, at)
	length := n + lengthOffset
	switch {
	case fault != (api.Fault{}):
		return api.Token{}, 0, fault
	case length > missing:
		return api.Token{}, 0, api.Fault{Code: api.ErrCorrupt}
	}
	return api.Token{Distance: distance, Length: length}, at, api.Fault{}
}
