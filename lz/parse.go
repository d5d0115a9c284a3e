package lz

import (
	"slices"

	"scriptorium/api"
)

// firstTokens returns, for each position of data, the first token of the best list for the bytes from
// there on. Which list is best does not depend on the tokens ahead of the position, since the window
// consists of bytes: so it is found from the end on.
func firstTokens(data, dict []byte) []api.Token {
	text := slices.Concat(dict, data)
	first := make([]api.Token, len(data))
	least := make([]int, len(data)+1) // the cost of the best list for the bytes from a position on
	equal := make([]int, len(text))   // by distance: how many bytes are equal to those before them
	for done := range len(data) {
		at := len(data) - 1 - done
		place := len(dict) + at
		countEqual(equal, text, place)
		first[at], least[at] = firstToken(data[at], equal[:place+1], least[at:])
	}
	return first
}

// countEqual updates the numbers of equal bytes from those for place + 1 to those for place.
func countEqual(equal []int, text []byte, place int) {
	for distance := 1; distance <= place; distance++ {
		if text[place] == text[place-distance] {
			equal[distance]++
		} else {
			equal[distance] = 0
		}
	}
}

// firstToken returns the first token of the best list and the cost of the list. The costs of the best
// lists from the position on are given, except for the first of them.
func firstToken(literal byte, equal, least []int) (api.Token, int) {
	best := api.Token{Literal: literal}
	total := cost(best) + least[1]
	longest := api.MinMatch - 1
	for distance := 1; distance < len(equal); distance++ {
		// Greater distances do not cost less: each length is tried with the first one that offers it.
		for longest < equal[distance] {
			longest++
			t := api.Token{Distance: distance, Length: longest}
			// Lengths increase, and of equal costs the greatest length counts.
			if c := cost(t) + least[longest]; c <= total {
				best, total = t, c
			}
		}
	}
	return best, total
}
