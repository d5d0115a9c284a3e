package lz_test

import (
	"strconv"
	"strings"

	"scriptorium/api"
)

// Slow, independent ways to do what the package does, by the definitions alone.

const maxDistance = 1536

// gamma returns the gamma code of a number.
func gamma(n int) string {
	digits := strconv.FormatInt(int64(n), 2)
	return strings.Repeat("0", len(digits)-1) + digits
}

func eight(b byte) string {
	digits := strconv.FormatInt(int64(b), 2)
	return strings.Repeat("0", 8-len(digits)) + digits
}

// slowCode returns the code of tokens in characters.
func slowCode(l []api.Token) string {
	var code strings.Builder
	for _, t := range l {
		if t.Distance == 0 {
			code.WriteString("0" + eight(t.Literal))
		} else {
			code.WriteString("1" + gamma(t.Distance) + gamma(t.Length-2))
		}
	}
	return code.String()
}

func slowCost(l []api.Token) int {
	return len(slowCode(l))
}

// bytesOf returns the number of bytes for which a token stands.
func bytesOf(t api.Token) int {
	return max(1, t.Length)
}

// slowExpand returns the bytes for which tokens stand. Those of a match are the last bytes of the window
// from its distance on, repeated as often as needed.
func slowExpand(l []api.Token, dict string) string {
	window := dict
	for _, t := range l {
		if t.Distance == 0 {
			window += string([]byte{t.Literal})
		} else {
			end := window[len(window)-t.Distance:]
			window += strings.Repeat(end, t.Length/len(end)+1)[:t.Length]
		}
	}
	return window[len(dict):]
}

// equalBytes returns how many bytes from a position of text on are equal to those distance bytes before.
func equalBytes(text string, at, distance int) int {
	n := 0
	for at+n < len(text) && text[at+n] == text[at+n-distance] {
		n++
	}
	return n
}

// allLists calls visit with every list of tokens for data.
func allLists(data, dict string, visit func(l []api.Token)) {
	text := dict + data
	var grow func(at int, l []api.Token)
	grow = func(at int, l []api.Token) {
		if at == len(text) {
			visit(l)
			return
		}
		grow(at+1, append(l[:len(l):len(l)], api.Token{Literal: text[at]}))
		for distance := 1; distance <= at; distance++ {
			for length := 3; length <= equalBytes(text, at, distance); length++ {
				grow(at+length, append(l[:len(l):len(l)], api.Token{Distance: distance, Length: length}))
			}
		}
	}
	grow(len(dict), nil)
}

// earlier tells whether, of two lists for the same data that cost the same, the first one is chosen, and
// the number of tokens that they begin with in common. It is false for equal lists.
func earlier(a, b []api.Token) (bool, int) {
	for i := range min(len(a), len(b)) {
		if bytesOf(a[i]) != bytesOf(b[i]) {
			return bytesOf(a[i]) > bytesOf(b[i]), i
		}
		if a[i].Distance != b[i].Distance {
			return a[i].Distance < b[i].Distance, i
		}
	}
	return false, len(a)
}

// bestOfAll returns the list that is to be chosen of all lists, and all lists of the same cost.
func bestOfAll(data, dict string) (best []api.Token, rivals [][]api.Token) {
	least := -1
	allLists(data, dict, func(l []api.Token) {
		switch c := slowCost(l); {
		case least < 0 || c < least:
			least, best, rivals = c, l, [][]api.Token{l}
		case c == least:
			rivals = append(rivals, l)
			if first, _ := earlier(l, best); first {
				best = l
			}
		}
	})
	return best, rivals
}

// slowParse returns the list that is to be chosen, for longer data. It tries all tokens at each position.
func slowParse(data, dict string) []api.Token {
	text := dict + data
	costs := make([]int, len(data)+1)
	firsts := make([]api.Token, len(data))
	for at := len(data) - 1; at >= 0; at-- {
		place := len(dict) + at
		firsts[at] = api.Token{Literal: data[at]}
		costs[at] = 9 + costs[at+1]
		for distance := place; distance >= 1; distance-- {
			longest := equalBytes(text, place, distance)
			for length := 3; length <= longest; length++ {
				c := 1 + len(gamma(distance)) + len(gamma(length-2)) + costs[at+length]
				if c < costs[at] || c == costs[at] && length >= bytesOf(firsts[at]) {
					costs[at], firsts[at] = c, api.Token{Distance: distance, Length: length}
				}
			}
		}
	}
	var l []api.Token
	for at := 0; at < len(data); at += bytesOf(firsts[at]) {
		l = append(l, firsts[at])
	}
	return l
}

// slowGamma reads a gamma code at the beginning of characters. It returns an error code of package api.
func slowGamma(code string) (n int, rest string, failure int) {
	if strings.HasPrefix(code, strings.Repeat("0", 31)) {
		return 0, "", api.ErrCorrupt
	}
	zeros := strings.IndexByte(code, '1')
	if zeros < 0 || len(code) < 2*zeros+1 {
		return 0, "", api.ErrTruncated
	}
	for _, digit := range code[zeros : 2*zeros+1] {
		n = 2*n + int(digit-'0')
	}
	return n, code[2*zeros+1:], 0
}

// slowToken reads a token at the beginning of characters.
func slowToken(code string, missing int) (t api.Token, rest string, failure int) {
	switch {
	case code == "" || code[0] == '0' && len(code) < 9:
		return t, "", api.ErrTruncated
	case code[0] == '0':
		n, _ := strconv.ParseUint(code[1:9], 2, 8)
		return api.Token{Literal: byte(n)}, code[9:], 0
	}
	distance, rest, failure := slowGamma(code[1:])
	if failure == 0 && distance > maxDistance {
		failure = api.ErrCorrupt
	}
	if failure != 0 {
		return t, "", failure
	}
	length, rest, failure := slowGamma(rest)
	if failure == 0 && length > missing-2 {
		failure = api.ErrCorrupt
	}
	return api.Token{Distance: distance, Length: length + 2}, rest, failure
}

// slowDecode returns the tokens at the beginning of characters that stand for count bytes, and the
// position behind them, or what is wrong.
func slowDecode(code string, count int) ([]api.Token, int, api.Fault) {
	var l []api.Token
	rest := code
	for count > 0 {
		t, next, failure := slowToken(rest, count)
		if failure != 0 {
			return nil, 0, api.Fault{Code: failure, Index: len(code) - len(rest)}
		}
		l = append(l, t)
		count -= bytesOf(t)
		rest = next
	}
	return l, len(code) - len(rest), api.Fault{}
}

// noise returns n bytes from 0 to letters - 1 without a simple period.
func noise(n, letters int) string {
	out := make([]byte, n)
	x := uint64(n*letters + 1)
	for i := range out {
		x = x*6364136223846793005 + 1442695040888963407
		out[i] = byte(int(x>>33) % letters)
	}
	return string(out)
}

// echoes returns n bytes that mostly repeat what stands before them, at various distances.
func echoes(n, letters int) string {
	out := []byte(noise(8, letters))
	for i, c := range []byte(noise(n, 256)) {
		distance := 1 + int(c)*(i+1)%len(out)
		for range int(c) % 13 {
			out = append(out, out[len(out)-distance])
		}
		out = append(out, c%byte(letters))
	}
	return string(out[:n])
}
