package dictionary_test

import (
	"fmt"
	"math/bits"
	"slices"
	"strings"
)

// Slow, independent ways to do what the package does, by the definitions alone.

// slowSegments returns the segments that at least two samples have, in the order in which they are considered.
func slowSegments(samples []string) []string {
	seen := map[string]bool{}
	var keys []string
	for _, sample := range samples {
		for at := 0; at+8 <= len(sample); at++ {
			segment := sample[at : at+8]
			if seen[segment] {
				continue
			}
			seen[segment] = true
			missing := 0
			for _, other := range samples {
				if !strings.Contains(other, segment) {
					missing++
				}
			}
			if len(samples)-missing >= 2 {
				keys = append(keys, fmt.Sprintf("%02d", missing)+segment)
			}
		}
	}
	slices.Sort(keys)
	for i, key := range keys {
		keys[i] = key[2:]
	}
	return keys
}

// longestCommon returns how many bytes at most, at the end of a, are the beginning of b.
func longestCommon(a, b string) int {
	longest := 0
	for n := 1; n <= len(a) && n <= len(b); n++ {
		if a[len(a)-n:] == b[:n] {
			longest = n
		}
	}
	return longest
}

// slowTrain returns the dictionary of samples, and adds to count how often each thing happened.
func slowTrain(samples []string, size int, count map[string]int) string {
	dict := ""
	for _, s := range slowSegments(samples) {
		f, b := longestCommon(s, dict), longestCommon(dict, s)
		what, joined := "", ""
		switch {
		case dict == "":
			what, joined = "first", s
		case b > f:
			what, joined = "end", dict+s[b:]
		case f > b:
			what, joined = "beginning", s[:8-f]+dict
		case f > 0:
			what, joined = "tie", s[:8-f]+dict
		default:
			what, joined = "nothing", s+dict
		}
		if b > f && f > 0 || f > b && b > 0 {
			what += " of two"
		}
		switch {
		case strings.Contains(dict, s):
			what = "there"
		case len(joined) > size:
			what = "too long"
		default:
			if count["too long in this call"] > 0 {
				count["later"]++
			}
			dict = joined
		}
		count[what]++
		if what == "too long" {
			count["too long in this call"]++
		}
	}
	delete(count, "too long in this call")
	return dict
}

func gammaSize(n int) int {
	return 2*bits.Len(uint(n)) - 1
}

// leastCost returns the least number of bits of tokens for data.
func leastCost(data, dict string) int {
	text := dict + data
	least := make([]int, len(text)+1)
	for at := len(text) - 1; at >= len(dict); at-- {
		least[at] = 9 + least[at+1]
		for distance := 1; distance <= at; distance++ {
			for n := 1; at+n <= len(text) && text[at+n-1] == text[at+n-1-distance]; n++ {
				if n >= 3 {
					least[at] = min(least[at], 1+gammaSize(distance)+gammaSize(n-2)+least[at+n])
				}
			}
		}
	}
	return least[len(dict)]
}

func slowWorth(samples []string, dict string) int {
	saved := 0
	for _, sample := range samples {
		saved += leastCost(sample, "") - leastCost(sample, dict)
	}
	return saved
}

// dice returns a function that returns numbers from 0 to n - 1 without a simple period.
func dice(seed int) func(n int) int {
	x := uint64(seed)*2862933555777941757 + 3037000493
	return func(n int) int {
		x = x*6364136223846793005 + 1442695040888963407
		return int(x>>33) % n
	}
}

// noise returns n bytes of which there are so many different ones, evenly spread over all bytes.
func noise(seed, n, letters int) string {
	throw := dice(seed)
	out := make([]byte, n)
	for i := range out {
		out[i] = byte(throw(letters) * 255 / max(1, letters-1))
	}
	return string(out)
}

// relatives returns samples that consist of parts of one text and of bytes of their own.
func relatives(seed, count, n int) []string {
	throw := dice(seed)
	text := noise(seed, 150, 200)
	samples := make([]string, count)
	for i := range samples {
		for len(samples[i]) < n {
			at := throw(len(text) - 30)
			samples[i] += text[at:at+6+throw(24)] + noise(throw(1000), throw(4), 256)
		}
		samples[i] = samples[i][:n]
	}
	return samples
}
