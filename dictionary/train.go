package dictionary

import (
	"cmp"
	"slices"
	"strings"

	"scriptorium/api"
)

// train returns the dictionary of samples.
func train(samples [][]byte, size int) []byte {
	dict := ""
	for _, segment := range sharedSegments(samples) {
		if strings.Contains(dict, segment) {
			continue
		}
		if joined := join(dict, segment); len(joined) <= size {
			dict = joined
		}
	}
	return []byte(dict)
}

// sharedSegments returns the segments that several samples have, in the order in which they are considered.
func sharedSegments(samples [][]byte) []string {
	frequency := frequencies(samples)
	var shared []string
	for segment, n := range frequency {
		if n >= 2 {
			shared = append(shared, segment)
		}
	}
	slices.SortFunc(shared, func(a, b string) int {
		return cmp.Or(cmp.Compare(frequency[b], frequency[a]), cmp.Compare(a, b))
	})
	return shared
}

// frequencies returns in how many samples each segment occurs.
func frequencies(samples [][]byte) map[string]int {
	frequency := map[string]int{}
	for _, sample := range samples {
		// A segment counts once, however often the sample has it.
		for segment := range segments(sample) {
			frequency[segment]++
		}
	}
	return frequency
}

// segments returns the set of the segments of a sample.
func segments(sample []byte) map[string]bool {
	set := map[string]bool{}
	for end := api.Segment; end <= len(sample); end++ {
		set[string(sample[end-api.Segment:end])] = true
	}
	return set
}

// join returns a dictionary to which a segment is joined.
func join(dict, segment string) string {
	front := overlap(segment, dict)
	back := overlap(dict, segment)
	if back > front {
		return dict + segment[back:]
	}
	return segment[:len(segment)-front] + dict
}

// overlap returns the length of the longest end of a that is a beginning of b.
func overlap(a, b string) int {
	n := min(len(a), len(b))
	for !strings.HasSuffix(a, b[:n]) {
		n--
	}
	return n
}
