package dictionary_test

import (
	"bytes"
	"math"
	"slices"
	"strings"
	"sync"
	"testing"

	"scriptorium/api"
	"scriptorium/dictionary"
)

// bytesOf returns samples in memory of their own.
func bytesOf(samples []string) [][]byte {
	var out [][]byte
	for _, sample := range samples {
		out = append(out, []byte(sample))
	}
	return out
}

// times returns n equal samples.
func times(n int, sample string) []string {
	return slices.Repeat([]string{sample}, n)
}

func wantFault(t *testing.T, what string, got api.Fault, code, index int) {
	t.Helper()
	if got != (api.Fault{Code: code, Index: index}) {
		t.Errorf("%s: got %v, want {%d %d}", what, got, code, index)
	}
}

func wantTrained(t *testing.T, samples []string, size int, want string) {
	t.Helper()
	got, f := dictionary.Train(bytesOf(samples), size)
	if f != (api.Fault{}) || string(got) != want {
		t.Errorf("%.400q in %d bytes: got %q and %v, want %q", samples, size, got, f, want)
	}
}

func wantNext(t *testing.T, dict string, samples []string, size int, want string) {
	t.Helper()
	got, f := dictionary.Next([]byte(dict), bytesOf(samples), size)
	if f != (api.Fault{}) || string(got) != want {
		t.Errorf("%q and %.400q in %d bytes: got %q and %v, want %q", dict, samples, size, got, f, want)
	}
}

func wantWorth(t *testing.T, samples []string, dict string, want int) {
	t.Helper()
	got, f := dictionary.Worth(bytesOf(samples), []byte(dict))
	if f != (api.Fault{}) || got != want {
		t.Errorf("%.400q with %q: got %d and %v, want %d", samples, dict, got, f, want)
	}
}

// Worked out by hand.
func TestTrain(t *testing.T) {
	for _, c := range []struct {
		samples []string
		want    string
	}{
		{[]string{"abcdefghi", "xabcdefghi"}, "abcdefghi"},
		{[]string{"xabcdefghiy", "zabcdefghiz"}, "abcdefghi"},
		{[]string{"abcdefghx", "yabcdefgh"}, "abcdefgh"},
		{[]string{"abcdefgx", "abcdefgy"}, ""},
		// Equal samples. All segments are considered in lexicographic order.
		{times(2, "abcdefgh"), "abcdefgh"},
		{times(2, "abcdefghijkl"), "abcdefghijkl"},
		{times(3, "lkjihgfedcba"), "lkjihgfedcba"},
		{times(2, "aaaaaaaaaaaa"), "aaaaaaaa"},
		{times(2, "abcdefghabcdefgh"), "habcdefghabcdef"}, // both sides have 7 bytes in common with the last one
		// A segment that occurs many times in one sample.
		{[]string{"abcdefghabcdefgh"}, ""},
		{[]string{"aaaaaaaaaaaaaaaaaaaa"}, ""},
		{[]string{"abcdefghabcdefgh", "abcdefg", "bcdefgh"}, ""},
		{[]string{"abcdefgh.abcdefgh!abcdefgh", "x12345678", "y12345678"}, "12345678"},
		{append(times(3, "abcdefgh"), "12345678.12345678!12345678?12345678", "12345678"), "12345678abcdefgh"},
		// The segments that more samples have come first, and then those with the lower bytes.
		{append(times(2, "12345678"), times(3, "abcdefgh")...), "12345678abcdefgh"},
		{append(times(3, "12345678"), times(2, "abcdefgh")...), "abcdefgh12345678"},
		{append(times(2, "abcdefgh"), times(2, "12345678")...), "abcdefgh12345678"},
		{append(times(2, "abcdefgh"), times(2, "abcdefgX")...), "abcdefghabcdefgX"},
		{append(times(2, "~~~~~~~~"), times(2, "\x80.......")...), "\x80.......~~~~~~~~"},
		{append(times(2, "\xff......."), times(2, "\x7f.......")...), "\xff.......\x7f......."},
		{append(times(2, "a\x00......"), times(2, "a\xff------")...), "a\xff------a\x00......"},
		{append(times(2, "a......\x80"), times(2, "b......\x7f")...), "b......\x7fa......\x80"},
	} {
		wantTrained(t, c.samples, 512, c.want)
		wantTrained(t, c.samples, len(c.want), c.want)
	}
}

// Worked out by hand. The first segment is the dictionary to which the second one is joined.
func TestTrainJoins(t *testing.T) {
	for _, c := range []struct{ dict, segment, want string }{
		{"abcdefgh", "12345678", "12345678abcdefgh"},
		{"abcdefgh", "h2345678", "abcdefgh2345678"},
		{"abcdefgh", "efghijkl", "abcdefghijkl"},
		{"abcdefgh", "bcdefghi", "abcdefghi"},
		{"abcdefgh", "1234567a", "1234567abcdefgh"},
		{"efghijkl", "abcdefgh", "abcdefghijkl"},
		{"bcdefghi", "abcdefgh", "abcdefghi"},
		// Something in common on both sides: the longer one counts, and the beginning if they are equal.
		{"ab....cd", "cd----ab", "cd----ab....cd"},
		{"ab...cde", "cde---ab", "ab...cde---ab"},
		{"abc...de", "de---abc", "de---abc...de"},
		{"abababab", "babababa", "babababab"},
		{"aaaaaaab", "baaaaaaa", "baaaaaaab"},
		{"baaaaaaa", "aaaaaaab", "baaaaaaab"},
		{"aaaabbbb", "bbbbaaaa", "bbbbaaaabbbb"},
		// The longest of several common parts counts.
		{"....abab", "abab----", "....abab----"},
		{"abab....", "....abab", "....abab...."},
		{"xyaaaaaa", "aaaaaazw", "xyaaaaaazw"},
		{"aaaaaaxy", "zwaaaaaa", "zwaaaaaaxy"},
		// Something in common at other places.
		{"abcdefgh", "..cdef..", "..cdef..abcdefgh"},
		{"abcdefgh", "abcd....", "abcd....abcdefgh"},
		{"abcdefgh", "....efgh", "....efghabcdefgh"},
	} {
		samples := append(times(3, c.dict), times(2, c.segment)...)
		wantTrained(t, samples, 512, c.want)
		wantTrained(t, samples, len(c.want), c.want)
		wantTrained(t, samples, len(c.want)-1, c.dict)
	}
}

// Worked out by hand.
func TestTrainPassesOver(t *testing.T) {
	// A segment that occurs where two others meet.
	meeting := slices.Concat(times(4, "abcdefgh"), times(3, "12345678"), times(2, "5678abcd"))
	wantTrained(t, meeting, 512, "12345678abcdefgh")
	// Segments with which the dictionary would be too long, and then one that fits.
	late := slices.Concat(times(4, "abcdefgh"), times(3, "12345678"), times(2, "efghijkl"))
	wantTrained(t, late, 7, "")
	wantTrained(t, late, 8, "abcdefgh")
	wantTrained(t, late, 11, "abcdefgh")
	wantTrained(t, late, 12, "abcdefghijkl")
	wantTrained(t, late, 15, "abcdefghijkl")
	wantTrained(t, late, 16, "12345678abcdefgh")
	wantTrained(t, late, 19, "12345678abcdefgh")
	wantTrained(t, late, 20, "12345678abcdefghijkl")
	wantTrained(t, late, 512, "12345678abcdefghijkl")
	// The same at the beginning.
	early := slices.Concat(times(4, "efghijkl"), times(3, "......ab"), times(2, "abcdefgh"))
	wantTrained(t, early, 12, "abcdefghijkl")
	wantTrained(t, early, 16, "......abefghijkl")
	wantTrained(t, early, 23, "......abefghijkl")
	wantTrained(t, early, 24, "abcdefgh......abefghijkl")
}

func TestTrainEdges(t *testing.T) {
	for _, size := range []int{0, 1, 7, 8, 9, 511, 512} {
		wantTrained(t, nil, size, "")
		wantTrained(t, []string{}, size, "")
		wantTrained(t, []string{""}, size, "")
		wantTrained(t, times(64, ""), size, "")
		wantTrained(t, times(64, "abcdefg"), size, "")
		wantTrained(t, []string{"abcdefgh"}, size, "")
		wantTrained(t, []string{"", "abcdefgh", "abcdefg", "bcdefgh", "a"}, size, "")
		if size < 8 {
			wantTrained(t, times(2, "abcdefgh"), size, "")
			wantTrained(t, times(64, "abcdefghijkl"), size, "")
		} else {
			wantTrained(t, times(2, "abcdefgh"), size, "abcdefgh")
			wantTrained(t, append(times(62, ""), times(2, "abcdefgh")...), size, "abcdefgh")
		}
	}
	for _, sample := range []string{"\x00\x00\x00\x00\x00\x00\x00\x00", "\xff\xff\xff\xff\xff\xff\xff\xff", "\xc3\xa9\xc3\xa9\xff\xfe\x00\x80"} {
		wantTrained(t, times(2, sample), 8, sample)
	}
}

// backward returns samples in the opposite order.
func backward(samples []string) []string {
	out := slices.Clone(samples)
	slices.Reverse(out)
	return out
}

// wantTrainedAsDefined compares Train with the slow way, which counts what happens, for several sizes and
// for several orders of the samples.
func wantTrainedAsDefined(t *testing.T, samples []string, count map[string]int) {
	t.Helper()
	for _, size := range []int{8, 20, 61, 250, 512} {
		want := slowTrain(samples, size, count)
		wantTrained(t, samples, size, want)
		wantTrained(t, backward(samples), size, want)
		wantTrained(t, slices.Concat(samples[len(samples)/3:], samples[:len(samples)/3]), size, want)
	}
}

func TestTrainAsDefined(t *testing.T) {
	count := map[string]int{}
	for seed := range 40 {
		wantTrainedAsDefined(t, relatives(seed, 2+seed%9, 40+3*seed), count)
	}
	for letters := 2; letters <= 6; letters++ {
		for n := 8; n < 400; n = n*5/4 + 1 {
			var samples []string
			for i := range 2 + n%7 {
				samples = append(samples, noise(100*i+letters, n-i, letters))
			}
			wantTrainedAsDefined(t, samples, count)
		}
	}
	for _, what := range []string{
		"first", "end", "beginning", "tie", "nothing", "end of two", "beginning of two", "there", "too long", "later",
	} {
		if count[what] < 100 {
			t.Errorf("too few segments of the sort %q: %d", what, count[what])
		}
	}
}

func TestTrainAtTheLimits(t *testing.T) {
	var different, pairs, few []string
	for i := range 64 {
		different = append(different, noise(i, 1024, 256))
		pairs = append(pairs, noise(i/2, 1024, 256))
		few = append(few, noise(i, 1024, 2))
	}
	wantTrained(t, different, 512, "")
	for _, samples := range [][]string{times(64, different[0]), pairs, few, relatives(5, 64, 1024)} {
		for _, size := range []int{8, 512} {
			want := slowTrain(samples, size, map[string]int{})
			wantTrained(t, samples, size, want)
			if len(want) < min(size, 263) { // two letters make 256 segments
				t.Errorf("only %d of %d bytes are used", len(want), size)
			}
		}
	}
	zeros := strings.Repeat("\x00", 1024)
	wantTrained(t, times(64, zeros), 512, zeros[:8])
	// Only the last sample has a segment that another one has.
	different[63] = different[63][:1016] + different[0][1016:]
	wantTrained(t, different, 512, different[0][1016:])
}

// fault is the case of a call that fails.
type fault struct {
	what           string
	dict           int // bytes of the dictionary
	samples        [][]byte
	size           int
	code, position int
}

func sizes(n ...int) [][]byte {
	var samples [][]byte
	for _, size := range n {
		samples = append(samples, make([]byte, size))
	}
	return samples
}

// tooManyLong returns 65 samples that are all too long.
func tooManyLong() [][]byte {
	return slices.Repeat(sizes(1025), 65)
}

func TestTrainFaults(t *testing.T) {
	for _, c := range []fault{
		{"too many samples", 0, make([][]byte, 65), 512, api.ErrTooMany, -1},
		{"very many samples", 0, make([][]byte, 1000), 0, api.ErrTooMany, -1},
		{"everything wrong", 0, tooManyLong(), -1, api.ErrTooMany, -1},
		{"too many samples and a size", 0, make([][]byte, 65), 513, api.ErrTooMany, -1},
		{"a long sample", 0, sizes(1025), 512, api.ErrTooLong, 0},
		{"a very long sample", 0, sizes(1024, 70000), 0, api.ErrTooLong, 1},
		{"two long samples", 0, sizes(0, 1024, 1025, 8, 2000), 512, api.ErrTooLong, 2},
		{"a long sample and a size", 0, sizes(0, 1025), 513, api.ErrTooLong, 1},
		{"the last of 64 samples", 0, append(make([][]byte, 63), make([]byte, 1025)), 8, api.ErrTooLong, 63},
		{"a size below 0", 0, nil, -1, api.ErrRange, -2},
		{"the least size", 0, nil, math.MinInt, api.ErrRange, -2},
		{"a large size", 0, nil, 513, api.ErrRange, -2},
		{"the largest size", 0, sizes(8, 8), math.MaxInt, api.ErrRange, -2},
		{"a large size for 64 samples", 0, slices.Repeat(sizes(1024), 64), 513, api.ErrRange, -2},
	} {
		got, f := dictionary.Train(c.samples, c.size)
		wantFault(t, c.what, f, c.code, c.position)
		if len(got) != 0 {
			t.Errorf("%s: %d bytes beside a fault", c.what, len(got))
		}
	}
}

// Worked out by hand.
func TestNext(t *testing.T) {
	two := times(2, "12345678")
	for _, c := range []struct {
		dict    string
		samples []string
		size    int
		want    string
	}{
		{"abcd", nil, 3, "bcd"},
		{"abcd", nil, 4, "abcd"},
		{"abcd", nil, 5, "abcd"},
		{"abcd", nil, 512, "abcd"},
		{"abcd", nil, 0, ""},
		{"", nil, 0, ""},
		{"", nil, 512, ""},
		{"", two, 512, "12345678"},
		{"", two, 8, "12345678"},
		{"", two, 7, ""},
		{"abcd", two, 512, "abcd12345678"},
		{"abcd", two, 12, "abcd12345678"},
		{"abcd", two, 11, "bcd12345678"},
		{"abcd", two, 9, "d12345678"},
		{"abcd", two, 8, "12345678"},
		{"abcd", two, 7, "abcd"},
		{"abcdefghij", two, 7, "defghij"},
		{"abcdefghij", two, 9, "j12345678"},
		{"abcdefghij", two, 0, ""},
		{"abcd", times(2, "123456789abc"), 10, "123456789a"},
		// The old dictionary has no part in the training.
		{"12345678", two, 512, "1234567812345678"},
		{"12345678", two[:1], 512, "12345678"},
		{"..1234", times(2, "1234abcd"), 512, "..12341234abcd"},
		{"..1234", times(2, "abcd..12"), 512, "..1234abcd..12"},
		{"\xff\x00", times(2, "\x80\x81\x82\x83\x84\x85\x86\x87"), 9, "\x00\x80\x81\x82\x83\x84\x85\x86\x87"},
	} {
		wantNext(t, c.dict, c.samples, c.size, c.want)
	}
}

func TestNextAtTheLimits(t *testing.T) {
	for _, samples := range [][]string{nil, times(64, strings.Repeat("12345678", 128)), relatives(3, 12, 1024)} {
		for _, size := range []int{0, 1, 8, 100, 511, 512} {
			trained := slowTrain(samples, size, map[string]int{})
			for _, n := range []int{0, 1, 100, 511, 512} {
				dict := noise(n, n, 256)
				all := dict + trained
				want := all[max(0, len(all)-size):]
				wantNext(t, dict, samples, size, want)
				wantNext(t, dict, backward(samples), size, want)
			}
		}
	}
}

// The result serves as the dictionary of the next call, again and again.
func TestNextContinues(t *testing.T) {
	dict, all := "", ""
	for seed := range 12 {
		samples := relatives(seed, 4, 120)
		all += slowTrain(samples, 300, map[string]int{})
		wantNext(t, dict, samples, 300, all[max(0, len(all)-300):])
		dict = all[max(0, len(all)-300):]
	}
	if len(all) < 600 {
		t.Errorf("only %d bytes in all", len(all))
	}
}

func TestNextFaults(t *testing.T) {
	for _, c := range []fault{
		{"a long dictionary", 513, nil, 512, api.ErrTooLong, -1},
		{"a very long dictionary", 70000, sizes(8, 8), 0, api.ErrTooLong, -1},
		{"everything wrong", 513, tooManyLong(), 513, api.ErrTooLong, -1},
		{"a long dictionary and a long sample", 513, sizes(1025), 512, api.ErrTooLong, -1},
		{"a long dictionary and a size", 513, nil, -1, api.ErrTooLong, -1},
		{"too many samples", 512, make([][]byte, 65), 512, api.ErrTooMany, -2},
		{"everything but the dictionary wrong", 512, tooManyLong(), -1, api.ErrTooMany, -2},
		{"too many samples and a size", 0, make([][]byte, 65), 513, api.ErrTooMany, -2},
		{"a long sample", 512, sizes(1025), 512, api.ErrTooLong, 0},
		{"two long samples", 0, sizes(0, 1024, 8, 1025, 2000), 512, api.ErrTooLong, 3},
		{"a long sample and a size", 0, sizes(0, 1025), 513, api.ErrTooLong, 1},
		{"the last of 64 samples", 3, append(make([][]byte, 63), make([]byte, 1025)), 8, api.ErrTooLong, 63},
		{"a size below 0", 0, nil, -1, api.ErrRange, -3},
		{"the least size", 512, nil, math.MinInt, api.ErrRange, -3},
		{"a large size", 512, nil, 513, api.ErrRange, -3},
		{"the largest size", 2, sizes(8, 8), math.MaxInt, api.ErrRange, -3},
		{"a large size for 64 samples", 0, slices.Repeat(sizes(1024), 64), 513, api.ErrRange, -3},
	} {
		got, f := dictionary.Next(make([]byte, c.dict), c.samples, c.size)
		wantFault(t, c.what, f, c.code, c.position)
		if len(got) != 0 {
			t.Errorf("%s: %d bytes beside a fault", c.what, len(got))
		}
	}
}

// Worked out by hand.
func TestWorth(t *testing.T) {
	for _, c := range []struct {
		samples []string
		dict    string
		want    int
	}{
		{[]string{"abc"}, "abc", 27 - 5},
		{times(2, "abc"), "abc", 2 * (27 - 5)},
		{times(64, "abc"), "abc", 64 * (27 - 5)},
		{[]string{"abc", "xyz", "", "ab", "abc"}, "abc", 2 * (27 - 5)},
		{[]string{"abc"}, "abcxyz", 27 - 7},
		{[]string{"abcabc"}, "abc", 32 - 9},
		{[]string{"aaaa"}, "a", 12 - 5},
		{[]string{"aaaa", "abcabc"}, "abca", (12 - 5) + (32 - 12)},
		{[]string{"\xff\x00\x80"}, "\xff\x00\x80", 27 - 5},
		// Without samples, or with an empty dictionary.
		{nil, "", 0},
		{nil, "abc", 0},
		{[]string{""}, "abc", 0},
		{times(64, ""), "abc", 0},
		{[]string{"abc"}, "", 0},
		{[]string{"aaaa", "abcabcabc", "abc"}, "", 0},
		// The dictionary saves nothing.
		{[]string{"abc"}, "xyz", 0},
		{[]string{"abc"}, "ab", 0},
		{[]string{"ab"}, "ab", 0},
		{[]string{"ab", "bc"}, "abc", 0},
		{[]string{"aaaa"}, "xyz", 0},
		// A sample is no part of the dictionary of another one.
		{[]string{"abcdefgh", "abcdefgh"}, "xyz", 0},
	} {
		wantWorth(t, c.samples, c.dict, c.want)
	}
}

func TestWorthAsDefined(t *testing.T) {
	nothing, more := 0, 0
	for seed := range 60 {
		samples := append(relatives(seed, seed%7, 10+seed), noise(seed, 60, 2+seed%5))
		for _, dict := range []string{
			"", noise(seed+1, 40, 2+seed%5), slowTrain(samples, 100, map[string]int{}), relatives(seed, 9, 90)[8], noise(seed+2, 20, 256),
		} {
			want := slowWorth(samples, dict)
			wantWorth(t, samples, dict, want)
			wantWorth(t, backward(samples), dict, want)
			if want == 0 {
				nothing++
			} else {
				more++
			}
		}
	}
	if nothing < 50 || more < 50 {
		t.Errorf("%d dictionaries save nothing, %d save something", nothing, more)
	}
}

func TestWorthAtTheLimits(t *testing.T) {
	sample := noise(1, 1024, 256)
	dict := sample[:256] + noise(2, 256, 256)
	once := slowWorth([]string{sample}, dict)
	if once == 0 {
		t.Error("nothing is saved")
	}
	wantWorth(t, []string{sample}, dict, once)
	wantWorth(t, times(64, sample), dict, 64*once)
	wantWorth(t, append(times(63, ""), sample), dict, once)
	// A literal and a match become a match: distances and lengths are as great as can be.
	zeros := strings.Repeat("\x00", 1024)
	wantWorth(t, times(64, zeros), zeros[:512], 64*((9+1+1+19)-(1+1+19)))
	wantWorth(t, []string{zeros[:3] + sample[:600]}, zeros[:3]+noise(3, 509, 256), 27-(1+19+1))
}

func TestWorthFaults(t *testing.T) {
	for _, c := range []fault{
		{"too many samples", 512, make([][]byte, 65), 0, api.ErrTooMany, -1},
		{"everything wrong", 513, tooManyLong(), 0, api.ErrTooMany, -1},
		{"too many samples and a long dictionary", 513, make([][]byte, 65), 0, api.ErrTooMany, -1},
		{"a long sample", 512, sizes(1025), 0, api.ErrTooLong, 0},
		{"two long samples", 0, sizes(0, 1024, 1025, 2000), 0, api.ErrTooLong, 2},
		{"a long sample and a long dictionary", 513, sizes(0, 1025), 0, api.ErrTooLong, 1},
		{"the last of 64 samples", 513, append(make([][]byte, 63), make([]byte, 1025)), 0, api.ErrTooLong, 63},
		{"a long dictionary", 513, sizes(3, 1024), 0, api.ErrTooLong, -2},
		{"a long dictionary without samples", 513, nil, 0, api.ErrTooLong, -2},
		{"a very long dictionary", 70000, sizes(0), 0, api.ErrTooLong, -2},
		{"a long dictionary for 64 samples", 513, slices.Repeat(sizes(1024), 64), 0, api.ErrTooLong, -2},
	} {
		got, f := dictionary.Worth(c.samples, make([]byte, c.dict))
		wantFault(t, c.what, f, c.code, c.position)
		if got != 0 {
			t.Errorf("%s: %d beside a fault", c.what, got)
		}
	}
}

// A trained dictionary is worth something for its samples.
func TestTrainedDictionariesSave(t *testing.T) {
	for seed := range 20 {
		samples := relatives(seed, 6, 80)
		dict := slowTrain(samples, 512, map[string]int{})
		wantTrained(t, samples, 512, dict)
		if got, f := dictionary.Worth(bytesOf(samples), []byte(dict)); f != (api.Fault{}) || got < 300 {
			t.Errorf("only %d bits are saved, with %v", got, f)
		}
	}
}

// spare returns the beginning of longer memory, and all of it.
func spare(text string) (part, whole []byte) {
	whole = []byte(text + strings.Repeat("#", 3000))
	return whole[:len(text)], whole
}

func wantSpared(t *testing.T, what string, whole []byte, text string) {
	t.Helper()
	if string(whole[:len(text)]) != text || strings.Trim(string(whole[len(text):]), "#") != "" {
		t.Errorf("%s: an argument has been changed", what)
	}
}

func TestArgumentsRemain(t *testing.T) {
	first, allFirst := spare("abcdefghijkl")
	second, allSecond := spare(".abcdefghijkl")
	dict, allDict := spare("wxyz")
	list := [][]byte{first, second, {'#'}, {'#'}}
	samples := list[:2]
	trained, _ := dictionary.Train(samples, 512)
	next, _ := dictionary.Next(dict, samples, 512)
	old, _ := dictionary.Next(dict, nil, 512)
	if _, f := dictionary.Worth(samples, dict); f != (api.Fault{}) {
		t.Errorf("Worth: %v", f)
	}
	wantSpared(t, "the first sample", allFirst, "abcdefghijkl")
	wantSpared(t, "the second sample", allSecond, ".abcdefghijkl")
	wantSpared(t, "the dictionary", allDict, "wxyz")
	if !bytes.Equal(list[2], []byte("#")) || !bytes.Equal(list[3], []byte("#")) || &list[0][0] != &first[0] || &list[1][0] != &second[0] {
		t.Error("the list of samples has been changed")
	}
	clear(allFirst)
	clear(allSecond)
	clear(allDict)
	if string(trained) != "abcdefghijkl" || string(next) != "wxyzabcdefghijkl" || string(old) != "wxyz" {
		t.Errorf("results share memory with arguments: %q, %q and %q", trained, next, old)
	}
}

// overwrite changes all memory behind a byte string.
func overwrite(b []byte) {
	b = b[:cap(b)]
	for i := range b {
		b[i] = '?'
	}
}

func TestResultsShareNothing(t *testing.T) {
	samples := bytesOf(times(2, "abcdefghijkl"))
	first, _ := dictionary.Train(samples, 512)
	second, _ := dictionary.Train(samples, 512)
	third, _ := dictionary.Next(nil, samples, 512)
	fourth, _ := dictionary.Next(nil, samples, 512)
	overwrite(first)
	overwrite(third)
	if string(second) != "abcdefghijkl" || string(fourth) != "abcdefghijkl" {
		t.Errorf("results share memory: %q and %q", second, fourth)
	}
}

func TestConcurrentCalls(t *testing.T) {
	samples := relatives(8, 9, 90)
	want := slowTrain(samples, 200, map[string]int{})
	worth := slowWorth(samples, want)
	var group sync.WaitGroup
	for range 8 {
		group.Go(func() {
			wantTrained(t, samples, 200, want)
			wantNext(t, "abcd", samples, 200, ("abcd" + want)[max(0, len(want)-196):])
			wantWorth(t, samples, want, worth)
		})
	}
	group.Wait()
}
