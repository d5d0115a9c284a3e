package lz_test

import (
	"fmt"
	"math"
	"slices"
	"strings"
	"sync"
	"testing"

	"scriptorium/api"
	"scriptorium/bits"
	"scriptorium/lz"
)

func literal(b byte) api.Token {
	return api.Token{Literal: b}
}

func match(distance, length int) api.Token {
	return api.Token{Distance: distance, Length: length}
}

func literals(text string) []api.Token {
	var l []api.Token
	for i := range len(text) {
		l = append(l, literal(text[i]))
	}
	return l
}

// tokens returns literals for text, followed by matches.
func tokens(text string, matches ...api.Token) []api.Token {
	return append(literals(text), matches...)
}

var invalid = []api.Token{
	{Distance: 1, Length: 2},
	{Distance: 1, Length: 1},
	{Distance: 1, Length: 0},
	{Distance: 1, Length: -3},
	{Distance: 1, Length: 1025},
	{Distance: 1, Length: math.MaxInt},
	{Distance: 1, Length: math.MinInt},
	{Distance: 0, Length: 3},
	{Distance: 0, Length: 1},
	{Distance: 0, Length: -1},
	{Distance: -1, Length: 3},
	{Distance: -1, Length: 0},
	{Distance: maxDistance + 1, Length: 3},
	{Distance: math.MaxInt, Length: 3},
	{Distance: math.MinInt, Length: 3},
	{Distance: 1, Length: 3, Literal: 1},
	{Distance: maxDistance, Length: 1024, Literal: 255},
	{Distance: 1, Length: 0, Literal: 97},
	{Distance: 0, Length: 3, Literal: 97},
	{Distance: -1, Length: -1, Literal: 97},
}

func made(t *testing.T, text string) api.Bits {
	t.Helper()
	b, f := bits.Make(text)
	if f != (api.Fault{}) {
		t.Fatalf("bits.Make: %v", f)
	}
	return b
}

func wantFault(t *testing.T, what string, got api.Fault, code, index int) {
	t.Helper()
	if got != (api.Fault{Code: code, Index: index}) {
		t.Errorf("%s: got %v, want {%d %d}", what, got, code, index)
	}
}

func wantParsed(t *testing.T, data, dict string, want []api.Token) {
	t.Helper()
	got, f := lz.Parse([]byte(data), []byte(dict))
	if f != (api.Fault{}) || !slices.Equal(got, want) {
		t.Errorf("%q after %q: got %v and %v, want %v", data, dict, got, f, want)
	}
}

func wantNotParsed(t *testing.T, what string, data, dict []byte, index int) {
	t.Helper()
	l, f := lz.Parse(data, dict)
	wantFault(t, what, f, api.ErrTooLong, index)
	if len(l) != 0 {
		t.Errorf("%s: %d tokens beside a fault", what, len(l))
	}
}

func wantExpanded(t *testing.T, l []api.Token, dict, want string) {
	t.Helper()
	got, f := lz.Expand(l, []byte(dict))
	if f != (api.Fault{}) || string(got) != want {
		t.Errorf("%v after %q: got %q and %v, want %q", l, dict, got, f, want)
	}
}

func wantNotExpanded(t *testing.T, what string, l []api.Token, dict []byte, code, index int) {
	t.Helper()
	b, f := lz.Expand(l, dict)
	wantFault(t, what, f, code, index)
	if len(b) != 0 {
		t.Errorf("%s: %d bytes beside a fault", what, len(b))
	}
}

func wantEncoded(t *testing.T, l []api.Token, want string) api.Bits {
	t.Helper()
	c, f := lz.Cost(l)
	if f != (api.Fault{}) || c != len(want) {
		t.Errorf("the cost of %v: got %d and %v, want %d", l, c, f, len(want))
	}
	b, f := lz.Encode(l)
	got, g := bits.Text(b)
	if f != (api.Fault{}) || g != (api.Fault{}) || got != want {
		t.Errorf("the code of %v: got %s, %v and %v, want %s", l, got, f, g, want)
	}
	return b
}

func wantNotEncoded(t *testing.T, what string, l []api.Token, code, index int) {
	t.Helper()
	b, f := lz.Encode(l)
	wantFault(t, "Encode, "+what, f, code, index)
	c, g := lz.Cost(l)
	wantFault(t, "Cost, "+what, g, code, index)
	if b.Count != 0 || len(b.Data) != 0 || c != 0 {
		t.Errorf("%s: results beside a fault", what)
	}
}

func wantDecoded(t *testing.T, code string, count int, want []api.Token, end int) {
	t.Helper()
	got, at, f := lz.Decode(made(t, code), count)
	if f != (api.Fault{}) || !slices.Equal(got, want) || at != end {
		t.Errorf("%s for %d bytes: got %v, %d and %v, want %v and %d", code, count, got, at, f, want, end)
	}
}

func wantNotDecoded(t *testing.T, what string, b api.Bits, count, code, index int) {
	t.Helper()
	l, at, f := lz.Decode(b, count)
	wantFault(t, fmt.Sprintf("%s for %d bytes", what, count), f, code, index)
	if len(l) != 0 || at != 0 {
		t.Errorf("%s for %d bytes: results beside a fault", what, count)
	}
}

// wantDecodedAsExpected compares Decode with the independent one, whether the code is right or not.
func wantDecodedAsExpected(t *testing.T, code string, count int) {
	t.Helper()
	want, end, f := slowDecode(code, count)
	if f == (api.Fault{}) {
		wantDecoded(t, code, count, want, end)
	} else {
		wantNotDecoded(t, code, made(t, code), count, f.Code, f.Index)
	}
}

// wantRoundTrip parses data in the way that is to be chosen, and leads the tokens back to the data.
func wantRoundTrip(t *testing.T, data, dict string) {
	t.Helper()
	want := slowParse(data, dict)
	wantParsed(t, data, dict, want)
	wantExpanded(t, want, dict, data)
	code := slowCode(want)
	wantEncoded(t, want, code)
	wantDecoded(t, code, len(data), want, len(code))
	wantDecoded(t, code+"10110", len(data), want, len(code))
}

func TestValidTokens(t *testing.T) {
	for _, distance := range []int{1, 2, 3, 511, 512, 1023, 1024, 1025, maxDistance - 1, maxDistance} {
		for _, length := range []int{3, 4, 5, 512, 1023, 1024} {
			if !lz.Valid(match(distance, length)) {
				t.Errorf("the match %d %d is not valid", distance, length)
			}
		}
	}
	for b := range 256 {
		if !lz.Valid(literal(byte(b))) {
			t.Errorf("the literal %d is not valid", b)
		}
	}
}

func TestInvalidTokens(t *testing.T) {
	for _, c := range invalid {
		if lz.Valid(c) {
			t.Errorf("%v is valid", c)
		}
	}
}

func TestValidForAllFields(t *testing.T) {
	for distance := -3; distance < 1600; distance += 1 + max(0, distance%7) {
		for _, length := range []int{-4, -3, -1, 0, 1, 2, 3, 4, 700, 1023, 1024, 1025, 1026, 2048} {
			for _, b := range []byte{0, 1, 128, 255} {
				isLiteral := distance == 0 && length == 0
				isMatch := distance > 0 && distance < 1537 && length > 2 && length < 1025 && b == 0
				c := api.Token{Distance: distance, Length: length, Literal: b}
				if got := lz.Valid(c); got != (isLiteral || isMatch) {
					t.Errorf("%v: got %v", c, got)
				}
			}
		}
	}
}

// Worked out by hand.
func TestParse(t *testing.T) {
	for _, c := range []struct {
		data, dict string
		want       []api.Token
	}{
		{"", "", nil},
		{"", "abc", nil},
		{"a", "", tokens("a")},
		{"a", "aaaa", tokens("a")},
		{"aaa", "", tokens("aaa")},
		{"aaaa", "", tokens("a", match(1, 3))},
		{"aaaaa", "", tokens("a", match(1, 4))},
		{"aaaaaa", "", tokens("a", match(1, 5))},
		// Two matches of 3 bytes cost 6 bits, one of 6 bytes costs 7.
		{"aaaaaaa", "", tokens("a", match(1, 3), match(1, 3))},
		{"aaaaaaaa", "", tokens("a", match(1, 7))},
		{"abcabc", "", tokens("abc", match(3, 3))},
		{"abc", "abc", tokens("", match(3, 3))},
		{"ab", "abab", tokens("ab")},
		{"abcd", "abc", tokens("", match(3, 3), literal('d'))},
		{"dabc", "abc", tokens("d", match(4, 3))},
		// From the dictionary into the data.
		{"ababab", "ab", tokens("", match(2, 6))},
		{"aaa", "a", tokens("", match(1, 3))},
		{"abca", "abc", tokens("", match(3, 4))},
		// The distances 4 and 7 cost the same.
		{"abc", "abcabcd", tokens("", match(4, 3))},
		// A match and a literal cost the same in either order: the match comes first.
		{"abcd", "abcXbcd", tokens("", match(7, 3), literal('d'))},
		// Matches of 4 and 3 bytes cost as much as matches of 3 and 4: 11 + 7 bits and 9 + 9.
		{"abcdefg", "abcdXdefg", tokens("", match(9, 4), match(7, 3))},
		// The same behind a literal: 11 + 9 and 9 + 11 bits.
		{"qabcdefg", "abcdXdefg", tokens("q", match(10, 4), match(8, 3))},
		// A greater length at a greater distance is worth it in the first two cases: 11 bits instead of 5 + 9
		// and of 3 + 9. In the third one it would cost 13 bits instead of 3 + 9.
		{"abcx", "abcx.abc", tokens("", match(8, 4))},
		{"aaab", "aaabbaaaa", tokens("", match(9, 4))},
		{"aaab", "aaab............aaa", tokens("", match(1, 3), literal('b'))},
	} {
		wantParsed(t, c.data, c.dict, c.want)
	}
}

// words returns all texts of at most length letters.
func words(letters string, length int) []string {
	all := []string{""}
	for from := 0; len(all[from]) < length; from++ {
		for _, c := range letters {
			all = append(all, all[from]+string(c))
		}
	}
	return all
}

// ties counts in how many ways lists that cost as much as the chosen one differ from it at first.
type ties struct {
	size, distance, later int
}

func (n *ties) count(best []api.Token, rivals [][]api.Token) {
	for _, l := range rivals {
		if slices.Equal(l, best) {
			continue
		}
		_, at := earlier(best, l)
		if bytesOf(l[at]) != bytesOf(best[at]) {
			n.size++
		} else {
			n.distance++
		}
		if at > 0 {
			n.later++
		}
	}
}

func TestParseAgainstAllLists(t *testing.T) {
	var n ties
	compare := func(data, dict string) {
		best, rivals := bestOfAll(data, dict)
		n.count(best, rivals)
		wantParsed(t, data, dict, best)
	}
	for _, dict := range []string{"", "a", "b", "ab", "aab", "abab", "abbaab", "aabbbabaa"} {
		for _, data := range words("ab", 9) {
			compare(data, dict)
		}
	}
	for _, dict := range []string{"", "abc", "cab", "abcabcb", "bcaabcbac", "abcbcaccabbacab"} {
		for _, data := range words("abc", 7) {
			compare(data, dict)
		}
	}
	for _, dict := range words("ab", 8) {
		for _, data := range []string{"aaab", "abab", "baaba", "abaabba"} {
			compare(data, dict)
		}
	}
	if n.size < 100 || n.distance < 100 || n.later < 100 {
		t.Errorf("too few lists cost the same: %+v", n)
	}
}

func TestParseRepeatedLetters(t *testing.T) {
	for n := range 16 {
		data := strings.Repeat("a", n)
		best, _ := bestOfAll(data, "")
		wantParsed(t, data, "", best)
		wantRoundTrip(t, data, "a")
		wantRoundTrip(t, strings.Repeat("ab", n), "b")
	}
}

func TestRoundTrips(t *testing.T) {
	for i, dict := range []string{"", "a", "\x00\x00\x00", noise(100, 2), noise(150, 4), echoes(200, 5), "the quick brown fox "} {
		for letters := 1; letters <= 256; letters = letters*3/2 + i%2 + 1 {
			wantRoundTrip(t, noise(120+7*i, letters), dict)
			wantRoundTrip(t, echoes(150+11*i, letters), dict)
		}
		wantRoundTrip(t, "the brown fox, the quick fox, the fox that is quick and brown", dict)
		wantRoundTrip(t, dict, dict)
		wantRoundTrip(t, dict+dict, dict)
	}
}

func TestRoundTripsAtTheLimits(t *testing.T) {
	wantRoundTrip(t, noise(1024, 2), noise(512, 2))
	wantRoundTrip(t, noise(1024, 3), noise(512, 3))
	wantRoundTrip(t, noise(1024, 256), noise(512, 256))
	wantRoundTrip(t, echoes(1024, 200), echoes(512, 100))
	wantRoundTrip(t, echoes(1024, 4), "")
	wantRoundTrip(t, echoes(1023, 7), echoes(511, 7))
}

func TestParseExtremes(t *testing.T) {
	zeros := strings.Repeat("\x00", 1024)
	wantParsed(t, zeros, zeros[:512], tokens("", match(1, 1024)))
	wantParsed(t, zeros, "", tokens("\x00", match(1, 1023)))
	wantParsed(t, zeros, "abc\x00", tokens("", match(1, 1024)))

	// No part of 3 bytes occurs twice.
	single := noise(1536, 256)
	wantParsed(t, single[:1024], "", literals(single[:1024]))
	wantParsed(t, single[512:], single[:512], literals(single[512:]))
	// The last bytes repeat the first ones of the dictionary, which is the greatest Distance.
	wantParsed(t, single[512:1533]+single[:3], single[:512], tokens(single[512:1533], match(1533, 3)))
	wantParsed(t, single[512:1532]+single[1:4]+"a", single[:512], tokens(single[512:1532], match(1531, 3), literal('a')))
	wantParsed(t, single[:512]+single[:512], "", tokens(single[:512], match(512, 512)))
	wantParsed(t, single[:512]+single[:512], single[:512], tokens("", match(512, 1024)))
}

func TestParseFaults(t *testing.T) {
	wantNotParsed(t, "long data", make([]byte, 1025), nil, -1)
	wantNotParsed(t, "very long data", make([]byte, 5000), make([]byte, 512), -1)
	wantNotParsed(t, "a long dictionary", nil, make([]byte, 513), -2)
	wantNotParsed(t, "a long dictionary and data", make([]byte, 1024), make([]byte, 5000), -2)
	wantNotParsed(t, "both long", make([]byte, 1025), make([]byte, 513), -1)
}

// Worked out by hand.
func TestExpand(t *testing.T) {
	for _, c := range []struct {
		l          []api.Token
		dict, want string
	}{
		{nil, "", ""},
		{nil, "abc", ""},
		{tokens("a"), "", "a"},
		{tokens("\x00\xff"), "abc", "\x00\xff"},
		{tokens("", match(3, 4)), "abc", "abca"},
		{tokens("", match(3, 3)), "abc", "abc"},
		{tokens("", match(1, 3)), "abc", "ccc"},
		{tokens("", match(2, 5)), "abc", "bcbcb"},
		{tokens("a", match(1, 3)), "", "aaaa"},
		{tokens("ab", match(2, 7)), "", "abababababa"[:9]},
		{tokens("xy", match(4, 5)), "ab", "xyabxya"},
		{tokens("xy", match(3, 3), match(5, 4)), "ab", "xybxyxybx"},
		{tokens("a", match(1, 1023)), "", strings.Repeat("a", 1024)},
		{tokens("", match(1, 1024)), "a", strings.Repeat("a", 1024)},
	} {
		wantExpanded(t, c.l, c.dict, c.want)
	}
}

func TestExpandAtTheLimits(t *testing.T) {
	dict := noise(512, 256)
	wantExpanded(t, literals(noise(1024, 256)), dict, noise(1024, 256))
	wantExpanded(t, tokens("", match(512, 1024)), dict, dict+dict)
	wantExpanded(t, tokens("", match(512, 512), match(1024, 512)), dict, dict+dict)
	wantExpanded(t, tokens("ab", match(514, 1022)), dict, "ab"+dict+"ab"+dict[:508])
	// The greatest Distance that there can be is less than MaxDistance by the bytes of a match.
	wantExpanded(t, tokens("z", match(1, 1020), match(1533, 3)), dict, strings.Repeat("z", 1021)+dict[:3])
}

func TestExpandAsExpected(t *testing.T) {
	for n := range 300 {
		dict := noise(n%40, 256)
		l := tokens(noise(1, 256))
		window := len(dict) + 1
		for _, c := range []byte(noise(n%90, 256)) {
			c := int(c) + n
			if c%3 == 0 {
				l = append(l, literal(byte(c)))
			} else {
				l = append(l, match(1+c*7%window, 3+c%8))
			}
			window += bytesOf(l[len(l)-1])
		}
		wantExpanded(t, l, dict, slowExpand(l, dict))
	}
}

func TestExpandFaults(t *testing.T) {
	full := tokens("a", match(1, 1023))
	dict := make([]byte, 512)
	for _, c := range []struct {
		what        string
		l           []api.Token
		dict        []byte
		code, index int
	}{
		{"too many tokens", literals(noise(1025, 256)), nil, api.ErrTooMany, -1},
		{"too many tokens, one not valid", append(literals(noise(1024, 256)), match(0, 3)), make([]byte, 513), api.ErrTooMany, -1},
		{"a token that is not valid", tokens("ab", match(1, 2)), nil, api.ErrForm, 2},
		{"two tokens that are not valid", tokens("a", match(1, 2), match(0, 3)), nil, api.ErrForm, 1},
		{"a token that is not valid, behind a wrong distance", tokens("", match(1, 3), match(1, 2)), nil, api.ErrForm, 1},
		{"a token that is not valid, behind too many bytes", append(full[:2:2], literal('a'), match(1, 2)), nil, api.ErrForm, 3},
		{"a token that is not valid, and a long dictionary", tokens("", match(1, 1025)), make([]byte, 513), api.ErrForm, 0},
		{"a long dictionary", nil, make([]byte, 513), api.ErrTooLong, -2},
		{"a long dictionary and a wrong distance", tokens("", match(1024, 3)), make([]byte, 513), api.ErrTooLong, -2},
		{"no window", tokens("", match(1, 3)), nil, api.ErrRange, 0},
		{"a distance ahead of the dictionary", tokens("", match(4, 3)), []byte("abc"), api.ErrRange, 0},
		{"a distance ahead of the data", tokens("ab", match(3, 3)), nil, api.ErrRange, 2},
		{"a distance ahead of both", tokens("ab", match(6, 3)), []byte("abc"), api.ErrRange, 2},
		{"a distance ahead of a match", tokens("a", match(1, 3), match(5, 3)), nil, api.ErrRange, 2},
		{"two wrong distances", tokens("a", match(2, 3), match(900, 3)), nil, api.ErrRange, 1},
		{"the greatest distance", tokens("a", match(1, 1022), match(1536, 3)), dict, api.ErrRange, 2},
		{"a literal too many", append(full[:2:2], literal('a')), nil, api.ErrTooLarge, 2},
		{"a match too many", append(full[:2:2], match(1024, 3)), nil, api.ErrTooLarge, 2},
		{"a match that is too long", tokens("a", match(1, 1024)), nil, api.ErrTooLarge, 1},
		{"a match that is too long by one", tokens("abcd", match(4, 1020), literal(0)), nil, api.ErrTooLarge, 5},
		{"a match at the end that is too long by one", tokens("a", match(1, 1021), match(1, 3)), nil, api.ErrTooLarge, 2},
		{"the greatest distance, and too many bytes", append(full[:2:2], match(1536, 3)), dict, api.ErrTooLarge, 2},
		{"a wrong distance, and too many bytes", append(full[:2:2], match(1025, 3)), nil, api.ErrRange, 2},
		{"too many bytes, then a wrong distance", append(full[:2:2], literal('a'), match(1536, 3)), nil, api.ErrTooLarge, 2},
		{"a wrong distance, then too many bytes", tokens("a", match(2, 3), match(1, 1024)), nil, api.ErrRange, 1},
		{"a wrong distance of a long match", tokens("a", match(2, 1024)), nil, api.ErrRange, 1},
	} {
		wantNotExpanded(t, c.what, c.l, c.dict, c.code, c.index)
	}
	for _, c := range invalid {
		wantNotExpanded(t, fmt.Sprint(c), tokens("abc", c), dict, api.ErrForm, 3)
	}
}

// Worked out by hand.
func TestCostAndEncode(t *testing.T) {
	for _, c := range []struct {
		l    []api.Token
		want string
	}{
		{nil, ""},
		{tokens("a"), "001100001"},
		{tokens("\x00\xff"), "000000000" + "011111111"},
		{tokens("", match(1, 3)), "1" + "1" + "1"},
		{tokens("", match(2, 5)), "1" + "010" + "011"},
		{tokens("", match(3, 4)), "1" + "011" + "010"},
		{tokens("", match(4, 6)), "1" + "00100" + "00100"},
		{tokens("a", match(1, 3)), "001100001" + "111"},
		{tokens("", match(1, 3), literal('a'), match(2, 3)), "111" + "001100001" + "10101"},
		// Whether a window is large enough does not matter for the code.
		{tokens("", match(maxDistance, 1024)), "1" + "000000000011000000000" + "0000000001111111110"},
	} {
		b := wantEncoded(t, c.l, c.want)
		count := 0
		for _, token := range c.l {
			count += bytesOf(token)
		}
		if l, at, f := lz.Decode(b, count); f != (api.Fault{}) || at != len(c.want) || !slices.Equal(l, c.l) {
			t.Errorf("%v: decoded as %v, %d and %v", c.l, l, at, f)
		}
	}
}

func TestCostAndEncodeOfAllTokens(t *testing.T) {
	for b := range 256 {
		wantEncoded(t, tokens(string([]byte{byte(b)})), "0"+eight(byte(b)))
	}
	for n := range maxDistance {
		one := tokens("", match(n+1, 3+n%1022))
		wantEncoded(t, one, slowCode(one))
		wantDecoded(t, slowCode(one), bytesOf(one[0]), one, len(slowCode(one)))
	}
}

func TestCostAndEncodeOfManyTokens(t *testing.T) {
	many := slices.Repeat(tokens("", match(maxDistance, 1024)), 1024)
	wantEncoded(t, many, slowCode(many))
	if c, _ := lz.Cost(many); c != 41*1024 {
		t.Errorf("the greatest cost is %d", c)
	}
	l := literals(noise(1024, 256))
	wantEncoded(t, l, slowCode(l))
	wantDecoded(t, slowCode(l), 1024, l, 9*1024)
}

func TestCostAndEncodeFaults(t *testing.T) {
	many := literals(noise(1025, 256))
	wantNotEncoded(t, "too many tokens", many, api.ErrTooMany, -1)
	many[0] = match(0, 3)
	wantNotEncoded(t, "too many tokens, one not valid", many, api.ErrTooMany, -1)
	wantNotEncoded(t, "exactly MaxBlock tokens, one not valid", many[:1024], api.ErrForm, 0)
	for _, c := range invalid {
		wantNotEncoded(t, fmt.Sprint(c), tokens("", c), api.ErrForm, 0)
		wantNotEncoded(t, fmt.Sprint(c), tokens("ab", match(9, 9), c, match(0, 3)), api.ErrForm, 3)
	}
}

// Worked out by hand.
func TestDecode(t *testing.T) {
	for _, c := range []struct {
		code  string
		count int
		want  []api.Token
		end   int
	}{
		{"", 0, nil, 0},
		{"111", 0, nil, 0},
		{"0", 0, nil, 0},
		{"001100001", 1, tokens("a"), 9},
		{"001100001" + "111", 1, tokens("a"), 9},
		{"001100001" + "111", 4, tokens("a", match(1, 3)), 12},
		{"001100001" + "111" + "0", 4, tokens("a", match(1, 3)), 12},
		{"001100001" + "111" + "1", 4, tokens("a", match(1, 3)), 12},
		{"001100001" + "001100010" + "111" + "000000000", 2, tokens("ab"), 18},
		{"001100001" + "001100010" + "111" + "000000000", 6, tokens("ab", match(1, 3), literal(0)), 30},
		// There need not be a window for a match.
		{"111", 3, tokens("", match(1, 3)), 3},
		{"1" + "000000000011000000000" + "0000000001111111110", 1024, tokens("", match(maxDistance, 1024)), 41},
	} {
		wantDecoded(t, c.code, c.count, c.want, c.end)
	}
}

func TestDecodeFaultsOfTokens(t *testing.T) {
	zeros := strings.Repeat("0", 31)
	a := "001100001"
	for _, c := range []struct {
		what, code  string
		count       int
		error, from int
	}{
		{"nothing", "", 1, api.ErrTruncated, 0},
		{"nothing behind a literal", a, 2, api.ErrTruncated, 9},
		{"nothing behind a match", "111", 4, api.ErrTruncated, 3},
		{"a literal without a byte", "0", 1, api.ErrTruncated, 0},
		{"a literal without the last bit", a + a[:8], 2, api.ErrTruncated, 9},
		{"a match without a distance", "1", 3, api.ErrTruncated, 0},
		{"a match with a part of a distance", "1" + "001", 3, api.ErrTruncated, 0},
		{"30 zeros", "1" + zeros[:30], 3, api.ErrTruncated, 0},
		{"30 zeros and a one", "1" + zeros[:30] + "1", 3, api.ErrTruncated, 0},
		{"31 zeros", "1" + zeros, 3, api.ErrCorrupt, 0},
		{"31 zeros behind others", a + "111" + "1" + zeros, 10, api.ErrCorrupt, 12},
		{"a distance that is too great", "1" + gamma(1537) + "1", 3, api.ErrCorrupt, 0},
		{"a distance that is too great, at the end", "1" + gamma(1537), 3, api.ErrCorrupt, 0},
		{"the greatest number as a distance", "1" + gamma(1<<31-1), 3, api.ErrCorrupt, 0},
		{"a distance that is too great, and a length", "1" + gamma(1537) + gamma(9), 3, api.ErrCorrupt, 0},
		{"a distance without a length", "1" + gamma(1536), 3, api.ErrTruncated, 0},
		{"a distance and a part of a length", "1" + gamma(2) + "00010", 3, api.ErrTruncated, 0},
		{"a distance and 30 zeros", "1" + gamma(3) + zeros[:30], 3, api.ErrTruncated, 0},
		{"a distance and 31 zeros", "1" + gamma(3) + zeros, 3, api.ErrCorrupt, 0},
		{"a length that is greater by one", "1" + gamma(3) + gamma(2), 3, api.ErrCorrupt, 0},
		{"a match for 2 bytes", a + "111", 3, api.ErrCorrupt, 9},
		{"a match for the last byte", "111", 1, api.ErrCorrupt, 0},
		{"a length of more than MaxBlock", "1" + gamma(1) + gamma(1023), 1024, api.ErrCorrupt, 0},
		{"the greatest number as a length", "1" + gamma(1) + gamma(1<<31-1), 1024, api.ErrCorrupt, 0},
		{"a length that is too great, behind others", a + "1" + gamma(1) + gamma(1022), 1024, api.ErrCorrupt, 9},
	} {
		wantNotDecoded(t, c.what, made(t, c.code), c.count, c.error, c.from)
		wantDecodedAsExpected(t, c.code, c.count)
	}
}

func TestDecodeShortCodes(t *testing.T) {
	for n := range 14 {
		for v := range 1 << n {
			code := fmt.Sprintf("%0*b", n, v)[:n]
			for _, count := range []int{0, 1, 2, 3, 4, 7} {
				wantDecodedAsExpected(t, code, count)
			}
		}
	}
}

// What begins as a code may go on as anything, and a code may end anywhere.
func TestDecodeDamagedCodes(t *testing.T) {
	code := slowCode(slowParse(echoes(200, 30), echoes(20, 9)))
	for end := range len(code) + 1 {
		wantDecodedAsExpected(t, code[:end], 200)
		wantDecodedAsExpected(t, code[end:], 150)
		wantDecodedAsExpected(t, code[:end]+strings.Repeat("0", end%70), 1024)
		wantDecodedAsExpected(t, code[:end]+"1"+strings.Repeat("0", end%33)+"1"+code, 200+end%50)
	}
}

func TestDecodeFaultsOfArguments(t *testing.T) {
	unclean := api.Bits{Data: []byte{0x11}, Count: 7}
	for _, b := range []api.Bits{unclean, {Count: 1}, {Data: []byte{0}}, {Count: -1}, {Count: math.MinInt}, {Count: math.MaxInt}, {Data: make([]byte, api.MaxBits/8+1), Count: api.MaxBits + 8}} {
		for _, count := range []int{0, 1, 1024, -1, 1025} {
			wantNotDecoded(t, fmt.Sprintf("count %d", b.Count), b, count, api.ErrForm, -1)
		}
	}
	for _, count := range []int{-1, 1025, math.MinInt, math.MaxInt} {
		wantNotDecoded(t, "nothing", api.Bits{}, count, api.ErrRange, -2)
		wantNotDecoded(t, "31 zeros", made(t, "1"+strings.Repeat("0", 31)), count, api.ErrRange, -2)
	}
}

func TestDecodeAtTheLimits(t *testing.T) {
	zeros := strings.Repeat("0", api.MaxBits)
	wantDecoded(t, zeros, 1024, literals(strings.Repeat("\x00", 1024)), 9*1024)
	wantDecoded(t, "1"+gamma(1536)+gamma(1022)+zeros[41:], 1024, tokens("", match(1536, 1024)), 41)
	wantDecoded(t, strings.Repeat("111", 341)+"011111111"+zeros[1032:], 1024, append(slices.Repeat(tokens("", match(1, 3)), 341), literal(255)), 1032)
}

// spare returns the beginning of longer memory, and all of it.
func spare(text string) (part, whole []byte) {
	whole = []byte(text + strings.Repeat("#", 2000))
	return whole[:len(text)], whole
}

func TestArgumentsRemain(t *testing.T) {
	data, allData := spare("abcabcabcd")
	dict, allDict := spare("bcd")
	if _, f := lz.Parse(data, dict); f != (api.Fault{}) {
		t.Errorf("Parse: %v", f)
	}
	l := tokens("xy", match(5, 9), match(1, 3))
	whole := append(l, literal('#'), literal('#'))
	b, f := lz.Expand(whole[:4], dict)
	if f != (api.Fault{}) || string(b) != "xybcdxybcdxxxx"[:len(b)] || len(b) != 14 {
		t.Errorf("Expand: %q and %v", b, f)
	}
	for i := range b {
		b[i] = '?'
	}
	if string(allDict[:3]) != "bcd" || strings.Trim(string(allDict[3:]), "#") != "" {
		t.Error("the dictionary has been changed")
	}
	if string(allData[:10]) != "abcabcabcd" || strings.Trim(string(allData[10:]), "#") != "" {
		t.Error("the data have been changed")
	}
	code, _ := lz.Encode(whole[:4])
	lz.Cost(whole[:4])
	if !slices.Equal(whole, tokens("xy", match(5, 9), match(1, 3), literal('#'), literal('#'))) {
		t.Error("the tokens have been changed")
	}
	before := slices.Clone(code.Data)
	got, _, _ := lz.Decode(code, 14)
	got[0].Literal = 'q'
	if !slices.Equal(code.Data, before) {
		t.Error("the code has been changed")
	}
	if again, _, _ := lz.Decode(code, 14); !slices.Equal(again, l) {
		t.Errorf("decoded again: %v", again)
	}
}

func TestResultsShareNothing(t *testing.T) {
	dict := []byte("abcdef")
	a, _ := lz.Expand(tokens("", match(6, 6)), dict)
	b, _ := lz.Expand(tokens("", match(6, 6)), dict)
	for i := range dict {
		dict[i], a[i] = 'x', 'y'
	}
	if string(b) != "abcdef" {
		t.Errorf("the bytes have become %q", b)
	}
	c, _ := lz.Encode(tokens("a"))
	d, _ := lz.Encode(tokens("a"))
	c.Data[0] = 255
	if text, _ := bits.Text(d); text != "001100001" {
		t.Errorf("the code has become %q", text)
	}
}

func TestConcurrentCalls(t *testing.T) {
	data, dict := echoes(300, 20), echoes(100, 20)
	want := slowParse(data, dict)
	var group sync.WaitGroup
	for range 8 {
		group.Go(func() {
			wantParsed(t, data, dict, want)
			wantExpanded(t, want, dict, data)
			code := slowCode(want)
			if b, f := lz.Encode(want); f != (api.Fault{}) || b.Count != len(code) {
				t.Errorf("Encode: %d bits and %v", b.Count, f)
			}
		})
	}
	group.Wait()
}
