package rank_test

import (
	"bytes"
	"fmt"
	"math"
	"slices"
	"strings"
	"testing"

	"scriptorium/api"
	"scriptorium/bits"
	"scriptorium/rank"
)

// made returns the bit string of characters 0 and 1.
func made(t *testing.T, text string) api.Bits {
	t.Helper()
	b, f := bits.Make(text)
	if f != (api.Fault{}) {
		t.Fatalf("%d characters: %v", len(text), f)
	}
	return b
}

// before returns the number of ones before a position, by a plain count.
func before(text string, i int) int {
	return strings.Count(text[:i], "1")
}

// places returns the positions of a character.
func places(text string, c byte) []int {
	var all []int
	for i := range len(text) {
		if text[i] == c {
			all = append(all, i)
		}
	}
	return all
}

// vector returns the vector of characters 0 and 1, without package rank.
func vector(t *testing.T, text string) api.Vector {
	t.Helper()
	v := api.Vector{Bits: made(t, text)}
	for at := 0; at <= len(text); at += 64 {
		v.Sums = append(v.Sums, before(text, at))
	}
	return v
}

// noise returns n characters of which about a share of so many in 100 is 1, without a simple period.
func noise(n, share int) string {
	text := make([]byte, n)
	x := uint32(1000*share + n)
	for i := range text {
		x = x*1664525 + 1013904223
		text[i] = '0'
		if int(x>>16)%100 < share {
			text[i] = '1'
		}
	}
	return string(text)
}

// counts are numbers of bits, among them those at multiples of 64.
func counts() []int {
	all := []int{0, 1, 2, 7, 8, 9, 40, 300, 449, 777}
	for n := 64; n <= 512; n += 64 {
		all = append(all, n-9, n-8, n-7, n-1, n, n+1, n+7, n+8, n+9)
	}
	return all
}

// texts returns bit strings of many sorts.
func texts() []string {
	var all []string
	for _, n := range counts() {
		for _, share := range []int{0, 2, 30, 50, 70, 98, 100} {
			all = append(all, noise(n, share))
		}
		all = append(all, (strings.Repeat("01", n))[:n], (strings.Repeat("1110", n))[:n])
		for _, at := range []int{0, 1, n / 2, n - 2, n - 1} {
			if at >= 0 && at < n {
				ones, zeros := strings.Repeat("1", n), strings.Repeat("0", n)
				all = append(all, zeros[:at]+"1"+zeros[at+1:], ones[:at]+"0"+ones[at+1:])
			}
		}
	}
	return all
}

func TestTextsAreOfManySorts(t *testing.T) {
	few, many, none, only := 0, 0, 0, 0
	for _, text := range texts() {
		n, ones := len(text), before(text, len(text))
		switch {
		case n < 200:
		case ones == 0:
			none++
		case ones == n:
			only++
		case ones < n/10:
			few++
		case ones > n-n/10:
			many++
		}
	}
	if min(few, many, none, only) < 20 {
		t.Errorf("long texts: %d with few, %d with many, %d without and %d with nothing but ones", few, many, none, only)
	}
}

// invalidBits returns bit strings that are not valid, by what is wrong with them.
func invalidBits() map[string]api.Bits {
	return map[string]api.Bits{
		"the fourth bit of three":          {Data: []byte{0x10}, Count: 3},
		"a bit behind 63":                  {Data: []byte{0, 0, 0, 0, 0, 0, 0, 1}, Count: 63},
		"a bit behind 65":                  {Data: []byte{0, 0, 0, 0, 0, 0, 0, 0, 0x40}, Count: 65},
		"a byte for no bits":               {Data: []byte{0}},
		"no byte for a bit":                {Count: 1},
		"a byte too few for 64 bits":       {Data: make([]byte, 7), Count: 64},
		"a byte too many for 64 bits":      {Data: make([]byte, 9), Count: 64},
		"a byte too few for 65 bits":       {Data: make([]byte, 8), Count: 65},
		"no bytes for 640 bits":            {Count: 640},
		"a negative count":                 {Count: -1},
		"a count of -64":                   {Count: -64},
		"a count of -64 and bytes":         {Data: make([]byte, 8), Count: -64},
		"the least count":                  {Count: math.MinInt},
		"the greatest count":               {Count: math.MaxInt},
		"one bit too many":                 {Data: make([]byte, api.MaxBits/8+1), Count: api.MaxBits + 1},
		"64 bits too many":                 {Data: make([]byte, api.MaxBits/8+8), Count: api.MaxBits + 64},
		"bytes missing at the upper limit": {Data: make([]byte, api.MaxBits/8-1), Count: api.MaxBits},
	}
}

// changedSums returns vectors of a text with sums that are not those of the text, by what is wrong with them.
func changedSums(t *testing.T, text string) map[string]api.Vector {
	t.Helper()
	right := vector(t, text)
	n := len(right.Sums)
	total := before(text, len(text))
	all := map[string]api.Vector{}
	add := func(what string, sums []int) {
		all[fmt.Sprintf("%d bits with %d ones: %s", len(text), total, what)] = api.Vector{Bits: right.Bits, Sums: sums}
	}
	add("no sums", nil)
	add("no sums, but room for them", right.Sums[:0])
	add("an element too few", right.Sums[:n-1])
	add("the first element is missing", right.Sums[1:])
	for what, more := range map[string]int{"all ones": total, "the last sum": right.Sums[n-1], "zero": 0} {
		add("an element too many: "+what, append(slices.Clone(right.Sums), more))
	}
	add("an element too many in front", append([]int{0}, right.Sums...))
	for k := range right.Sums {
		for _, by := range []int{1, -1, 64, math.MinInt, math.MaxInt - 1000} {
			sums := slices.Clone(right.Sums)
			sums[k] += by
			add(fmt.Sprintf("the element %d is wrong by %d", k, by), sums)
		}
	}
	if n > 1 && total > 0 && total < len(text) {
		zeros := slices.Clone(right.Sums)
		for k := range zeros {
			zeros[k] = 64*k - zeros[k]
		}
		if !slices.Equal(zeros, right.Sums) {
			add("zeros are counted", zeros)
		}
	}
	return all
}

// invalidVectors returns vectors that are not valid, by what is wrong with them.
func invalidVectors(t *testing.T) map[string]api.Vector {
	t.Helper()
	all := map[string]api.Vector{"the zero vector": {}}
	for what, b := range invalidBits() {
		all[what+", no sums"] = api.Vector{Bits: b}
		all[what+", one sum"] = api.Vector{Bits: b, Sums: []int{0}}
		all[what+", sums"] = api.Vector{Bits: b, Sums: make([]int, min(max(b.Count, 0), api.MaxBits+64)/64+1)}
	}
	for _, n := range []int{0, 1, 63, 64, 65, 127, 128, 129, 400} {
		for _, share := range []int{0, 50, 100} {
			for what, v := range changedSums(t, noise(n, share)) {
				all[what] = v
			}
		}
	}
	return all
}

func wantFault(t *testing.T, what string, got api.Fault, code, index int) {
	t.Helper()
	if got != (api.Fault{Code: code, Index: index}) {
		t.Errorf("%s: got %v, want {%d %d}", what, got, code, index)
	}
}

func wantInt(t *testing.T, what string, got int, f api.Fault, want int) {
	t.Helper()
	if f != (api.Fault{}) || got != want {
		t.Errorf("%s: got %d and %v, want %d", what, got, f, want)
	}
}

func wantNoInt(t *testing.T, what string, got int, f api.Fault, code, index int) {
	t.Helper()
	wantFault(t, what, f, code, index)
	if got != 0 {
		t.Errorf("%s: %d beside a fault", what, got)
	}
}

func same(a, b api.Vector) bool {
	return a.Bits.Count == b.Bits.Count && bytes.Equal(a.Bits.Data, b.Bits.Data) && slices.Equal(a.Sums, b.Sums)
}

func TestBuild(t *testing.T) {
	for _, text := range texts() {
		got, f := rank.Build(made(t, text))
		wantFault(t, text, f, api.OK, 0)
		if want := vector(t, text); !same(got, want) {
			t.Errorf("%s: got %v, want %v", text, got, want)
		}
		wantFault(t, text, rank.Validate(got), api.OK, 0)
	}
}

// Worked out by hand.
func TestBuildSums(t *testing.T) {
	one, zero := strings.Repeat("1", 64), strings.Repeat("0", 64)
	for text, want := range map[string][]int{
		"":                        {0},
		"0":                       {0},
		"01101":                   {0},
		one[1:]:                   {0},
		one:                       {0, 64},
		zero:                      {0, 0},
		zero + "1":                {0, 0},
		one + "1":                 {0, 64},
		one + one[1:]:             {0, 64},
		one + one:                 {0, 64, 128},
		one + zero:                {0, 64, 64},
		zero + one:                {0, 0, 64},
		zero + "1" + zero + "1":   {0, 0, 1},
		zero[1:] + "1" + zero:     {0, 1, 1},
		"0" + one + one + one[2:]: {0, 63, 127},
		"0" + one + one + one[1:]: {0, 63, 127, 191},
	} {
		v, f := rank.Build(made(t, text))
		if f != (api.Fault{}) || !slices.Equal(v.Sums, want) {
			t.Errorf("%s: got %v and %v, want %v", text, v.Sums, f, want)
		}
	}
	for what, b := range map[string]api.Bits{"nil": {}, "empty": {Data: []byte{}}} {
		v, f := rank.Build(b)
		if f != (api.Fault{}) || v.Bits.Count != 0 || len(v.Bits.Data) != 0 || !slices.Equal(v.Sums, []int{0}) {
			t.Errorf("%s: got %v and %v", what, v, f)
		}
	}
}

func TestBuildFaults(t *testing.T) {
	for what, b := range invalidBits() {
		v, f := rank.Build(b)
		wantFault(t, what, f, api.ErrForm, -1)
		if !same(v, api.Vector{}) {
			t.Errorf("%s: a vector of %d bits and %d sums beside a fault", what, v.Bits.Count, len(v.Sums))
		}
	}
}

func TestValidate(t *testing.T) {
	for _, text := range texts() {
		wantFault(t, text, rank.Validate(vector(t, text)), api.OK, 0)
	}
	for what, v := range invalidVectors(t) {
		wantFault(t, what, rank.Validate(v), api.ErrForm, -1)
	}
}

// A vector is that of one bit string only, as far as the ones ahead of a multiple of 64 go.
func TestValidateSeesEachOne(t *testing.T) {
	text := noise(330, 50)
	for i := range len(text) {
		v := vector(t, text)
		v.Bits.Data[i/8] ^= 0x80 >> (i % 8)
		if i < 320 {
			wantFault(t, fmt.Sprintf("the bit %d is changed", i), rank.Validate(v), api.ErrForm, -1)
		} else {
			wantFault(t, fmt.Sprintf("the bit %d is changed", i), rank.Validate(v), api.OK, 0)
		}
	}
}

func TestRank(t *testing.T) {
	for _, text := range texts() {
		v := vector(t, text)
		for i := range len(text) + 1 {
			got, f := rank.Rank(v, i)
			wantInt(t, fmt.Sprintf("rank of %d in %s", i, text), got, f, before(text, i))
		}
	}
}

// wantPlaces compares the answers to all numbers with the positions, and asks for one more on each side.
func wantPlaces(t *testing.T, what string, ask func(v api.Vector, k int) (int, api.Fault), v api.Vector, want []int) {
	t.Helper()
	for k, at := range want {
		got, f := ask(v, k)
		wantInt(t, fmt.Sprintf("%s of %d", what, k), got, f, at)
	}
	for _, k := range []int{-1, len(want), len(want) + 1, v.Bits.Count + 1, math.MinInt, math.MaxInt} {
		got, f := ask(v, k)
		wantNoInt(t, fmt.Sprintf("%s of %d", what, k), got, f, api.ErrRange, -2)
	}
}

func TestSelect(t *testing.T) {
	for _, text := range texts() {
		wantPlaces(t, "Select in "+text, rank.Select, vector(t, text), places(text, '1'))
	}
}

func TestSelectZero(t *testing.T) {
	for _, text := range texts() {
		wantPlaces(t, "SelectZero in "+text, rank.SelectZero, vector(t, text), places(text, '0'))
	}
}

// Worked out by hand.
func TestExamples(t *testing.T) {
	v, f := rank.Build(api.Bits{Data: []byte{0x68}, Count: 5}) // 01101
	wantFault(t, "01101", f, api.OK, 0)
	for i, want := range []int{0, 0, 1, 2, 2, 3} {
		got, f := rank.Rank(v, i)
		wantInt(t, fmt.Sprintf("rank of %d", i), got, f, want)
	}
	wantPlaces(t, "Select", rank.Select, v, []int{1, 2, 4})
	wantPlaces(t, "SelectZero", rank.SelectZero, v, []int{0, 3})
	empty := api.Vector{Sums: []int{0}}
	wantFault(t, "the empty bit string", rank.Validate(empty), api.OK, 0)
	got, f := rank.Rank(empty, 0)
	wantInt(t, "rank of 0 in the empty bit string", got, f, 0)
	wantPlaces(t, "Select in the empty bit string", rank.Select, empty, nil)
	wantPlaces(t, "SelectZero in the empty bit string", rank.SelectZero, empty, nil)
}

func TestRankFaults(t *testing.T) {
	for _, n := range counts() {
		v := vector(t, noise(n, 50))
		for _, i := range []int{-1, -64, math.MinInt, n + 1, n + 64, math.MaxInt} {
			got, f := rank.Rank(v, i)
			wantNoInt(t, fmt.Sprintf("rank of %d of %d", i, n), got, f, api.ErrRange, -2)
		}
	}
}

// A vector that is not valid is the first fault, wherever the position or the number is.
func TestFaultsOfVectors(t *testing.T) {
	for what, v := range invalidVectors(t) {
		count := v.Bits.Count
		for _, n := range []int{0, 1, -1, count - 1, count, count + 1, math.MinInt, math.MaxInt} {
			got, f := rank.Rank(v, n)
			wantNoInt(t, fmt.Sprintf("%s: rank of %d", what, n), got, f, api.ErrForm, -1)
			got, f = rank.Select(v, n)
			wantNoInt(t, fmt.Sprintf("%s: Select of %d", what, n), got, f, api.ErrForm, -1)
			got, f = rank.SelectZero(v, n)
			wantNoInt(t, fmt.Sprintf("%s: SelectZero of %d", what, n), got, f, api.ErrForm, -1)
		}
	}
}

func TestAtTheUpperLimit(t *testing.T) {
	for _, share := range []int{0, 1, 50, 99, 100} {
		text := noise(api.MaxBits, share)
		want := vector(t, text)
		v, f := rank.Build(made(t, text))
		wantFault(t, "MaxBits bits", f, api.OK, 0)
		if !same(v, want) || len(v.Sums) != api.MaxBits/64+1 {
			t.Errorf("the vector of MaxBits bits has %d sums or is wrong", len(v.Sums))
		}
		for _, i := range []int{0, 1, 64, 65535, 65536, 65537, api.MaxBits - 65, api.MaxBits - 1, api.MaxBits} {
			got, f := rank.Rank(want, i)
			wantInt(t, fmt.Sprintf("rank of %d", i), got, f, before(text, i))
		}
		wantSomePlaces(t, rank.Select, want, places(text, '1'))
		wantSomePlaces(t, rank.SelectZero, want, places(text, '0'))
	}
}

// wantSomePlaces compares the answers to the first, the last and some other numbers with the positions.
func wantSomePlaces(t *testing.T, ask func(v api.Vector, k int) (int, api.Fault), v api.Vector, want []int) {
	t.Helper()
	for part := range min(8, len(want)) {
		k := (len(want) - 1) * part / 7
		got, f := ask(v, k)
		wantInt(t, fmt.Sprintf("the bit %d of %d", k, len(want)), got, f, want[k])
	}
	got, f := ask(v, len(want))
	wantNoInt(t, "one bit more than there are", got, f, api.ErrRange, -2)
}
