package bits_test

import (
	"bytes"
	"fmt"
	"math"
	"strconv"
	"strings"
	"testing"

	"scriptorium/api"
	"scriptorium/bits"
)

const greatest = 1<<31 - 1 // the greatest number in gamma code

// pack is a slow, independent way to lay characters 0 and 1 into bytes.
func pack(text string) api.Bits {
	data := make([]byte, 0, len(text)/8+1)
	for at := 0; at < len(text); at += 8 {
		eight := (text[at:min(at+8, len(text))] + "0000000")[:8]
		v, err := strconv.ParseUint(eight, 2, 8)
		if err != nil {
			panic(err)
		}
		data = append(data, byte(v))
	}
	return api.Bits{Data: data, Count: len(text)}
}

// sample returns n characters 0 and 1 without a simple period.
func sample(n int) string {
	text := make([]byte, n)
	x := uint32(n + 1)
	for i := range text {
		x = x*1664525 + 1013904223
		text[i] = '0' + byte(x>>31)
	}
	return string(text)
}

// digits returns a number in width binary digits.
func digits(value, width int) string {
	if width == 0 {
		return ""
	}
	return fmt.Sprintf("%0*b", width, value)
}

// gamma returns the gamma code of a number, by its definition.
func gamma(n int) string {
	binary := strconv.FormatInt(int64(n), 2)
	return strings.Repeat("0", len(binary)-1) + binary
}

func same(a, b api.Bits) bool {
	return a.Count == b.Count && bytes.Equal(a.Data, b.Data)
}

func wantFault(t *testing.T, what string, got api.Fault, code, index int) {
	t.Helper()
	if got != (api.Fault{Code: code, Index: index}) {
		t.Errorf("%s: got %v, want {%d %d}", what, got, code, index)
	}
}

func wantBits(t *testing.T, what string, got api.Bits, f api.Fault, want string) {
	t.Helper()
	wantFault(t, what, f, api.OK, 0)
	if !same(got, pack(want)) {
		t.Errorf("%s: got %v, want %v", what, got, pack(want))
	}
}

func wantNoBits(t *testing.T, what string, got api.Bits, f api.Fault, code, index int) {
	t.Helper()
	wantFault(t, what, f, code, index)
	if !same(got, api.Bits{}) {
		t.Errorf("%s: %v beside a fault", what, got)
	}
}

// invalid returns bit strings that are not valid, by what is wrong with them.
func invalid() map[string]api.Bits {
	return map[string]api.Bits{
		"the fourth bit of three":   {Data: []byte{0x10}, Count: 3},
		"a bit behind fifteen":      {Data: []byte{0, 1}, Count: 15},
		"a byte for no bits":        {Data: []byte{0}},
		"no byte for a bit":         {Count: 1},
		"two bytes for eight bits":  {Data: []byte{1, 0}, Count: 8},
		"one byte for nine bits":    {Data: []byte{1}, Count: 9},
		"a negative count":          {Count: -1},
		"a negative count and byte": {Data: []byte{0}, Count: -1},
		"minus eight bits":          {Data: []byte{0}, Count: -8},
		"the least count":           {Count: math.MinInt},
		"the greatest count":        {Count: math.MaxInt},
		"one bit too many":          {Data: make([]byte, api.MaxBits/8+1), Count: api.MaxBits + 1},
		"eight bits too many":       {Data: make([]byte, api.MaxBits/8+1), Count: api.MaxBits + 8},
		"bytes missing at the end":  {Data: make([]byte, api.MaxBits/8-1), Count: api.MaxBits},
	}
}

func TestValid(t *testing.T) {
	for n := range 300 {
		b := pack(sample(n))
		if !bits.Valid(b) {
			t.Errorf("%d bits are not valid", n)
		}
		if bits.Valid(api.Bits{Data: append(bytes.Clone(b.Data), 0), Count: n}) {
			t.Errorf("%d bits with another byte are valid", n)
		}
		if n > 0 && bits.Valid(api.Bits{Data: b.Data[:len(b.Data)-1], Count: n}) {
			t.Errorf("%d bits with a byte missing are valid", n)
		}
	}
	if !bits.Valid(api.Bits{}) || !bits.Valid(api.Bits{Data: []byte{}}) {
		t.Error("no bits are not valid")
	}
	if !bits.Valid(pack(strings.Repeat("1", api.MaxBits))) {
		t.Error("MaxBits bits are not valid")
	}
}

func TestValidLooksAtEverySpareBit(t *testing.T) {
	for n := range 41 {
		for _, text := range []string{strings.Repeat("0", n), strings.Repeat("1", n), sample(n)} {
			b := pack(text)
			for spare := n; spare < 8*len(b.Data); spare++ {
				changed := api.Bits{Data: bytes.Clone(b.Data), Count: n}
				changed.Data[spare/8] |= 0x80 >> (spare % 8)
				if bits.Valid(changed) {
					t.Errorf("%s with the bit %d is valid", text, spare)
				}
			}
			if !bits.Valid(b) {
				t.Errorf("%s is not valid", text)
			}
		}
	}
}

func TestValidOfInvalid(t *testing.T) {
	for what, b := range invalid() {
		if bits.Valid(b) {
			t.Errorf("%s: valid", what)
		}
	}
}

func TestValidLeavesArgumentAlone(t *testing.T) {
	data := []byte{0xa5, 0xe0, 0xff}
	if !bits.Valid(api.Bits{Data: data[:2], Count: 11}) || !bytes.Equal(data, []byte{0xa5, 0xe0, 0xff}) {
		t.Error("a valid bit string is not valid, or it was changed")
	}
}

func wantMade(t *testing.T, text string) {
	t.Helper()
	what := fmt.Sprintf("Make of %d characters", len(text))
	b, f := bits.Make(text)
	wantBits(t, what, b, f, text)
	back, f := bits.Text(pack(text))
	wantFault(t, what, f, api.OK, 0)
	if back != text {
		t.Errorf("Text of %d bits is wrong", len(text))
	}
}

func TestMakeAndText(t *testing.T) {
	for width := range 11 {
		for v := range 1 << width {
			wantMade(t, digits(v, width))
		}
	}
	for n := range 300 {
		wantMade(t, sample(n))
	}
	for _, n := range []int{api.MaxBits - 8, api.MaxBits - 7, api.MaxBits - 1, api.MaxBits} {
		wantMade(t, sample(n))
		wantMade(t, strings.Repeat("1", n))
	}
}

func TestMakeExample(t *testing.T) {
	for text, want := range map[string]api.Bits{
		"":         {},
		"10000000": {Data: []byte{0x80}, Count: 8},
		"1":        {Data: []byte{0x80}, Count: 1},
	} {
		if b, f := bits.Make(text); f != (api.Fault{}) || !same(b, want) {
			t.Errorf("%q: got %v, %v", text, b, f)
		}
	}
}

func wantNotMade(t *testing.T, text string, code, index int) {
	t.Helper()
	b, f := bits.Make(text)
	wantNoBits(t, fmt.Sprintf("Make of %d bytes", len(text)), b, f, code, index)
}

func TestMakeOfOtherBytes(t *testing.T) {
	for v := range 256 {
		if v == '0' || v == '1' {
			continue
		}
		other := string([]byte{byte(v)})
		for at := range 20 {
			wantNotMade(t, sample(at)+other+sample(20-at), api.ErrForm, at)
			wantNotMade(t, sample(at)+other+"x2é", api.ErrForm, at)
		}
	}
	wantNotMade(t, "01é", api.ErrForm, 2)
	wantNotMade(t, " 01", api.ErrForm, 0)
	wantNotMade(t, sample(api.MaxBits-1)+"2", api.ErrForm, api.MaxBits-1)
}

func TestMakeTooLong(t *testing.T) {
	for _, more := range []string{"0", "1", "2", "01010101", strings.Repeat("1", api.MaxBits)} {
		wantNotMade(t, sample(api.MaxBits)+more, api.ErrTooLong, -1)
		wantNotMade(t, "x"+sample(api.MaxBits-1)+more, api.ErrTooLong, -1)
	}
}

func TestTextOfInvalid(t *testing.T) {
	for what, b := range invalid() {
		text, f := bits.Text(b)
		wantFault(t, what, f, api.ErrForm, -1)
		if text != "" {
			t.Errorf("%s: %d characters beside a fault", what, len(text))
		}
	}
}

// values returns numbers of a width, the least and the greatest among them.
func values(width int) []int {
	last := 1<<width - 1
	all := []int{0, last, last / 2, last/2 + last%2, 0x5a5a5a5a & last, 0x9e3779b1 & last}
	for i := range width {
		all = append(all, 1<<i)
	}
	return all
}

func TestAppendAndRead(t *testing.T) {
	for n := range 20 {
		before := sample(n)
		for width := range 33 {
			for _, v := range values(width) {
				what := fmt.Sprintf("%d in %d bits behind %s", v, width, before)
				b, f := bits.Append(pack(before), v, width)
				wantBits(t, what, b, f, before+digits(v, width))
				got, f := bits.Read(pack(before+digits(v, width)+"1101"), n, width)
				wantFault(t, what, f, api.OK, 0)
				if got != v {
					t.Errorf("%s: read %d", what, got)
				}
			}
		}
	}
}

func TestAppendExample(t *testing.T) {
	b, f := bits.Append(api.Bits{}, 5, 4)
	wantBits(t, "5 in 4 bits", b, f, "0101")
}

func TestReadEverywhere(t *testing.T) {
	text := sample(77)
	for from := range len(text) + 1 {
		for width := range 33 {
			what := fmt.Sprintf("%d bits from %d", width, from)
			got, f := bits.Read(pack(text), from, width)
			if from+width > len(text) {
				wantFault(t, what, f, api.ErrTruncated, -2)
				if got != 0 {
					t.Errorf("%s: %d beside a fault", what, got)
				}
				continue
			}
			wantFault(t, what, f, api.OK, 0)
			if text[from:from+width] != digits(got, width) {
				t.Errorf("%s: got %d", what, got)
			}
		}
	}
}

func TestAppendNearTheLimit(t *testing.T) {
	for _, room := range []int{0, 1, 7, 8, 31, 32, 33} {
		before := sample(api.MaxBits - room)
		for width := range 33 {
			what := fmt.Sprintf("%d bits where %d have room", width, room)
			b, f := bits.Append(pack(before), 1<<width-1, width)
			if width > room {
				wantNoBits(t, what, b, f, api.ErrTooLarge, -1)
			} else {
				wantBits(t, what, b, f, before+strings.Repeat("1", width))
			}
		}
	}
}

func TestAppendErrors(t *testing.T) {
	full := pack(sample(api.MaxBits))
	some := pack(sample(11))
	for _, c := range []struct {
		b                         api.Bits
		value, width, code, index int
	}{
		{some, -1, 4, api.ErrRange, -2},
		{some, math.MinInt, 32, api.ErrRange, -2},
		{some, -1, 33, api.ErrRange, -2},
		{some, -1, -1, api.ErrRange, -2},
		{full, -1, 1, api.ErrRange, -2},
		{some, 1, 0, api.ErrRange, -2},
		{some, 2, 1, api.ErrRange, -2},
		{some, 16, 4, api.ErrRange, -2},
		{some, 1 << 31, 31, api.ErrRange, -2},
		{some, 1 << 32, 32, api.ErrRange, -2},
		{some, math.MaxInt, 32, api.ErrRange, -2},
		{full, 2, 1, api.ErrRange, -2},
		{some, 0, -1, api.ErrRange, -3},
		{some, 0, 33, api.ErrRange, -3},
		{some, 1, 33, api.ErrRange, -3},
		{some, math.MaxInt, 33, api.ErrRange, -3},
		{some, math.MaxInt, 64, api.ErrRange, -3},
		{some, math.MaxInt, -1, api.ErrRange, -3},
		{some, 1, math.MinInt, api.ErrRange, -3},
		{some, 1, math.MaxInt, api.ErrRange, -3},
		{full, 1, 33, api.ErrRange, -3},
		{full, 0, math.MaxInt, api.ErrRange, -3},
		{full, 0, 1, api.ErrTooLarge, -1},
		{full, 1<<32 - 1, 32, api.ErrTooLarge, -1},
	} {
		b, f := bits.Append(c.b, c.value, c.width)
		wantNoBits(t, fmt.Sprintf("%d in %d bits behind %d", c.value, c.width, c.b.Count), b, f, c.code, c.index)
	}
	for what, b := range invalid() {
		for _, width := range []int{0, 4, 32, 33, -1} {
			for _, value := range []int{0, -1, 99} {
				out, f := bits.Append(b, value, width)
				wantNoBits(t, what, out, f, api.ErrForm, -1)
			}
		}
	}
}

func TestReadErrors(t *testing.T) {
	for _, c := range []struct{ count, from, width, code, index int }{
		{6, -1, 1, api.ErrRange, -2},
		{6, 7, 0, api.ErrRange, -2},
		{6, 7, 33, api.ErrRange, -2},
		{6, -1, -1, api.ErrRange, -2},
		{6, math.MinInt, 1, api.ErrRange, -2},
		{6, math.MaxInt, 1, api.ErrRange, -2},
		{0, 1, 0, api.ErrRange, -2},
		{6, 0, -1, api.ErrRange, -3},
		{6, 0, 33, api.ErrRange, -3},
		{99, 0, 33, api.ErrRange, -3},
		{6, 6, 33, api.ErrRange, -3},
		{6, 6, math.MinInt, api.ErrRange, -3},
		{6, 6, math.MaxInt, api.ErrRange, -3},
		{0, 0, 1, api.ErrTruncated, -2},
		{6, 3, 4, api.ErrTruncated, -2},
		{6, 6, 1, api.ErrTruncated, -2},
		{6, 0, 7, api.ErrTruncated, -2},
		{6, 0, 32, api.ErrTruncated, -2},
		{31, 0, 32, api.ErrTruncated, -2},
		{api.MaxBits, api.MaxBits, 1, api.ErrTruncated, -2},
		{api.MaxBits, api.MaxBits - 31, 32, api.ErrTruncated, -2},
	} {
		got, f := bits.Read(pack(sample(c.count)), c.from, c.width)
		what := fmt.Sprintf("%d bits from %d of %d", c.width, c.from, c.count)
		wantFault(t, what, f, c.code, c.index)
		if got != 0 {
			t.Errorf("%s: %d beside a fault", what, got)
		}
	}
	for what, b := range invalid() {
		for _, from := range []int{0, -1, 1, 1000000} {
			for _, width := range []int{0, 1, 33, -1} {
				got, f := bits.Read(b, from, width)
				wantFault(t, what, f, api.ErrForm, -1)
				if got != 0 {
					t.Errorf("%s: %d beside a fault", what, got)
				}
			}
		}
	}
}

func TestReadAtTheEnds(t *testing.T) {
	for _, n := range []int{0, 1, 8, 9, api.MaxBits} {
		for _, from := range []int{0, n} {
			got, f := bits.Read(pack(strings.Repeat("1", n)), from, 0)
			wantFault(t, "width 0", f, api.OK, 0)
			if got != 0 {
				t.Errorf("width 0 at %d of %d: got %d", from, n, got)
			}
		}
	}
	got, f := bits.Read(pack(strings.Repeat("1", api.MaxBits)), api.MaxBits-32, 32)
	wantFault(t, "the last bits", f, api.OK, 0)
	if got != 1<<32-1 {
		t.Errorf("the last bits: got %d", got)
	}
}

// numbers returns numbers of all sizes in gamma code.
func numbers() []int {
	var all []int
	for n := 1; n <= 300; n++ {
		all = append(all, n)
	}
	for z := 9; z <= 30; z++ {
		all = append(all, 1<<z-1, 1<<z, 1<<z+1, 1<<z|0x55555555&(1<<z-1))
	}
	return append(all, greatest-1, greatest)
}

func wantNumber(t *testing.T, what string, b api.Bits, from, n, end int) {
	t.Helper()
	got, next, f := bits.ReadGamma(b, from)
	wantFault(t, what, f, api.OK, 0)
	if got != n || next != end {
		t.Errorf("%s: got %d, next %d, want %d, next %d", what, got, next, n, end)
	}
}

func wantNoNumber(t *testing.T, what string, b api.Bits, from, code, index int) {
	t.Helper()
	n, next, f := bits.ReadGamma(b, from)
	wantFault(t, what, f, code, index)
	if n != 0 || next != 0 {
		t.Errorf("%s: %d and %d beside a fault", what, n, next)
	}
}

func TestGamma(t *testing.T) {
	for _, n := range numbers() {
		code := gamma(n)
		if got := bits.GammaSize(n); got != len(code) {
			t.Errorf("size of %d: got %d, want %d", n, got, len(code))
		}
		for _, at := range []int{0, 1, 2, 3, 4, 5, 6, 7, 8, 9, 100} {
			what := fmt.Sprintf("%d at %d", n, at)
			before := sample(at)
			b, f := bits.AppendGamma(pack(before), n)
			wantBits(t, what, b, f, before+code)
			for _, after := range []string{"", "0", "1", "0000000", "11111111"} {
				wantNumber(t, what, pack(before+code+after), at, n, at+len(code))
			}
		}
	}
}

func TestGammaExamples(t *testing.T) {
	for n, code := range map[int]string{1: "1", 2: "010", 3: "011", 4: "00100", 5: "00101"} {
		b, f := bits.AppendGamma(api.Bits{}, n)
		wantBits(t, code, b, f, code)
	}
	wantNumber(t, "100101", pack("100101"), 1, 5, 6)
}

func TestGammaSizeOfAllNumbers(t *testing.T) {
	for n, want := range map[int]int{
		0: 0, -1: 0, math.MinInt: 0, 1: 1, 2: 3, 3: 3, 4: 5, greatest: 61, greatest + 1: 63,
		1<<62 - 1: 123, 1 << 62: 125, math.MaxInt: 125,
	} {
		if got := bits.GammaSize(n); got != want {
			t.Errorf("%d: got %d, want %d", n, got, want)
		}
	}
}

func TestReadGammaOfCodeThatEnds(t *testing.T) {
	for _, n := range []int{1, 2, 3, 4, 100, 255, 256, 1<<30 - 1, 1 << 30, greatest} {
		code := gamma(n)
		for cut := range len(code) {
			for _, at := range []int{0, 1, 7, 8, 13} {
				wantNoNumber(t, fmt.Sprintf("%d of the bits of %d", cut, n), pack(sample(at)+code[:cut]), at, api.ErrTruncated, -2)
			}
		}
	}
}

// With 31 zeros nothing else matters; with fewer, the code has not ended.
func TestReadGammaOfZeros(t *testing.T) {
	for _, at := range []int{0, 1, 7, 8, 20} {
		for n := range 80 {
			code := api.ErrTruncated
			if n >= 31 {
				code = api.ErrCorrupt
			}
			zeros := sample(at) + strings.Repeat("0", n)
			wantNoNumber(t, fmt.Sprintf("%d zeros", n), pack(zeros), at, code, -2)
			if n >= 31 {
				wantNoNumber(t, fmt.Sprintf("%d zeros and more", n), pack(zeros+strings.Repeat("1", 90)), at, code, -2)
			}
		}
	}
	wantNoNumber(t, "zeros at the end", pack(strings.Repeat("0", api.MaxBits)), api.MaxBits-31, api.ErrCorrupt, -2)
	wantNoNumber(t, "zeros at the end", pack(strings.Repeat("0", api.MaxBits)), api.MaxBits-30, api.ErrTruncated, -2)
}

func TestGammaNearTheLimit(t *testing.T) {
	for _, n := range []int{1, 2, 200, greatest} {
		code := gamma(n)
		before := sample(api.MaxBits - len(code))
		b, f := bits.AppendGamma(pack(before), n)
		wantBits(t, "exactly enough room", b, f, before+code)
		wantNumber(t, "a code at the end", pack(before+code), len(before), n, api.MaxBits)
		b, f = bits.AppendGamma(pack(before+"1"), n)
		wantNoBits(t, "one bit too many", b, f, api.ErrTooLarge, -1)
	}
}

func TestAppendGammaErrors(t *testing.T) {
	for _, n := range []int{0, -1, math.MinInt, greatest + 1, 1 << 32, math.MaxInt} {
		for _, count := range []int{0, 11, api.MaxBits} {
			b, f := bits.AppendGamma(pack(sample(count)), n)
			wantNoBits(t, fmt.Sprintf("%d behind %d bits", n, count), b, f, api.ErrRange, -2)
		}
	}
	for what, b := range invalid() {
		for _, n := range []int{1, 0, -1, greatest + 1} {
			out, f := bits.AppendGamma(b, n)
			wantNoBits(t, what, out, f, api.ErrForm, -1)
		}
	}
}

func TestReadGammaErrors(t *testing.T) {
	for _, text := range []string{"", "1", "10101010", strings.Repeat("0", 40)} {
		for _, from := range []int{-1, math.MinInt, len(text) + 1, math.MaxInt} {
			wantNoNumber(t, fmt.Sprintf("%q from %d", text, from), pack(text), from, api.ErrRange, -2)
		}
		wantNoNumber(t, fmt.Sprintf("%q at its end", text), pack(text), len(text), api.ErrTruncated, -2)
	}
	for what, b := range invalid() {
		for _, from := range []int{0, 1, -1, math.MaxInt} {
			wantNoNumber(t, what, b, from, api.ErrForm, -1)
		}
	}
}

func packAll(texts []string) []api.Bits {
	var l []api.Bits
	for _, text := range texts {
		l = append(l, pack(text))
	}
	return l
}

func wantJoined(t *testing.T, texts ...string) {
	t.Helper()
	b, f := bits.Join(packAll(texts))
	whole := strings.Join(texts, "")
	wantBits(t, fmt.Sprintf("%d strings of %d bits", len(texts), len(whole)), b, f, whole)
}

func TestJoin(t *testing.T) {
	wantJoined(t)
	wantJoined(t, "")
	wantJoined(t, "", "", "")
	wantJoined(t, "10", "011")
	for n := range 20 {
		for m := range 20 {
			wantJoined(t, sample(n), strings.Repeat("1", m))
			wantJoined(t, sample(n), sample(m), "", sample(n+m))
			wantJoined(t, "", strings.Repeat("1", n), sample(m), sample(7), strings.Repeat("1", 9), "")
		}
	}
	if b, f := bits.Join([]api.Bits{}); f != (api.Fault{}) || !same(b, api.Bits{}) {
		t.Errorf("an empty list: got %v, %v", b, f)
	}
}

func TestJoinAtTheLimits(t *testing.T) {
	all := make([]string, api.MaxStrings)
	for i := range all {
		all[i] = sample(i % 40)
	}
	wantJoined(t, all...)
	half := sample(api.MaxBits / 2)
	wantJoined(t, half, half)
	wantJoined(t, sample(api.MaxBits))
	wantJoined(t, sample(api.MaxBits-3), "111", "")
	for i := range all {
		all[i] = sample(api.MaxBits / api.MaxStrings)
	}
	wantJoined(t, all...)
}

func wantNotJoined(t *testing.T, what string, l []api.Bits, code, index int) {
	t.Helper()
	b, f := bits.Join(l)
	wantNoBits(t, what, b, f, code, index)
}

func TestJoinErrors(t *testing.T) {
	full := pack(sample(api.MaxBits))
	for what, bad := range invalid() {
		for i := range 4 {
			l := packAll([]string{"1", "", sample(20), "0"})
			l[i] = bad
			wantNotJoined(t, what, l, api.ErrForm, i)
			wantNotJoined(t, what+" twice", append(l, bad), api.ErrForm, i)
		}
		wantNotJoined(t, what+" behind too much", []api.Bits{full, full, bad}, api.ErrForm, 2)
		many := make([]api.Bits, api.MaxStrings+1)
		many[0] = bad
		wantNotJoined(t, what+" among too many", many, api.ErrTooMany, -1)
		wantNotJoined(t, what+" at the end", append(make([]api.Bits, api.MaxStrings-1), bad), api.ErrForm, api.MaxStrings-1)
	}
	wantNotJoined(t, "empty strings", make([]api.Bits, api.MaxStrings+1), api.ErrTooMany, -1)
	wantNotJoined(t, "one bit more", []api.Bits{full, pack("0")}, api.ErrTooLarge, -1)
	wantNotJoined(t, "one bit more", []api.Bits{pack("1"), {}, full}, api.ErrTooLarge, -1)
	all := make([]api.Bits, api.MaxStrings)
	for i := range all {
		all[i] = full
	}
	wantNotJoined(t, "full strings", all, api.ErrTooLarge, -1)
	wantNotJoined(t, "too many full strings", append(all, full), api.ErrTooMany, -1)
}

func TestSlice(t *testing.T) {
	for _, text := range []string{"", "1", "10011", strings.Repeat("1", 40), sample(64), sample(77)} {
		for from := range len(text) + 1 {
			for to := from; to <= len(text); to++ {
				b, f := bits.Slice(pack(text), from, to)
				wantBits(t, fmt.Sprintf("%s from %d to %d", text, from, to), b, f, text[from:to])
			}
		}
	}
	b, f := bits.Slice(pack("10011"), 1, 4)
	wantBits(t, "the example", b, f, "001")
}

func TestSliceOfLongStrings(t *testing.T) {
	text := sample(api.MaxBits)
	for _, from := range []int{0, 1, 7, 8, 9, api.MaxBits / 2, api.MaxBits - 9, api.MaxBits} {
		for _, to := range []int{from, api.MaxBits - 1, api.MaxBits} {
			if to >= from {
				b, f := bits.Slice(pack(text), from, to)
				wantBits(t, fmt.Sprintf("from %d to %d", from, to), b, f, text[from:to])
			}
		}
	}
}

func TestSliceErrors(t *testing.T) {
	for _, c := range []struct{ from, to, index int }{
		{-1, 3, -2}, {6, 6, -2}, {6, 5, -2}, {-1, -1, -2}, {-1, 9, -2}, {math.MinInt, 0, -2}, {math.MaxInt, math.MaxInt, -2},
		{0, 6, -3}, {0, -1, -3}, {3, 2, -3}, {5, 4, -3}, {5, 6, -3}, {5, 0, -3}, {0, math.MaxInt, -3}, {0, math.MinInt, -3},
	} {
		b, f := bits.Slice(pack("10011"), c.from, c.to)
		wantNoBits(t, fmt.Sprintf("from %d to %d", c.from, c.to), b, f, api.ErrRange, c.index)
	}
	for what, bad := range invalid() {
		for _, c := range [][2]int{{0, 0}, {0, 1}, {-1, 0}, {1, 0}} {
			b, f := bits.Slice(bad, c[0], c[1])
			wantNoBits(t, what, b, f, api.ErrForm, -1)
		}
	}
}

// roomy returns a bit string whose bytes are a part of longer memory, and this memory.
func roomy(text string) (api.Bits, []byte) {
	b := pack(text)
	memory := append(bytes.Clone(b.Data), bytes.Repeat([]byte{0xa5}, 20)...)
	return api.Bits{Data: memory[:len(b.Data)], Count: b.Count}, memory
}

// The results must not change with the argument, nor the argument or its spare capacity with the results.
func TestNoSharedMemory(t *testing.T) {
	for n := range 40 {
		b, memory := roomy(sample(n))
		before := bytes.Clone(memory)
		results := resultsOf(t, b)
		if !bytes.Equal(memory, before) {
			t.Fatalf("%d bits: an argument or its spare capacity was changed", n)
		}
		kept := resultsOf(t, b)
		clear(memory)
		for i := range results {
			if !same(results[i], kept[i]) {
				t.Fatalf("%d bits: result %d shares memory with the argument", n, i)
			}
		}
		copy(memory, before)
		for i := range results {
			spoil(results[i].Data)
		}
		if !bytes.Equal(memory, before) {
			t.Fatalf("%d bits: the argument shares memory with a result", n)
		}
	}
}

// spoil changes all bytes of a slice and of its spare capacity.
func spoil(data []byte) {
	data = data[:cap(data)]
	for i := range data {
		data[i] ^= 0xff
	}
}

func resultsOf(t *testing.T, b api.Bits) []api.Bits {
	t.Helper()
	var results []api.Bits
	keep := func(out api.Bits, f api.Fault) {
		t.Helper()
		wantFault(t, "a call", f, api.OK, 0)
		results = append(results, out)
	}
	keep(bits.Append(b, 0, 0))
	keep(bits.Append(b, 1, 1))
	keep(bits.Append(b, 1000, 32))
	keep(bits.AppendGamma(b, 1))
	keep(bits.AppendGamma(b, greatest))
	keep(bits.Join([]api.Bits{b}))
	keep(bits.Join([]api.Bits{{}, b, {}}))
	keep(bits.Join([]api.Bits{b, b}))
	keep(bits.Slice(b, 0, b.Count))
	keep(bits.Slice(b, b.Count/2, b.Count))
	keep(bits.Slice(b, 0, 0))
	bits.Read(b, 0, b.Count)
	bits.ReadGamma(b, 0)
	bits.Text(b)
	return results
}

// A bit string that was extended twice must not have changed in between.
func TestBitStringsCanBeUsedAgain(t *testing.T) {
	base, f := bits.Append(pack("1"), 5, 20)
	wantFault(t, "Append", f, api.OK, 0)
	ones, f := bits.Append(base, 1<<32-1, 32)
	wantBits(t, "ones", ones, f, "1"+digits(5, 20)+strings.Repeat("1", 32))
	zeros, f := bits.Append(base, 0, 32)
	wantBits(t, "zeros", zeros, f, "1"+digits(5, 20)+strings.Repeat("0", 32))
	wantBits(t, "ones again", ones, api.Fault{}, "1"+digits(5, 20)+strings.Repeat("1", 32))
	wantBits(t, "the base", base, api.Fault{}, "1"+digits(5, 20))
}

func TestNilAndEmptyAreEquivalent(t *testing.T) {
	empty := api.Bits{Data: []byte{}}
	for _, b := range []api.Bits{{}, empty} {
		out, f := bits.Append(b, 3, 2)
		wantBits(t, "Append", out, f, "11")
		out, f = bits.AppendGamma(b, 3)
		wantBits(t, "AppendGamma", out, f, "011")
		out, f = bits.Append(b, 0, 0)
		wantBits(t, "Append of nothing", out, f, "")
		out, f = bits.Slice(b, 0, 0)
		wantBits(t, "Slice", out, f, "")
		out, f = bits.Join([]api.Bits{b, b})
		wantBits(t, "Join", out, f, "")
		text, f := bits.Text(b)
		wantFault(t, "Text", f, api.OK, 0)
		if text != "" {
			t.Errorf("Text: got %q", text)
		}
		wantNoNumber(t, "ReadGamma", b, 0, api.ErrTruncated, -2)
	}
}
