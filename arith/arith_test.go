package arith_test

import (
	"fmt"
	"math"
	"math/big"
	"slices"
	"strings"
	"sync"
	"testing"

	"scriptorium/api"
	"scriptorium/arith"
	"scriptorium/bits"
)

const (
	maxChoices = 8 * api.MaxBlock
	maxPending = api.MaxBits - 16
	maxAt      = api.MaxBits + 14
)

// exact is an independent coder. It has no pending bits: base is the number that stands for 0 in the
// range, and has a digit more for each doubling, so that it contains all bits of the code so far.
type exact struct {
	low, high int
	base      *big.Int
	doublings int
	settled   int // doublings up to the last one that was not around the middle
}

func newExact() *exact {
	return &exact{low: 0, high: 65535, base: new(big.Int)}
}

// exactFrom returns the coder whose doublings so far were all around the middle.
func exactFrom(c api.Coder) *exact {
	base := big.NewInt(1)
	base.Lsh(base, uint(c.Pending)).Sub(base, big.NewInt(1)).Mul(base, big.NewInt(32768))
	return &exact{low: c.Low, high: c.High, base: base, doublings: c.Pending}
}

func (e *exact) ones(p int) int {
	return (e.high - e.low + 1) * p / 4096
}

func (e *exact) choose(bit, p int) {
	if n := e.ones(p); bit == 1 {
		e.high = e.low + n - 1
	} else {
		e.low += n
	}
	for {
		offset := 0
		switch {
		case e.low>>15 == e.high>>15:
			offset = e.low >> 15 << 15
			e.settled = e.doublings + 1
		case e.low>>14 == 1 && e.high>>14 == 2:
			offset = 1 << 14
		default:
			return
		}
		e.doublings++
		e.base.Add(e.base, big.NewInt(int64(offset))).Lsh(e.base, 1)
		e.low, e.high = 2*e.low-2*offset, 2*e.high-2*offset+1
	}
}

func (e *exact) pending() int {
	return e.doublings - e.settled
}

func (e *exact) coder() api.Coder {
	return api.Coder{Low: e.low, High: e.high, Pending: e.pending()}
}

// digits returns the first digits of a number of 16 digits more than there were doublings.
func (e *exact) digits(n *big.Int, count int) string {
	text := n.Text(2)
	return (strings.Repeat("0", 16+e.doublings-min(len(text), 16+e.doublings)) + text)[:count]
}

// certain returns the bits that are the same for all numbers in the range.
func (e *exact) certain() string {
	return e.digits(e.base, e.settled)
}

func (e *exact) code() string {
	end := int64(32768)
	if e.low < 16384 {
		end = 16384
	}
	return e.digits(new(big.Int).Add(e.base, big.NewInt(end)), e.doublings+2)
}

// value returns the number in the range that a code stands for.
func (e *exact) value(code string) int {
	window := (code + strings.Repeat("0", 16+e.doublings))[:16+e.doublings]
	n, _ := new(big.Int).SetString(window, 2)
	return int(n.Sub(n, e.base).Int64())
}

// expectedCode returns the code of choices.
func expectedCode(l []api.Choice) string {
	e := newExact()
	for _, c := range l {
		e.choose(c.Bit, c.P)
	}
	return e.code()
}

// expectedBits returns the bits that a code stands for, and how many bits a code of them has.
func expectedBits(code string, ps []int) ([]int, int) {
	e := newExact()
	var l []int
	for _, p := range ps {
		bit := 0
		if e.value(code)-e.low < e.ones(p) {
			bit = 1
		}
		e.choose(bit, p)
		l = append(l, bit)
	}
	return l, e.doublings + 2
}

// noise returns n numbers from 0 to limit - 1 without a simple period.
func noise(n, limit int) []int {
	l := make([]int, n)
	x := uint64(n*limit + 1)
	for i := range l {
		x = x*6364136223846793005 + 1442695040888963407
		l[i] = int(x>>33) % limit
	}
	return l
}

// evens returns choices of bits that are as probable as not.
func evens(bits []int) []api.Choice {
	var l []api.Choice
	for _, bit := range bits {
		l = append(l, api.Choice{Bit: bit, P: 2048})
	}
	return l
}

// parts returns the bits and the probabilities of choices.
func parts(l []api.Choice) (bits, ps []int) {
	for _, c := range l {
		bits = append(bits, c.Bit)
		ps = append(ps, c.P)
	}
	return bits, ps
}

// random returns n choices with bits that mostly are as probable as their probabilities say.
func random(n int) []api.Choice {
	var l []api.Choice
	for i, r := range noise(n, 4096) {
		p := 1 + (r*31+i*17)%4095
		bit := 0
		if (r*57+i)%4096 < p {
			bit = 1
		}
		l = append(l, api.Choice{Bit: bit, P: p})
	}
	return l
}

// waiting returns choices that leave more and more bits pending: each pair of them is a doubling around
// the middle for 11 times, and leads back to the whole range.
func waiting(n int) []api.Choice {
	pair := []api.Choice{{Bit: 0, P: 2047}, {Bit: 1, P: 4}}
	return slices.Repeat(pair, (n+1)/2)[:n]
}

func samples() map[string][]api.Choice {
	const n = 300
	same := func(bit, p int) []api.Choice { return slices.Repeat([]api.Choice{{Bit: bit, P: p}}, n) }
	return map[string][]api.Choice{
		"nothing":                  nil,
		"even bits":                evens(noise(n, 2)),
		"random bits":              random(n),
		"likely ones":              same(1, 4095),
		"likely zeros":             same(0, 1),
		"unlikely ones":            same(1, 1),
		"unlikely zeros":           same(0, 4095),
		"the extremes":             extremes(n),
		"any bits":                 anything(n),
		"bits that wait":           waiting(n),
		"an odd number that waits": waiting(n - 1),
		"waiting, settled by 0":    append(waiting(20), api.Choice{Bit: 1, P: 2048}),
		"waiting, settled by 1":    append(waiting(20), api.Choice{Bit: 0, P: 2048}),
	}
}

// extremes returns bits with the least and the greatest probability.
func extremes(n int) []api.Choice {
	var l []api.Choice
	for _, r := range noise(n, 4) {
		l = append(l, api.Choice{Bit: r % 2, P: []int{1, 4095}[r/2]})
	}
	return l
}

// anything returns bits that have nothing to do with their probabilities.
func anything(n int) []api.Choice {
	var l []api.Choice
	for _, r := range noise(n, 2*4095) {
		l = append(l, api.Choice{Bit: r % 2, P: 1 + r/2})
	}
	return l
}

// wideRanges returns ranges at the limits of wide ones, and some between them.
func wideRanges() [][2]int {
	var l [][2]int
	lows := append([]int{0, 1, 2, 8191, 8192, 16382, 16383, 16384, 16385, 24576, 32764, 32765, 32766, 32767}, noise(20, 32768)...)
	highs := append([]int{32768, 32769, 32770, 32771, 40959, 49150, 49151, 49152, 49153, 57344, 65533, 65534, 65535}, noise(20, 32767)...)
	for _, low := range lows {
		for _, high := range highs {
			if high < 32768 {
				high += 32768
			}
			if low < 16384 || high >= 49152 {
				l = append(l, [2]int{low, high})
			}
		}
	}
	return l
}

var probabilities = []int{1, 2, 3, 4, 5, 7, 100, 1023, 1024, 1025, 2047, 2048, 2049, 2730, 2731, 3071, 3072, 4000, 4092, 4093, 4094, 4095}

func made(t *testing.T, text string) api.Bits {
	t.Helper()
	b, f := bits.Make(text)
	if f != (api.Fault{}) {
		t.Fatalf("bits.Make: %v", f)
	}
	return b
}

// characters returns the bits of a result, which must be valid.
func characters(t *testing.T, b api.Bits) string {
	t.Helper()
	text, f := bits.Text(b)
	if f != (api.Fault{}) {
		t.Fatalf("a result is not valid: count %d, %d bytes", b.Count, len(b.Data))
	}
	return text
}

// short returns a text as it may stand in a message.
func short(text string) string {
	if len(text) > 200 {
		return fmt.Sprintf("%s.. (%d)", text[:200], len(text))
	}
	return text
}

func wantFault(t *testing.T, what string, got api.Fault, code, index int) {
	t.Helper()
	if got != (api.Fault{Code: code, Index: index}) {
		t.Errorf("%s: got %v, want {%d %d}", what, got, code, index)
	}
}

func wantEncoded(t *testing.T, what string, l []api.Choice, want string) api.Bits {
	t.Helper()
	b, f := arith.Encode(l)
	wantFault(t, what, f, api.OK, 0)
	if got := characters(t, b); got != want {
		t.Fatalf("%s: the code is %s, want %s", what, short(got), short(want))
	}
	return b
}

func wantDecoded(t *testing.T, what string, code api.Bits, ps, want []int) {
	t.Helper()
	got, f := arith.Decode(code, ps)
	wantFault(t, what, f, api.OK, 0)
	if !slices.Equal(got, want) {
		t.Errorf("%s: the decoded bits are wrong", what)
	}
}

func wantNotDecoded(t *testing.T, what string, code api.Bits, ps []int, errorCode, index int) {
	t.Helper()
	got, f := arith.Decode(code, ps)
	wantFault(t, what, f, errorCode, index)
	if len(got) != 0 {
		t.Errorf("%s: %d bits beside a fault", what, len(got))
	}
}

// wantDecodedAsExpected compares Decode with the independent coder, whether the code is right or not.
func wantDecodedAsExpected(t *testing.T, what, code string, ps []int) {
	t.Helper()
	want, size := expectedBits(code, ps)
	switch b := made(t, code); {
	case len(code) < size:
		wantNotDecoded(t, what, b, ps, api.ErrTruncated, -1)
	case len(code) > size:
		wantNotDecoded(t, what, b, ps, api.ErrCorrupt, -1)
	default:
		wantDecoded(t, what, b, ps, want)
	}
}

func wantPut(t *testing.T, what string, c api.Coder, bit, p int, want api.Coder, text string) {
	t.Helper()
	got, b, f := arith.Put(c, bit, p)
	wantFault(t, what, f, api.OK, 0)
	if added := characters(t, b); got != want || added != text {
		t.Fatalf("%s: got %v and %s, want %v and %s", what, got, short(added), want, short(text))
	}
}

func wantNotPut(t *testing.T, what string, c api.Coder, bit, p, code, index int) {
	t.Helper()
	got, b, f := arith.Put(c, bit, p)
	wantFault(t, what, f, code, index)
	if got != (api.Coder{}) || b.Count != 0 || len(b.Data) != 0 {
		t.Errorf("%s: results beside a fault", what)
	}
}

func wantFinished(t *testing.T, what string, c api.Coder, want string) {
	t.Helper()
	b, f := arith.Finish(c)
	wantFault(t, what, f, api.OK, 0)
	if got := characters(t, b); got != want {
		t.Errorf("%s: got %s, want %s", what, short(got), short(want))
	}
}

func wantGot(t *testing.T, what string, d api.Decoder, code api.Bits, p, bit int, want api.Decoder) {
	t.Helper()
	got, next, f := arith.Get(d, code, p)
	wantFault(t, what, f, api.OK, 0)
	if got != bit || next != want {
		t.Fatalf("%s: got %d and %v, want %d and %v", what, got, next, bit, want)
	}
}

func wantNotGot(t *testing.T, what string, d api.Decoder, code api.Bits, p, errorCode, index int) {
	t.Helper()
	bit, next, f := arith.Get(d, code, p)
	wantFault(t, what, f, errorCode, index)
	if bit != 0 || next != (api.Decoder{}) {
		t.Errorf("%s: results beside a fault", what)
	}
}

func TestStart(t *testing.T) {
	if got := arith.Start(); got != (api.Coder{Low: 0, High: 65535}) {
		t.Errorf("got %v", got)
	}
}

// Worked out by hand.
func TestPut(t *testing.T) {
	for _, c := range []struct {
		from   api.Coder
		bit, p int
		want   api.Coder
		text   string
	}{
		{api.Coder{High: 65535}, 1, 2048, api.Coder{High: 65535}, "0"},
		{api.Coder{High: 65535}, 0, 2048, api.Coder{High: 65535}, "1"},
		{api.Coder{High: 65535}, 1, 1, api.Coder{High: 65535}, "000000000000"},
		{api.Coder{High: 65535}, 0, 4095, api.Coder{High: 65535}, "111111111111"},
		{api.Coder{High: 65535}, 0, 1, api.Coder{Low: 16, High: 65535}, ""},
		{api.Coder{High: 65535}, 1, 4095, api.Coder{High: 65519}, ""},
		{api.Coder{High: 65535}, 1, 1024, api.Coder{High: 65535}, "00"},
		{api.Coder{High: 65535}, 0, 3072, api.Coder{High: 65535}, "11"},
		{api.Coder{High: 65535}, 1, 2049, api.Coder{High: 32783}, ""},
		{api.Coder{High: 65535}, 0, 2047, api.Coder{Low: 32752, High: 65535}, ""},
		// Around the middle, where the range is between the quarters.
		{api.Coder{Low: 16384, High: 65535}, 1, 2048, api.Coder{Low: 0, High: 49151, Pending: 1}, ""},
		{api.Coder{Low: 20000, High: 65535}, 1, 2048, api.Coder{Low: 7232, High: 52767, Pending: 1}, ""},
		{api.Coder{Low: 32752, High: 65535}, 1, 4, api.Coder{High: 65535, Pending: 11}, ""},
		{api.Coder{Low: 32766, High: 65535, Pending: 3}, 1, 1, api.Coder{Low: 24576, High: 57343, Pending: 15}, ""},
		{api.Coder{Low: 32766, High: 49152, Pending: 3}, 1, 1, api.Coder{Low: 0, High: 65535, Pending: 17}, ""},
		// Beside a quarter: the third range alone is between the quarters.
		{api.Coder{Low: 16383, High: 65535}, 1, 2731, api.Coder{Low: 16383, High: 49154}, ""},
		{api.Coder{Low: 16383, High: 65535}, 1, 2730, api.Coder{Low: 16383, High: 49142}, ""},
		{api.Coder{Low: 16384, High: 65535}, 1, 2730, api.Coder{Low: 0, High: 65519, Pending: 1}, ""},
		{api.Coder{Low: 16384, High: 65535}, 1, 2731, api.Coder{Low: 16384, High: 49155}, ""},
		{api.Coder{Low: 16384, High: 49152}, 1, 4095, api.Coder{Low: 0, High: 65519, Pending: 1}, ""},
		// Within one half and between the quarters at the same time: the half comes first.
		{api.Coder{Low: 16384, High: 65535, Pending: 2}, 1, 1024, api.Coder{Low: 0, High: 49151, Pending: 0}, "0111"},
		{api.Coder{Low: 0, High: 49151, Pending: 2}, 0, 3072, api.Coder{Low: 16384, High: 65535}, "1000"},
	} {
		what := fmt.Sprintf("%v, bit %d, probability %d", c.from, c.bit, c.p)
		wantPut(t, what, c.from, c.bit, c.p, c.want, c.text)
	}
}

func TestPutFromWideRanges(t *testing.T) {
	for i, r := range wideRanges() {
		for j, p := range probabilities {
			c := api.Coder{Low: r[0], High: r[1], Pending: (i + j) % 5 * (i % 7)}
			for bit := range 2 {
				e := exactFrom(c)
				e.choose(bit, p)
				wantPut(t, fmt.Sprintf("%v, bit %d, probability %d", c, bit, p), c, bit, p, e.coder(), e.certain())
			}
		}
	}
}

// Settled bits are followed by all pending ones, and those that come behind them wait for themselves.
func TestPutSettlesManyBits(t *testing.T) {
	for _, pending := range []int{0, 1, 2, 7, 8, 9, 1000, 65535, 65536, maxPending - 1, maxPending} {
		c := api.Coder{High: 65535, Pending: pending}
		zeros, ones := strings.Repeat("0", pending), strings.Repeat("1", pending)
		whole := api.Coder{High: 65535}
		what := fmt.Sprint(pending, " pending bits")
		wantPut(t, what, c, 1, 2048, whole, "0"+ones)
		wantPut(t, what, c, 0, 2048, whole, "1"+zeros)
		wantPut(t, what, c, 1, 1, whole, "0"+ones+"00000000000")
		wantPut(t, what, c, 0, 4095, whole, "1"+zeros+"11111111111")
		wantPut(t, what, c, 0, 1, api.Coder{Low: 16, High: 65535, Pending: pending}, "")
		// The part 32764 to 32767, doubled 14 times: no result is longer.
		c = api.Coder{Low: 32764, High: 49152, Pending: pending}
		wantPut(t, what, c, 1, 1, whole, "0"+ones+"1111111111111")
		// The part 16383 to 16386: the half decides a bit, and the middle leaves 12 others pending.
		c = api.Coder{Low: 16383, High: 32768, Pending: pending}
		wantPut(t, what, c, 1, 1, api.Coder{Low: 24576, High: 57343, Pending: 12}, "0"+ones)
	}
}

func TestPutAtTheLimitOfPendingBits(t *testing.T) {
	for _, c := range []struct{ low, high, bit, p, more int }{
		{0, 65535, 0, 1, 0}, {0, 65535, 1, 4095, 0}, {16384, 65535, 1, 2048, 1}, {32752, 65535, 1, 4, 11}, {32766, 65535, 1, 1, 12}, {32766, 49152, 1, 1, 14}, {32766, 49153, 1, 1, 14},
	} {
		for below := -2; below <= 2; below++ {
			from := api.Coder{Low: c.low, High: c.high, Pending: maxPending - c.more - below}
			what := fmt.Sprintf("%v, bit %d, probability %d", from, c.bit, c.p)
			switch {
			case from.Pending > maxPending:
				wantNotPut(t, what, from, c.bit, c.p, api.ErrForm, -1)
			case below < 0:
				wantNotPut(t, what, from, c.bit, c.p, api.ErrTooLarge, -1)
			default:
				e := exactFrom(from)
				e.choose(c.bit, c.p)
				wantPut(t, what, from, c.bit, c.p, e.coder(), "")
				if e.pending() != maxPending-below {
					t.Errorf("%s: the test expects %d pending bits", what, e.pending())
				}
			}
		}
	}
}

// Choices leave bits pending until there are too many; then a bit settles all of them.
func TestPutUntilTooManyBitsWait(t *testing.T) {
	c := arith.Start()
	pairs := maxPending / 11
	for i, choice := range waiting(2 * pairs) {
		next, b, f := arith.Put(c, choice.Bit, choice.P)
		if f != (api.Fault{}) || b.Count != 0 {
			t.Fatalf("choice %d: %v, %d bits", i, f, b.Count)
		}
		c = next
	}
	if c != (api.Coder{High: 65535, Pending: 11 * pairs}) {
		t.Fatalf("%v after %d pairs", c, pairs)
	}
	c, _, _ = arith.Put(c, 0, 2047)
	wantNotPut(t, "one more pair", c, 1, 4, api.ErrTooLarge, -1)
	wantPut(t, "a zero", c, 0, 4, api.Coder{Low: 32, High: 65535}, "1"+strings.Repeat("0", 11*pairs))
}

// badRanges returns ranges that are not wide.
func badRanges() [][2]int {
	return [][2]int{
		{-1, 65535}, {-1, 32768}, {math.MinInt, 65535}, {0, 65536}, {32767, 65536}, {0, math.MaxInt}, {math.MinInt, math.MaxInt},
		{32768, 65535}, {32768, 49152}, {65535, 65535}, {math.MaxInt, 65535}, {math.MaxInt, math.MinInt},
		{0, 32767}, {0, 0}, {0, -1}, {0, math.MinInt}, {16383, 32767}, {32768, 32767}, {65535, 0},
		{16384, 49151}, {16384, 32768}, {32767, 49151}, {32767, 32768}, {20000, 40000},
		{1 << 32, 65535 + 1<<32}, {0, 65535 + 1<<32}, {-1 << 32, 65535},
	}
}

// goodRanges returns wide ranges at the limits.
func goodRanges() [][2]int {
	return [][2]int{{0, 65535}, {0, 32768}, {16383, 32768}, {16383, 49151}, {16384, 49152}, {32767, 49152}, {32767, 65535}, {16384, 65535}}
}

func badCoders() []api.Coder {
	var l []api.Coder
	for _, r := range badRanges() {
		for _, pending := range []int{0, 1, maxPending, -1, maxPending + 1} {
			l = append(l, api.Coder{Low: r[0], High: r[1], Pending: pending})
		}
	}
	for _, r := range goodRanges() {
		for _, pending := range []int{-1, maxPending + 1, api.MaxBits, math.MinInt, math.MaxInt, 1 << 32} {
			l = append(l, api.Coder{Low: r[0], High: r[1], Pending: pending})
		}
	}
	return append(l, api.Coder{})
}

var (
	notBits          = []int{2, -1, 3, 48, 49, 256, 1 << 32, 1<<32 + 1, math.MinInt, math.MaxInt}
	notProbabilities = []int{0, -1, 4096, 4097, 1<<32 + 1, -2048, math.MinInt, math.MaxInt}
)

func TestPutErrors(t *testing.T) {
	for _, c := range badCoders() {
		for _, bit := range []int{0, 1, 2} {
			for _, p := range []int{1, 2048, 4095, 0, 4096} {
				wantNotPut(t, fmt.Sprint(c), c, bit, p, api.ErrForm, -1)
			}
		}
	}
	for _, r := range goodRanges() {
		for _, pending := range []int{0, 1, 100, maxPending - 1, maxPending} {
			c := api.Coder{Low: r[0], High: r[1], Pending: pending}
			for _, bit := range notBits {
				for _, p := range []int{1, 2, 4, 2048, 4095, 0, 4096} {
					wantNotPut(t, fmt.Sprintf("%v, bit %d", c, bit), c, bit, p, api.ErrRange, -2)
				}
			}
			for bit := range 2 {
				for _, p := range notProbabilities {
					wantNotPut(t, fmt.Sprintf("%v, probability %d", c, p), c, bit, p, api.ErrRange, -3)
				}
			}
		}
	}
}

// Worked out by hand.
func TestFinish(t *testing.T) {
	for _, c := range []struct {
		from api.Coder
		want string
	}{
		{api.Coder{High: 65535}, "01"},
		{api.Coder{High: 32768}, "01"},
		{api.Coder{Low: 16383, High: 32768}, "01"},
		{api.Coder{Low: 16383, High: 65535}, "01"},
		{api.Coder{Low: 16384, High: 49152}, "10"},
		{api.Coder{Low: 16384, High: 65535}, "10"},
		{api.Coder{Low: 32767, High: 65535}, "10"},
		{api.Coder{Low: 0, High: 65535, Pending: 1}, "011"},
		{api.Coder{Low: 16383, High: 65535, Pending: 5}, "0111111"},
		{api.Coder{Low: 16384, High: 65535, Pending: 1}, "100"},
		{api.Coder{Low: 32767, High: 49152, Pending: 7}, "100000000"},
		{api.Coder{Low: 0, High: 65535, Pending: maxPending}, "0" + strings.Repeat("1", maxPending+1)},
		{api.Coder{Low: 16384, High: 65535, Pending: maxPending}, "1" + strings.Repeat("0", maxPending+1)},
	} {
		wantFinished(t, fmt.Sprint(c.from), c.from, c.want)
	}
}

func TestFinishOfWideRanges(t *testing.T) {
	for i, r := range wideRanges() {
		c := api.Coder{Low: r[0], High: r[1], Pending: i % 20}
		wantFinished(t, fmt.Sprint(c), c, exactFrom(c).code())
	}
}

func TestFinishErrors(t *testing.T) {
	for _, c := range badCoders() {
		b, f := arith.Finish(c)
		wantFault(t, fmt.Sprint(c), f, api.ErrForm, -1)
		if b.Count != 0 || len(b.Data) != 0 {
			t.Errorf("%v: bits beside a fault", c)
		}
	}
}

// Worked out by hand.
func TestEncodeOfFewBits(t *testing.T) {
	wantEncoded(t, "nil", nil, "01")
	wantEncoded(t, "an empty list", []api.Choice{}, "01")
	wantEncoded(t, "a one", []api.Choice{{Bit: 1, P: 2048}}, "001")
	wantEncoded(t, "a zero", []api.Choice{{Bit: 0, P: 2048}}, "101")
	wantEncoded(t, "an unlikely one", []api.Choice{{Bit: 1, P: 1}}, "00000000000001")
	wantEncoded(t, "an unlikely zero", []api.Choice{{Bit: 0, P: 4095}}, "11111111111101")
	wantEncoded(t, "a likely zero", []api.Choice{{Bit: 0, P: 1}}, "01")
	wantEncoded(t, "a likely one", []api.Choice{{Bit: 1, P: 4095}}, "01")
	wantEncoded(t, "a range in the upper part", []api.Choice{{Bit: 0, P: 1024}}, "10")
	wantEncoded(t, "a pending bit", []api.Choice{{Bit: 0, P: 1024}, {Bit: 1, P: 2730}}, "011")
	wantEncoded(t, "a pending bit that is settled by a one", []api.Choice{{Bit: 0, P: 1024}, {Bit: 1, P: 2730}, {Bit: 0, P: 2080}}, "1001")
	wantEncoded(t, "a pending bit that is settled by a zero", []api.Choice{{Bit: 0, P: 1024}, {Bit: 1, P: 2730}, {Bit: 1, P: 2048}}, "0101")
}

func TestEncode(t *testing.T) {
	for what, l := range samples() {
		wantEncoded(t, what, l, expectedCode(l))
	}
}

// shortLists calls do with all lists of up to three choices with few different probabilities.
func shortLists(do func(what string, l []api.Choice)) {
	ps := []int{1, 2, 700, 1024, 2047, 2048, 2731, 4000, 4095}
	for n := range 4 {
		total := 1
		for range n {
			total *= 2 * len(ps)
		}
		for i := range total {
			var l []api.Choice
			for rest := i; len(l) < n; rest /= 2 * len(ps) {
				l = append(l, api.Choice{Bit: rest % 2, P: ps[rest/2%len(ps)]})
			}
			do(fmt.Sprint(l), l)
		}
	}
}

func TestEncodeOfShortLists(t *testing.T) {
	shortLists(func(what string, l []api.Choice) {
		wantEncoded(t, what, l, expectedCode(l))
	})
}

func TestEncodeJoinsWhatPutAndFinishReturn(t *testing.T) {
	for what, l := range samples() {
		c, e := arith.Start(), newExact()
		var text strings.Builder
		for i, choice := range l {
			e.choose(choice.Bit, choice.P)
			next, b, f := arith.Put(c, choice.Bit, choice.P)
			wantFault(t, what, f, api.OK, 0)
			text.WriteString(characters(t, b))
			if next != e.coder() || text.String() != e.certain() {
				t.Fatalf("%s: after choice %d: %v and %s, want %v and %s", what, i, next, short(text.String()), e.coder(), short(e.certain()))
			}
			c = next
		}
		b, f := arith.Finish(c)
		wantFault(t, what, f, api.OK, 0)
		text.WriteString(characters(t, b))
		wantEncoded(t, what, l, text.String())
	}
}

func TestEncodeAtTheLimit(t *testing.T) {
	for what, l := range map[string][]api.Choice{
		"even bits":         evens(noise(maxChoices, 2)),
		"random bits":       random(maxChoices),
		"any bits":          anything(maxChoices),
		"the extremes":      extremes(maxChoices),
		"bits that wait":    waiting(maxChoices),
		"no doubled ranges": slices.Repeat([]api.Choice{{Bit: 1, P: 4095}}, maxChoices),
		"unlikely zeros":    slices.Repeat([]api.Choice{{Bit: 0, P: 4095}}, maxChoices),
	} {
		code := wantEncoded(t, what, l, expectedCode(l))
		want, ps := parts(l)
		wantDecoded(t, what, code, ps, want)
	}
	wantEncoded(t, "pending bits", waiting(maxChoices), "0"+strings.Repeat("1", 11*maxChoices/2+1))
	ones := slices.Repeat([]api.Choice{{Bit: 1, P: 1}}, maxChoices)
	wantEncoded(t, "the most bits", ones, strings.Repeat("0", 12*maxChoices+1)+"1")
}

func TestEncodeErrors(t *testing.T) {
	good := api.Choice{Bit: 1, P: 2048}
	bad := api.Choice{Bit: 2, P: 0}
	wantNotEncoded := func(what string, l []api.Choice, code, index int) {
		t.Helper()
		b, f := arith.Encode(l)
		wantFault(t, what, f, code, index)
		if b.Count != 0 || len(b.Data) != 0 {
			t.Errorf("%s: bits beside a fault", what)
		}
	}
	for _, n := range []int{maxChoices + 1, maxChoices + 2, 3 * maxChoices} {
		wantNotEncoded("too many choices", slices.Repeat([]api.Choice{good}, n), api.ErrTooMany, -1)
		wantNotEncoded("too many bad choices", slices.Repeat([]api.Choice{bad}, n), api.ErrTooMany, -1)
	}
	var bads []api.Choice
	for _, bit := range notBits {
		bads = append(bads, api.Choice{Bit: bit, P: 2048}, api.Choice{Bit: bit, P: 0})
	}
	for _, p := range notProbabilities {
		bads = append(bads, api.Choice{Bit: 0, P: p}, api.Choice{Bit: 1, P: p})
	}
	for _, n := range []int{1, 2, 9, maxChoices} {
		for _, bad := range bads {
			for _, at := range []int{0, n / 2, n - 1} {
				l := slices.Repeat([]api.Choice{good}, n)
				l[at] = bad
				wantNotEncoded(fmt.Sprintf("%v at %d of %d", bad, at, n), l, api.ErrRange, at)
				l[n-1] = api.Choice{Bit: -1, P: -1}
				wantNotEncoded(fmt.Sprintf("%v at %d of %d and another", bad, at, n), l, api.ErrRange, at)
			}
		}
	}
}

// Worked out by hand.
func TestOpen(t *testing.T) {
	for _, c := range []struct {
		code  string
		value int
	}{
		{"00", 0}, {"01", 16384}, {"10", 32768}, {"11", 49152}, {"001", 8192}, {"010", 16384}, {"011", 24576}, {"111", 57344},
		{"0000000000000001", 1}, {"000000000000001", 2}, {"1111111111111111", 65535}, {"111111111111111", 65534},
		{"00000000000000001", 0}, {"11111111111111110", 65535}, {"100000000000000011111111", 32768}, {"100000000000000111111111", 32769},
	} {
		got, f := arith.Open(made(t, c.code))
		wantFault(t, c.code, f, api.OK, 0)
		if want := (api.Decoder{Low: 0, High: 65535, Value: c.value, At: 16}); got != want {
			t.Errorf("%s: got %v, want %v", c.code, got, want)
		}
	}
}

func TestOpenOfAllShortCodes(t *testing.T) {
	for n := 2; n <= 12; n++ {
		for v := range 1 << n {
			code := fmt.Sprintf("%0*b", n, v)
			got, f := arith.Open(made(t, code))
			wantFault(t, code, f, api.OK, 0)
			if got != (api.Decoder{High: 65535, Value: v << (16 - n), At: 16}) {
				t.Errorf("%s: got %v", code, got)
			}
		}
	}
}

func TestOpenAtTheLimit(t *testing.T) {
	code := made(t, "01"+strings.Repeat("1", api.MaxBits-2))
	got, f := arith.Open(code)
	wantFault(t, "a code of MaxBits bits", f, api.OK, 0)
	if got != (api.Decoder{High: 65535, Value: 32767, At: 16}) {
		t.Errorf("got %v", got)
	}
}

// badBits returns bit strings that are not valid.
func badBits() []api.Bits {
	return []api.Bits{
		{Count: -1}, {Count: 1}, {Data: []byte{0}}, {Data: []byte{0x10}, Count: 3}, {Data: []byte{1}, Count: 7}, {Data: []byte{0, 0}, Count: 8}, {Data: []byte{64}, Count: 9},
		{Data: []byte{64}, Count: -1}, {Data: []byte{255}, Count: 1}, {Count: math.MaxInt}, {Count: math.MinInt}, {Data: make([]byte, 5), Count: 48}, {Data: make([]byte, 6), Count: 40},
		{Data: make([]byte, api.MaxBits/8+1), Count: api.MaxBits + 1}, {Data: make([]byte, api.MaxBits/8), Count: api.MaxBits + 1},
	}
}

func TestOpenErrors(t *testing.T) {
	wantNotOpened := func(what string, code api.Bits, errorCode int) {
		t.Helper()
		d, f := arith.Open(code)
		wantFault(t, what, f, errorCode, -1)
		if d != (api.Decoder{}) {
			t.Errorf("%s: a state beside a fault", what)
		}
	}
	for i, code := range badBits() {
		wantNotOpened(fmt.Sprint("bad bits ", i), code, api.ErrForm)
	}
	for _, text := range []string{"", "0", "1"} {
		wantNotOpened(text, made(t, text), api.ErrTruncated)
	}
}

// Worked out by hand.
func TestGet(t *testing.T) {
	for _, c := range []struct {
		from api.Decoder
		code string
		p    int
		bit  int
		want api.Decoder
	}{
		{api.Decoder{High: 65535, Value: 8192, At: 16}, "001", 2048, 1, api.Decoder{High: 65535, Value: 16384, At: 17}},
		{api.Decoder{High: 65535, Value: 32767, At: 16}, "001", 2048, 1, api.Decoder{High: 65535, Value: 65534, At: 17}},
		{api.Decoder{High: 65535, Value: 32768, At: 16}, "001", 2048, 0, api.Decoder{High: 65535, Value: 0, At: 17}},
		{api.Decoder{High: 65535, Value: 15, At: 16}, "00000000000011111010101", 1, 1, api.Decoder{High: 65535, Value: 15<<12 | 0b1010101<<5, At: 28}},
		{api.Decoder{High: 65535, Value: 16, At: 16}, "01", 1, 0, api.Decoder{Low: 16, High: 65535, Value: 16, At: 16}},
		{api.Decoder{High: 65535, Value: 65519, At: 16}, "01", 4095, 1, api.Decoder{High: 65519, Value: 65519, At: 16}},
		{api.Decoder{High: 65535, Value: 65520, At: 16}, "11111111111101", 4095, 0, api.Decoder{High: 65535, Value: 0, At: 28}},
		// The next bit is the one at At, whatever the bits before it are.
		{api.Decoder{High: 65535, Value: 100, At: 17}, strings.Repeat("1", 17) + "0", 2048, 1, api.Decoder{High: 65535, Value: 200, At: 18}},
		{api.Decoder{High: 65535, Value: 100, At: 17}, strings.Repeat("0", 17) + "1", 2048, 1, api.Decoder{High: 65535, Value: 201, At: 18}},
		// Around the middle, between the quarters.
		{api.Decoder{Low: 16384, High: 65535, Value: 40959, At: 16}, "10011111111111111", 2048, 1, api.Decoder{Low: 0, High: 49151, Value: 49151, At: 17}},
		{api.Decoder{Low: 16384, High: 65535, Value: 16384, At: 16}, "01000000000000001", 2048, 1, api.Decoder{Low: 0, High: 49151, Value: 1, At: 17}},
		{api.Decoder{Low: 16384, High: 65535, Value: 40960, At: 16}, "10", 2048, 0, api.Decoder{Low: 16384, High: 65535, Value: 16384, At: 17}},
	} {
		if c.want.At > len(c.code)+14 {
			c.code += strings.Repeat("0", c.want.At-14-len(c.code))
		}
		wantGot(t, fmt.Sprintf("%v of %s, probability %d", c.from, c.code, c.p), c.from, made(t, c.code), c.p, c.bit, c.want)
	}
}

// expectedGet returns the result of Get.
func expectedGet(d api.Decoder, code string, p int) (int, api.Decoder) {
	e := &exact{low: d.Low, high: d.High, base: new(big.Int)}
	bit := 0
	if d.Value-d.Low < e.ones(p) {
		bit = 1
	}
	e.choose(bit, p)
	next := strings.Repeat("0", d.At) + code[min(d.At, len(code)):] + strings.Repeat("0", e.doublings)
	window := fmt.Sprintf("%016b", d.Value) + next[d.At:d.At+e.doublings]
	n, _ := new(big.Int).SetString(window, 2)
	value := int(n.Sub(n, e.base).Int64())
	return bit, api.Decoder{Low: e.low, High: e.high, Value: value, At: d.At + e.doublings}
}

func TestGetFromWideRanges(t *testing.T) {
	digits := make([]byte, 60)
	for i, n := range noise(len(digits), 2) {
		digits[i] = '0' + byte(n)
	}
	code := string(digits)
	whole := made(t, code)
	for i, r := range wideRanges() {
		for j, p := range probabilities {
			split := r[0] + (r[1]-r[0]+1)*p/4096 - 1
			for k, value := range []int{r[0], split, split + 1, r[1], r[0] + noise(200, r[1]-r[0]+1)[j]} {
				d := api.Decoder{Low: r[0], High: r[1], Value: value, At: 16 + (i+j+k)%45}
				bit, want := expectedGet(d, code, p)
				wantGot(t, fmt.Sprintf("%v, probability %d", d, p), d, whole, p, bit, want)
			}
		}
	}
}

// The state may be 14 bits behind the end of the code, and no more; the bits there are zeros.
func TestGetAtTheEndOfTheCode(t *testing.T) {
	for i, r := range wideRanges() {
		p := probabilities[i%len(probabilities)]
		for _, at := range []int{16, 17, 29, 30, 31, 50} {
			d := api.Decoder{Low: r[0], High: r[1], Value: r[i%2], At: at}
			long := strings.Repeat("1", 80)
			_, next := expectedGet(d, long, p)
			for count := at - 16; count < at+20; count++ {
				code := made(t, long[:count])
				what := fmt.Sprintf("%v of %d bits, probability %d", d, count, p)
				if next.At > count+14 {
					wantNotGot(t, what, d, code, p, api.ErrTruncated, -2)
				} else {
					bit, want := expectedGet(d, long[:count], p)
					wantGot(t, what, d, code, p, bit, want)
				}
			}
		}
	}
}

func TestGetAtTheLimit(t *testing.T) {
	code := made(t, strings.Repeat("1", api.MaxBits))
	d := api.Decoder{Low: 0, High: 65535, Value: 65519, At: maxAt}
	wantGot(t, "no doubling", d, code, 4095, 1, api.Decoder{Low: 0, High: 65519, Value: 65519, At: maxAt})
	wantNotGot(t, "a doubling", d, code, 2048, api.ErrTruncated, -2)
	wantNotGot(t, "a shorter code", d, made(t, strings.Repeat("1", api.MaxBits-1)), 4095, api.ErrTruncated, -2)
	wantNotGot(t, "no code", d, api.Bits{}, 4095, api.ErrTruncated, -2)
	d.At = api.MaxBits - 1
	wantGot(t, "the last bit", d, code, 2048, 0, api.Decoder{Low: 0, High: 65535, Value: 2*(65519-32768) + 1, At: api.MaxBits})
	d.At = api.MaxBits
	wantGot(t, "a bit behind the last one", d, code, 2048, 0, api.Decoder{Low: 0, High: 65535, Value: 2 * (65519 - 32768), At: api.MaxBits + 1})
}

func badDecoders() []api.Decoder {
	var l []api.Decoder
	for _, r := range badRanges() {
		l = append(l, api.Decoder{Low: r[0], High: r[1], Value: r[0], At: 16}, api.Decoder{Low: r[0], High: r[1], Value: r[1], At: 16}, api.Decoder{Low: r[0], High: r[1], Value: 32768, At: 16})
	}
	for _, r := range goodRanges() {
		for _, value := range []int{r[0] - 1, r[1] + 1, -1, 65536, math.MinInt, math.MaxInt, r[0] + 1<<32} {
			l = append(l, api.Decoder{Low: r[0], High: r[1], Value: value, At: 16}, api.Decoder{Low: r[0], High: r[1], Value: value, At: maxAt})
		}
		for _, at := range []int{15, 0, -1, maxAt + 1, math.MinInt, math.MaxInt, 16 + 1<<32} {
			l = append(l, api.Decoder{Low: r[0], High: r[1], Value: r[0], At: at}, api.Decoder{Low: r[0], High: r[1], Value: r[1], At: at})
		}
	}
	return append(l, api.Decoder{})
}

func TestGetErrors(t *testing.T) {
	good := []api.Bits{made(t, "01"), made(t, strings.Repeat("01", 100)), {}}
	for _, d := range badDecoders() {
		for _, code := range append(badBits()[:3], good...) {
			for _, p := range []int{1, 2048, 4095, 0, 4096} {
				wantNotGot(t, fmt.Sprint(d), d, code, p, api.ErrForm, -1)
			}
		}
	}
	for _, r := range goodRanges() {
		for _, value := range r {
			for _, at := range []int{16, 17, maxAt} {
				d := api.Decoder{Low: r[0], High: r[1], Value: value, At: at}
				for i, code := range badBits() {
					for _, p := range []int{1, 2048, 4095, 0, 4096} {
						wantNotGot(t, fmt.Sprint(d, " of bad bits ", i), d, code, p, api.ErrForm, -2)
					}
				}
				for _, code := range good {
					for _, p := range notProbabilities {
						wantNotGot(t, fmt.Sprint(d, " with probability ", p), d, code, p, api.ErrRange, -3)
					}
				}
			}
		}
	}
}

func TestGetDecodesBitAfterBit(t *testing.T) {
	for what, l := range samples() {
		text := expectedCode(l)
		code := made(t, text)
		d, f := arith.Open(code)
		wantFault(t, what, f, api.OK, 0)
		e := newExact()
		for i, choice := range l {
			e.choose(choice.Bit, choice.P)
			want := api.Decoder{Low: e.low, High: e.high, Value: e.value(text), At: 16 + e.doublings}
			wantGot(t, fmt.Sprintf("%s, bit %d", what, i), d, code, choice.P, choice.Bit, want)
			d = want
		}
		if d.At != code.Count+14 {
			t.Errorf("%s: the last state is at %d of %d bits", what, d.At, code.Count)
		}
	}
}

func TestDecode(t *testing.T) {
	for what, l := range samples() {
		want, ps := parts(l)
		wantDecoded(t, what, made(t, expectedCode(l)), ps, want)
	}
	shortLists(func(what string, l []api.Choice) {
		want, ps := parts(l)
		wantDecoded(t, what, made(t, expectedCode(l)), ps, want)
	})
}

func TestDecodeOfNothing(t *testing.T) {
	for _, ps := range [][]int{nil, {}} {
		for _, code := range []string{"00", "01", "10", "11"} {
			wantDecoded(t, code, made(t, code), ps, nil)
		}
		for _, code := range []string{"", "0", "1"} {
			wantNotDecoded(t, code, made(t, code), ps, api.ErrTruncated, -1)
		}
		for _, code := range []string{"000", "010", "011", "111", "0100000000000000", "01000000000000000", strings.Repeat("0", api.MaxBits)} {
			wantNotDecoded(t, short(code), made(t, code), ps, api.ErrCorrupt, -1)
		}
	}
}

// All codes of up to nine bits, right and wrong ones.
func TestDecodeOfAllShortCodes(t *testing.T) {
	for _, ps := range [][]int{nil, {2048}, {1}, {4095}, {1024, 2731}, {2047, 4}, {2047, 4, 2048}, {3, 3000, 2000}, {2048, 2048, 2048, 2048}, {1000, 2000, 3000, 1, 4095}, slices.Repeat([]int{4095}, 40)} {
		for n := range 10 {
			for v := range 1 << n {
				code := fmt.Sprintf("%0*b", n, v)[:n]
				wantDecodedAsExpected(t, fmt.Sprintf("%s with %v", code, ps), code, ps)
			}
		}
	}
}

func TestDecodeOfCodesWithOneBitMore(t *testing.T) {
	for what, l := range samples() {
		_, ps := parts(l)
		text := expectedCode(l)
		for _, more := range []string{"0", "1", "00", "01", "10", "11", strings.Repeat("0", 14), strings.Repeat("1", 15), strings.Repeat("1", 100)} {
			wantNotDecoded(t, what+" and "+more, made(t, text+more), ps, api.ErrCorrupt, -1)
		}
	}
}

func TestDecodeOfCodesWithOneBitLess(t *testing.T) {
	for what, l := range samples() {
		_, ps := parts(l)
		text := expectedCode(l)
		for less := 1; less <= min(20, len(text)); less++ {
			wantDecodedAsExpected(t, fmt.Sprintf("%s without %d bits", what, less), text[:len(text)-less], ps)
		}
		// A zero at the end is no loss to the value, so that all bits are decoded, but one bit too late.
		if strings.HasSuffix(text, "0") {
			wantNotDecoded(t, what+" without the last bit", made(t, text[:len(text)-1]), ps, api.ErrTruncated, -1)
		}
	}
	wantNotDecoded(t, "001 without the last bit", made(t, "00"), []int{2048}, api.ErrTruncated, -1)
	wantNotDecoded(t, "101 without the last bit", made(t, "10"), []int{2048}, api.ErrTruncated, -1)
}

// Several codes can stand for the same bits; the last two bits are not compared.
func TestDecodeOfCodesThatDifferInTheirLastBits(t *testing.T) {
	same := 0
	for what, l := range samples() {
		want, ps := parts(l)
		text := expectedCode(l)
		for _, last := range []string{"00", "01", "10", "11"} {
			code := text[:len(text)-2] + last
			wantDecodedAsExpected(t, what+" with "+last, code, ps)
			if got, _ := expectedBits(code, ps); slices.Equal(got, want) {
				same++
			}
		}
	}
	if same < len(samples())+8 {
		t.Errorf("the samples have %d codes in all", same)
	}
	for _, code := range []string{"000", "001", "010", "011"} {
		wantDecoded(t, code, made(t, code), []int{2048}, []int{1})
	}
	for _, code := range []string{"100", "101", "110", "111"} {
		wantDecoded(t, code, made(t, code), []int{2048}, []int{0})
	}
	wantDecoded(t, "10", made(t, "10"), []int{1024}, []int{0})
	wantDecoded(t, "01", made(t, "01"), []int{1024}, []int{0})
	wantDecoded(t, "11", made(t, "11"), []int{1024}, []int{0})
	wantNotDecoded(t, "00", made(t, "00"), []int{1024}, api.ErrTruncated, -1)
}

// Whatever a code is, as many bits as it has room for are decoded from it.
func TestDecodeOfNoise(t *testing.T) {
	var digits strings.Builder
	for _, n := range noise(700, 2) {
		fmt.Fprint(&digits, n)
	}
	for what, l := range samples() {
		_, ps := parts(l)
		for _, n := range []int{0, 1, 2, 50, 200, 400, 700} {
			wantDecodedAsExpected(t, fmt.Sprintf("%d bits of noise, %s", n, what), digits.String()[:n], ps)
		}
		text := digits.String()
		_, size := expectedBits(text, ps)
		if size <= len(text) {
			wantDecodedAsExpected(t, "noise, "+what, text[:size], ps)
		}
	}
}

func TestDecodeErrors(t *testing.T) {
	long := slices.Repeat([]int{2048}, maxChoices+1)
	for i, code := range badBits() {
		for _, ps := range [][]int{nil, {2048}, {0}, long} {
			wantNotDecoded(t, fmt.Sprint("bad bits ", i), code, ps, api.ErrForm, -1)
		}
	}
	codes := []api.Bits{{}, made(t, "0"), made(t, "01"), made(t, "001"), made(t, strings.Repeat("01", 40))}
	for _, code := range codes {
		for _, ps := range [][]int{long, slices.Repeat([]int{0}, maxChoices+1), slices.Repeat([]int{4096}, 3*maxChoices)} {
			wantNotDecoded(t, "too many probabilities", code, ps, api.ErrTooMany, -2)
		}
		for _, bad := range notProbabilities {
			for _, n := range []int{1, 2, 9, maxChoices} {
				for _, at := range []int{0, n / 2, n - 1} {
					ps := slices.Repeat([]int{2048}, n)
					ps[at] = bad
					what := fmt.Sprintf("probability %d at %d of %d", bad, at, n)
					wantNotDecoded(t, what, code, ps, api.ErrRange, at)
					ps[n-1] = -1
					wantNotDecoded(t, what+" and another", code, ps, api.ErrRange, at)
				}
			}
		}
		wantNotDecoded(t, "a short code", code, long[:maxChoices], api.ErrTruncated, -1)
	}
}

func TestDecodeAtTheLimitOfBits(t *testing.T) {
	ps := slices.Repeat([]int{1}, maxChoices)
	code := made(t, strings.Repeat("0", 12*maxChoices+2))
	wantDecoded(t, "the most bits", code, ps, slices.Repeat([]int{1}, maxChoices))
	wantNotDecoded(t, "one bit more", made(t, strings.Repeat("0", 12*maxChoices+3)), ps, api.ErrCorrupt, -1)
	wantNotDecoded(t, "one bit less", made(t, strings.Repeat("0", 12*maxChoices+1)), ps, api.ErrTruncated, -1)
	wantNotDecoded(t, "MaxBits bits", made(t, strings.Repeat("0", api.MaxBits)), ps, api.ErrCorrupt, -1)
}

// The memory of arguments stays as it is, and no result shares it or that of another result.
func TestNoMemoryIsShared(t *testing.T) {
	l := append(random(50), slices.Repeat([]api.Choice{{Bit: 7, P: 7}}, 50)...)
	before := slices.Clone(l)
	code, _ := arith.Encode(l[:50])
	codeAgain, _ := arith.Encode(l[:50])
	if !slices.Equal(l, before) {
		t.Errorf("Encode changed its argument")
	}
	text := characters(t, code)
	clear(l)
	clear(codeAgain.Data[:cap(codeAgain.Data)])
	if characters(t, code) != text {
		t.Errorf("the code of Encode is shared")
	}
	memory := append(code.Data, slices.Repeat([]byte{77}, 200)...)
	code.Data = memory[:len(code.Data)]
	want, ps := parts(before[:50])
	ps = append(ps, 9, 9, 9)
	memoryBefore, psBefore := slices.Clone(memory), slices.Clone(ps)
	d, _ := arith.Open(code)
	arith.Get(d, code, 2048)
	decoded, _ := arith.Decode(code, ps[:50])
	decodedAgain, _ := arith.Decode(code, ps[:50])
	if !slices.Equal(memory, memoryBefore) || !slices.Equal(ps, psBefore) {
		t.Errorf("a decoder changed its argument")
	}
	clear(memory)
	clear(ps)
	clear(decodedAgain[:cap(decodedAgain)])
	if !slices.Equal(decoded, want) {
		t.Errorf("the bits of Decode are shared")
	}
	_, first, _ := arith.Put(arith.Start(), 0, 4095)
	_, second, _ := arith.Put(arith.Start(), 0, 4095)
	clear(second.Data[:cap(second.Data)])
	if characters(t, first) != "111111111111" {
		t.Errorf("two results of Put share memory")
	}
	first, _ = arith.Finish(arith.Start())
	second, _ = arith.Finish(arith.Start())
	clear(second.Data[:cap(second.Data)])
	if characters(t, first) != "01" {
		t.Errorf("two results of Finish share memory")
	}
}

func TestCallsAtTheSameTime(t *testing.T) {
	l := random(500)
	want, ps := parts(l)
	text := expectedCode(l)
	var all sync.WaitGroup
	for range 8 {
		all.Go(func() {
			code, f := arith.Encode(l)
			if got, _ := bits.Text(code); got != text || f != (api.Fault{}) {
				t.Errorf("Encode: got %s, %v", short(got), f)
			}
			if got, f := arith.Decode(code, ps); !slices.Equal(got, want) || f != (api.Fault{}) {
				t.Errorf("Decode: got %v, %v", got, f)
			}
		})
	}
	all.Wait()
}
