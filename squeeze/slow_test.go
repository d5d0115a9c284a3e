package squeeze_test

import (
	"math/big"
	"slices"
	"strconv"
	"strings"

	"scriptorium/api"
	"scriptorium/lz"
)

// Slow, independent ways to do what the package does, by the definitions alone. Bits are characters 0 and 1.

// digits returns the bits of bytes.
func digits(b []byte) string {
	var out strings.Builder
	for _, c := range b {
		text := strconv.FormatInt(int64(c), 2)
		out.WriteString(strings.Repeat("0", 8-len(text)) + text)
	}
	return out.String()
}

// filled returns the bytes of bits, of which the last one is filled up with zeros.
func filled(digits string) []byte {
	digits += strings.Repeat("0", (8-len(digits)%8)%8)
	out := make([]byte, len(digits)/8)
	for i := range out {
		n, _ := strconv.ParseUint(digits[8*i:8*i+8], 2, 8)
		out[i] = byte(n)
	}
	return out
}

// oracle is the model of order 1.
type oracle struct {
	history string
	counts  map[string][2]int
}

func newOracle() *oracle {
	return &oracle{counts: map[string][2]int{}}
}

// contexts returns those of the orders 0 and 1. The class of a byte consists of its last five bits.
func (o *oracle) contexts() [2]string {
	ahead := len(o.history) / 8 * 8
	class := "00000"
	if ahead > 0 {
		class = o.history[ahead-5 : ahead]
	}
	beginning := o.history[ahead:]
	return [2]string{"anything, " + beginning, class + ", " + beginning}
}

func (o *oracle) predict() int {
	sum, weights := 2048, 1
	for order, context := range o.contexts() {
		n := o.counts[context]
		weight := min(15, n[0]+n[1]) * []int{1, 4}[order]
		sum += (2*n[1] + 1) * 2048 / (n[0] + n[1] + 1) * weight
		weights += weight
	}
	return sum / weights
}

func (o *oracle) learn(bit int) {
	for _, context := range o.contexts() {
		n := o.counts[context]
		n[bit]++
		if n[0]+n[1] == 255 {
			n = [2]int{(n[0] + 1) / 2, (n[1] + 1) / 2}
		}
		o.counts[context] = n
	}
	o.history += strconv.Itoa(bit)
}

// coder is an arithmetic coder without pending bits: base is the number that stands for 0 in the range,
// and has a digit more for each doubling.
type coder struct {
	low, high int
	base      *big.Int
	doublings int
}

func newCoder() *coder {
	return &coder{low: 0, high: 65535, base: new(big.Int)}
}

func (c *coder) ones(p int) int {
	return (c.high - c.low + 1) * p / 4096
}

func (c *coder) choose(bit, p int) {
	if n := c.ones(p); bit == 1 {
		c.high = c.low + n - 1
	} else {
		c.low += n
	}
	for {
		offset := 0
		switch {
		case c.low>>15 == c.high>>15:
			offset = c.low >> 15 << 15
		case c.low>>14 == 1 && c.high>>14 == 2:
			offset = 1 << 14
		default:
			return
		}
		c.doublings++
		c.base.Add(c.base, big.NewInt(int64(offset))).Lsh(c.base, 1)
		c.low, c.high = 2*(c.low-offset), 2*(c.high-offset)+1
	}
}

// code returns the bits for all that was chosen.
func (c *coder) code() string {
	end := int64(32768)
	if c.low < 16384 {
		end = 16384
	}
	text := new(big.Int).Add(c.base, big.NewInt(end)).Text(2)
	text = strings.Repeat("0", max(0, 16+c.doublings-len(text))) + text
	return text[:c.doublings+2]
}

// value returns the number in the range for which a code stands: a number of size digits.
func (c *coder) value(code *big.Int, size int) int {
	window := new(big.Int)
	if digits := 16 + c.doublings; digits <= size {
		window.Rsh(code, uint(size-digits))
	} else {
		window.Lsh(code, uint(digits-size))
	}
	return int(window.Sub(window, c.base).Int64())
}

// slowModeled returns the code of a block with the probabilities of the model.
func slowModeled(block string) string {
	o, c := newOracle(), newCoder()
	for _, digit := range digits([]byte(block)) {
		bit := int(digit - '0')
		c.choose(bit, o.predict())
		o.learn(bit)
	}
	return c.code()
}

// slowFromModel returns the block of a length for which a code stands, and how many bits the code of this
// block has.
func slowFromModel(code string, size int) (string, int) {
	o, c := newOracle(), newCoder()
	number, _ := new(big.Int).SetString("0"+code, 2)
	for range 8 * size {
		p, bit := o.predict(), 0
		if c.value(number, len(code))-c.low < c.ones(p) {
			bit = 1
		}
		c.choose(bit, p)
		o.learn(bit)
	}
	return string(filled(o.history)), c.doublings + 2
}

// gamma returns the gamma code of a number.
func gamma(n int) string {
	text := strconv.FormatInt(int64(n), 2)
	return strings.Repeat("0", len(text)-1) + text
}

func literal(c byte) string {
	return "0" + digits([]byte{c})
}

func match(distance, length int) string {
	return "1" + gamma(distance) + gamma(length-2)
}

// slowMatched returns the code of the tokens that package lz chooses.
func slowMatched(block, dict string) string {
	l, _ := lz.Parse([]byte(block), []byte(dict))
	var code strings.Builder
	for _, t := range l {
		if t.Length == 0 {
			code.WriteString(literal(t.Literal))
		} else {
			code.WriteString(match(t.Distance, t.Length))
		}
	}
	return code.String()
}

// slowGamma reads a gamma code at the beginning of bits.
func slowGamma(code string) (n int, rest string, ok bool) {
	zeros := strings.IndexByte(code, '1')
	if zeros < 0 || zeros > 30 || len(code) < 2*zeros+1 {
		return 0, "", false
	}
	number, _ := strconv.ParseInt(code[zeros:2*zeros+1], 2, 64)
	return int(number), code[2*zeros+1:], true
}

// slowToken returns a window with the bytes of the token at the beginning of bits.
func slowToken(window, code string, missing int) (longer, rest string, ok bool) {
	switch {
	case code == "" || code[0] == '0' && len(code) < 9:
		return "", "", false
	case code[0] == '0':
		return window + string(filled(code[1:9])), code[9:], true
	}
	distance, rest, ok := slowGamma(code[1:])
	if !ok || distance > len(window) {
		return "", "", false
	}
	n, rest, ok := slowGamma(rest)
	if !ok || n+2 > missing {
		return "", "", false
	}
	for range n + 2 {
		window += window[len(window)-distance:][:1]
	}
	return window, rest, true
}

// slowFromTokens returns the block of a length for which a code begins to stand, and the rest of the code.
func slowFromTokens(code, dict string, size int) (block, rest string, ok bool) {
	window := dict
	for len(window) < len(dict)+size {
		window, code, ok = slowToken(window, code, len(dict)+size-len(window))
		if !ok {
			return "", "", false
		}
	}
	return window[len(dict):], code, true
}

// withSize returns a packed form that tells a length.
func withSize(method byte, size int, digits string) []byte {
	return append([]byte{method, byte(size % 256), byte(size / 256)}, filled(digits)...)
}

// slowForms returns the three packed forms of a block.
func slowForms(block, dict string) [3][]byte {
	return [3][]byte{
		[]byte("\x00" + block),
		withSize(1, len(block), slowModeled(block)),
		withSize(2, len(block), slowMatched(block, dict)),
	}
}

// best returns the packed form that is to be chosen.
func best(forms [3][]byte) []byte {
	return slices.MinFunc(forms[:], func(a, b []byte) int {
		return 4*(len(a)-len(b)) + int(a[0]) - int(b[0])
	})
}

func slowPack(block, dict string) []byte {
	return best(slowForms(block, dict))
}

// slowUnpack returns the block of a packed form, and whether there is one.
func slowUnpack(code []byte, dict string) (string, bool) {
	switch {
	case len(code) == 0 || code[0] > 2 || code[0] > 0 && len(code) < 3:
		return "", false
	case code[0] == 0:
		return string(code[1:]), true
	}
	size := int(code[1]) + 256*int(code[2])
	if size > api.MaxBlock {
		return "", false
	}
	payload := digits(code[3:])
	if code[0] == 1 {
		block, count := slowFromModel(payload, size)
		return block, count <= len(payload) && count > len(payload)-8
	}
	block, rest, ok := slowFromTokens(payload, dict, size)
	return block, ok && len(rest) < 8 && strings.Trim(rest, "0") == ""
}

// noise returns n bytes from 0 to letters - 1 without a simple period.
func noise(n, letters int) string {
	out := make([]byte, n)
	x := uint64(n*letters + 1)
	for i := range out {
		x = x*6364136223846793005 + 1442695040888963407
		out[i] = byte(int(x>>33) % letters)
	}
	return string(out)
}

// echoes returns n bytes that mostly repeat what stands before them, at various distances.
func echoes(n, letters int) string {
	out := []byte(noise(8, letters))
	for i, c := range []byte(noise(n, 256)) {
		distance := 1 + int(c)*(i+1)%len(out)
		for range int(c) % 13 {
			out = append(out, out[len(out)-distance])
		}
		out = append(out, byte(int(c)%letters))
	}
	return string(out[:n])
}
