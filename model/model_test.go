package model_test

import (
	"fmt"
	"math"
	"slices"
	"strings"
	"sync"
	"testing"

	"scriptorium/api"
	"scriptorium/model"
)

const (
	maxSteps = 8 * api.MaxBlock
	orders   = 3
)

// replayed returns the zeros and ones that are counted after the characters of a text.
func replayed(text string) (int, int) {
	zeros, ones := 0, 0
	for _, c := range text {
		if c == '0' {
			zeros++
		} else {
			ones++
		}
		if zeros+ones == 255 {
			zeros, ones = zeros/2+zeros%2, ones/2+ones%2
		}
	}
	return zeros, ones
}

// classText returns the last five of the eight characters of a byte, by the number of the byte.
func classText(text string, number int) string {
	if number < 0 {
		return "00000"
	}
	return text[8*number+3 : 8*number+8]
}

// contextText returns a description of the context of a bit; text has at least all bits before it.
func contextText(text string, at, order int) string {
	number := at / 8
	parts := []string{fmt.Sprint("order ", order), text[8*number : at]}
	for back := 1; back <= order; back++ {
		parts = append(parts, classText(text, number-back))
	}
	return strings.Join(parts, ",")
}

// expected is a slow, independent model: it keeps, for each context, all bits that followed it as characters.
func expected(text string, order int) []int {
	followed := map[string]string{}
	var ps []int
	for at := range len(text) + 1 {
		sum, weights := 2048, 1
		for o := range order + 1 {
			zeros, ones := replayed(followed[contextText(text, at, o)])
			share := (2*ones + 1) * 2048 / (zeros + ones + 1)
			weight := []int{1, 4, 16}[o] * min(zeros+ones, 15)
			sum += weight * share
			weights += weight
		}
		ps = append(ps, sum/weights)
		if at < len(text) {
			for o := range order + 1 {
				followed[contextText(text, at, o)] += text[at : at+1]
			}
		}
	}
	return ps
}

// bitsOf returns the bits of a text of characters 0 and 1.
func bitsOf(text string) []int {
	l := make([]int, len(text))
	for i := range l {
		l[i] = int(text[i] - '0')
	}
	return l
}

// textOf returns the bits of bytes in characters 0 and 1.
func textOf(data []byte) string {
	var text strings.Builder
	for _, b := range data {
		fmt.Fprintf(&text, "%08b", b)
	}
	return text.String()
}

// noise returns n characters 0 and 1 without a simple period.
func noise(n int) string {
	text := make([]byte, n)
	x := uint32(n + 1)
	for i := range text {
		x = x*1664525 + 1013904223
		text[i] = '0' + byte(x>>31)
	}
	return string(text)
}

// fewBytes returns text of bytes among which the same contexts come again and again.
func fewBytes(n int, alphabet string) string {
	data := make([]byte, n)
	x := uint32(n)
	for i := range data {
		x = x*1664525 + 1013904223
		data[i] = alphabet[int(x>>20)%len(alphabet)]
	}
	return textOf(data)
}

func samples() map[string]string {
	return map[string]string{
		"nothing":              "",
		"noise":                noise(2000),
		"zeros":                strings.Repeat("0", 2400),
		"ones":                 strings.Repeat("1", 2400),
		"changing bits":        strings.Repeat("01", 1200),
		"two bytes":            fewBytes(300, "ab"),
		"bytes of one class":   fewBytes(300, "\x01\x21\x41\x61\x81\xa1\xc1\xe1"),
		"bytes of two classes": fewBytes(300, "\x00\x80\x1f\xff"),
		"letters":              fewBytes(300, "the quick brown fox"),
		"words":                textOf([]byte(strings.Repeat("so it is said, and so it is. ", 9))),
		"a part of a byte":     fewBytes(40, "abc") + "0110001",
	}
}

func wantFault(t *testing.T, what string, got api.Fault, code, index int) {
	t.Helper()
	if got != (api.Fault{Code: code, Index: index}) {
		t.Errorf("%s: got %v, want {%d %d}", what, got, code, index)
	}
}

func wantPredicted(t *testing.T, what string, order int, history, want []int) {
	t.Helper()
	got, f := model.Predict(order, history)
	wantFault(t, what, f, api.OK, 0)
	if len(got) != len(want) {
		t.Fatalf("%s, order %d: %d predictions, want %d", what, order, len(got), len(want))
	}
	for i := range want {
		if got[i] != want[i] {
			t.Fatalf("%s, order %d: prediction %d is %d, want %d", what, order, i, got[i], want[i])
		}
	}
}

// wantLast checks what is predicted behind a history.
func wantLast(t *testing.T, what string, order int, text string, want int) {
	t.Helper()
	got, f := model.Predict(order, bitsOf(text))
	wantFault(t, what, f, api.OK, 0)
	if len(got) != len(text)+1 {
		t.Fatalf("%s, order %d: %d predictions of %d bits", what, order, len(got), len(text))
	}
	if got[len(text)] != want {
		t.Errorf("%s, order %d: got %d, want %d", what, order, got[len(text)], want)
	}
}

func wantNotPredicted(t *testing.T, what string, order int, history []int, code, index int) {
	t.Helper()
	got, f := model.Predict(order, history)
	wantFault(t, what, f, code, index)
	if len(got) != 0 {
		t.Errorf("%s: %d predictions beside a fault", what, len(got))
	}
}

func TestPredict(t *testing.T) {
	for what, text := range samples() {
		for order := range orders {
			wantPredicted(t, what, order, bitsOf(text), expected(text, order))
		}
	}
}

func TestPredictOfShortHistories(t *testing.T) {
	for n := range 11 {
		for v := range 1 << n {
			text := fmt.Sprintf("%b", 1<<n+v)[1:]
			for order := range orders {
				wantPredicted(t, text, order, bitsOf(text), expected(text, order))
			}
		}
	}
}

func TestPredictOfNothing(t *testing.T) {
	for order := range orders {
		wantPredicted(t, "nil", order, nil, []int{2048})
		wantPredicted(t, "an empty list", order, []int{}, []int{2048})
	}
}

// In the first byte, every beginning is new, for all orders.
func TestPredictOfTheFirstByte(t *testing.T) {
	for order := range orders {
		for b := range 256 {
			got, _ := model.Predict(order, bitsOf(textOf([]byte{byte(b)})))
			if len(got) != 9 || slices.Max(got[:8]) != 2048 || slices.Min(got[:8]) != 2048 {
				t.Fatalf("byte %d, order %d: got %v", b, order, got)
			}
		}
	}
}

// Worked out by hand. The second byte has the empty beginning of the first one; the contexts of the
// greater orders are those of the first bit only if the class of the first byte is that of no byte, 0.
func TestPredictOfTheSecondByte(t *testing.T) {
	const one, zero = 3072, 1024 // shares of contexts that were followed by one bit
	for _, c := range []struct {
		first byte
		want  [orders]int
	}{
		{0x80, [orders]int{(2048 + one) / 2, (2048 + 5*one) / 6, (2048 + 21*one) / 22}},
		{0xa0, [orders]int{2560, 2901, 3025}},
		{0x00, [orders]int{(2048 + zero) / 2, (2048 + 5*zero) / 6, (2048 + 21*zero) / 22}},
		{0x20, [orders]int{1536, 1194, 1070}},
		{0xff, [orders]int{2560, 2560, 2560}},
		{0x81, [orders]int{2560, 2560, 2560}},
		{0x90, [orders]int{2560, 2560, 2560}},
		{0x01, [orders]int{1536, 1536, 1536}},
		{0x10, [orders]int{1536, 1536, 1536}},
		{0x1f, [orders]int{1536, 1536, 1536}},
	} {
		for order, want := range c.want {
			wantLast(t, fmt.Sprintf("behind the byte %#x", c.first), order, textOf([]byte{c.first}), want)
		}
	}
}

// Worked out by hand: the classes of 0x01 and 0x21 are the same, those of 0x80 and of no byte are 0.
func TestPredictWithClasses(t *testing.T) {
	for _, c := range []struct {
		data []byte
		want [orders]int
	}{
		{[]byte{0x01, 0x80, 0x21}, [orders]int{(2048 + 3*1536) / 4, (2048 + 3*1536 + 4*3072) / 8, (2048 + 3*1536 + 4*3072 + 16*3072) / 24}},
		{[]byte{0x01, 0x80, 0x22}, [orders]int{1664, 1664, 1664}},
		{[]byte{0x01, 0x83, 0x21}, [orders]int{1664, 2368, 2368}},
		{[]byte{0x01, 0x02, 0x80, 0x01, 0x02}, [orders]int{(2048 + 5*1024) / 6, (2048 + 5*1024 + 4*3072) / 10, (2048 + 5*1024 + 4*3072 + 16*3072) / 26}},
		{[]byte{0x01, 0x02, 0x80, 0x02, 0x01}, [orders]int{(2048 + 5*1024) / 6, (2048 + 5*1024 + 4*1024) / 10, (2048 + 5*1024 + 4*1024) / 10}},
	} {
		for order, want := range c.want {
			wantLast(t, fmt.Sprintf("behind % x", c.data), order, textOf(c.data), want)
		}
	}
}

// A beginning of zeros must not be taken for a shorter one, nor for one with other bits.
func TestPredictKeepsBeginningsApart(t *testing.T) {
	for order := range orders {
		for cut := 1; cut < 8; cut++ {
			for value := range 1 << cut {
				beginning := fmt.Sprintf("%0*b", cut, value)
				for other := range 256 {
					first := fmt.Sprintf("%08b", other)
					if !strings.HasPrefix(first, beginning) {
						wantLast(t, first+" "+beginning, order, first+beginning, 2048)
					}
				}
			}
		}
	}
}

// firstBits returns bytes of class 0 of which so many begin with a zero and with a one, all zeros first.
func firstBits(zeros, ones int) string {
	return strings.Repeat("00000000", zeros) + strings.Repeat("10000000", ones)
}

// Weights grow up to 15 bits in a context, and no more. Worked out by the shares of n ones.
func TestPredictWithFullWeights(t *testing.T) {
	for _, c := range []struct{ n, share, weight int }{
		{1, 3072, 1}, {2, 3413, 2}, {3, 3584, 3}, {13, 3949, 13}, {14, 3959, 14}, {15, 3968, 15}, {16, 3975, 15}, {17, 3982, 15}, {100, 4075, 15}, {254, 4087, 15},
	} {
		for order, factor := range []int{1, 1 + 4, 1 + 4 + 16} {
			weight := factor * c.weight
			wantLast(t, fmt.Sprint(c.n, " ones"), order, firstBits(0, c.n), (2048+weight*c.share)/(1+weight))
		}
	}
	wantLast(t, "14 ones", 2, firstBits(0, 14), 3952)
	wantLast(t, "15 ones", 2, firstBits(0, 15), 3961)
	wantLast(t, "16 ones", 2, firstBits(0, 16), 3968)
	wantLast(t, "254 ones", 2, firstBits(0, 254), 4080)
	wantLast(t, "254 zeros", 2, firstBits(254, 0), 14)
}

// sharesFirst returns what is predicted for a first bit whose contexts of all orders have the same counts, 15 or more.
func sharesFirst(order, zeros, ones int) int {
	weight := []int{15, 75, 315}[order]
	return (2048 + weight*((2*ones+1)*2048/(zeros+ones+1))) / (1 + weight)
}

// With 255 bits in a context, both counts are halved, an odd one to the greater half; one of the two is always odd.
func TestPredictHalvesCounts(t *testing.T) {
	for _, c := range []struct{ zeros, ones, zerosAfter, onesAfter int }{
		{0, 255, 0, 128}, {255, 0, 128, 0}, {1, 254, 1, 127}, {254, 1, 127, 1}, {2, 253, 1, 127}, {253, 2, 127, 1}, {3, 252, 2, 126}, {252, 3, 126, 2},
		{127, 128, 64, 64}, {128, 127, 64, 64}, {126, 129, 63, 65}, {9, 246, 5, 123},
		{1, 253, 1, 253}, {0, 254, 0, 254}, {254, 0, 254, 0}, {127, 127, 127, 127},
		{0, 256, 0, 129}, {256, 0, 129, 0}, {0, 381, 0, 254}, {0, 382, 0, 128}, {0, 383, 0, 129}, {0, 509, 0, 128},
		{3, 253, 2, 127}, {255, 127, 64, 64}, {255, 126, 128, 126},
	} {
		for order := range orders {
			wantLast(t, fmt.Sprint(c.zeros, " zeros and ", c.ones, " ones"), order, firstBits(c.zeros, c.ones), sharesFirst(order, c.zerosAfter, c.onesAfter))
		}
	}
	wantLast(t, "254 ones and one zero", 0, firstBits(254, 1), (2048+15*(3*2048/129))/16)
	wantLast(t, "254 ones and one zero", 0, firstBits(254, 1), 172)
}

// Only the context that is full is halved; the others keep their counts.
func TestPredictHalvesOneContext(t *testing.T) {
	text := firstBits(127, 127) + "01010101"
	for order := range orders {
		wantPredicted(t, "a full context", order, bitsOf(text+"0"), expected(text+"0", order))
	}
	full := firstBits(200, 55)
	wantLast(t, "the beginning 0 behind 200 bytes", 0, full+"0", (2048+15*(2048/201))/16)
	wantLast(t, "the beginning 1 behind 55 bytes", 0, full+"1", (2048+15*(2048/56))/16)
	wantLast(t, "the empty beginning", 0, full, (2048+15*(57*2048/129))/16)
}

func TestPredictAtTheLimit(t *testing.T) {
	for what, text := range map[string]string{
		"noise":     noise(maxSteps - 1),
		"zeros":     strings.Repeat("0", maxSteps-1),
		"ones":      strings.Repeat("1", maxSteps-1),
		"two bytes": fewBytes(api.MaxBlock, "ab")[:maxSteps-1],
	} {
		for order := range orders {
			wantPredicted(t, what, order, bitsOf(text), expected(text, order))
		}
	}
}

func TestPredictStaysInItsRange(t *testing.T) {
	for _, text := range []string{strings.Repeat("0", maxSteps-1), strings.Repeat("1", maxSteps-1), noise(maxSteps - 1)} {
		for order := range orders {
			got, f := model.Predict(order, bitsOf(text))
			wantFault(t, "a long history", f, api.OK, 0)
			if len(got) != maxSteps || slices.Min(got) < 8 || slices.Max(got) > 4087 {
				t.Errorf("order %d: %d predictions, beyond 8 or 4087", order, len(got))
			}
		}
	}
}

func TestPredictDependsOnThePastOnly(t *testing.T) {
	text := fewBytes(12, "abc")
	for order := range orders {
		whole, _ := model.Predict(order, bitsOf(text))
		for n := range len(text) {
			wantPredicted(t, "a beginning of the history", order, bitsOf(text[:n]), whole[:n+1])
		}
	}
}

func TestPredictErrors(t *testing.T) {
	long := make([]int, maxSteps)
	badLong := slices.Repeat([]int{2}, maxSteps)
	for _, order := range []int{-1, 3, 4, math.MinInt, math.MaxInt, 1 << 32} {
		for _, history := range [][]int{nil, {0, 1}, {2}, long, badLong} {
			wantNotPredicted(t, fmt.Sprint("order ", order), order, history, api.ErrRange, -1)
		}
	}
	for order := range orders {
		for _, history := range [][]int{long, badLong, append(long, 0), append(badLong, 1), make([]int, 3*maxSteps)} {
			wantNotPredicted(t, "too many bits", order, history, api.ErrTooMany, -2)
		}
	}
}

func TestPredictOfWhatIsNoBit(t *testing.T) {
	for order := range orders {
		for _, bad := range []int{2, -1, 3, 256, 1 << 32, 1<<32 + 1, math.MinInt, math.MaxInt} {
			for _, n := range []int{1, 2, 8, 9, 100, maxSteps - 1} {
				for _, at := range []int{0, n / 2, n - 1} {
					history := bitsOf(noise(n))
					history[at] = bad
					what := fmt.Sprintf("%d at %d of %d", bad, at, n)
					wantNotPredicted(t, what, order, history, api.ErrForm, at)
					history[n-1] = bad
					wantNotPredicted(t, what+" and at the end", order, history, api.ErrForm, at)
				}
			}
		}
	}
}

// taken walks through bits and returns what step was given.
func taken(t *testing.T, order int, bits []int) []int {
	t.Helper()
	var ps []int
	f := model.Walk(order, len(bits), func(p int) int {
		ps = append(ps, p)
		return bits[len(ps)-1]
	})
	wantFault(t, "Walk", f, api.OK, 0)
	return ps
}

func TestWalk(t *testing.T) {
	for what, text := range samples() {
		for order := range orders {
			want := expected(text, order)[:len(text)]
			if got := taken(t, order, bitsOf(text)); !slices.Equal(got, want) {
				t.Errorf("%s, order %d: got %v, want %v", what, order, got, want)
			}
		}
	}
}

// A step function can choose its bit by the probability, as a decoder does.
func TestWalkWithBitsThatDependOnTheProbability(t *testing.T) {
	for order := range orders {
		var ps []int
		var text strings.Builder
		f := model.Walk(order, 800, func(p int) int {
			ps = append(ps, p)
			bit := 0
			if p*7%5 < 2 {
				bit = 1
			}
			fmt.Fprint(&text, bit)
			return bit
		})
		wantFault(t, "Walk", f, api.OK, 0)
		if want := expected(text.String(), order)[:800]; !slices.Equal(ps, want) {
			t.Errorf("order %d: got %v, want %v", order, ps, want)
		}
	}
}

func TestWalkMakesTheGivenNumberOfSteps(t *testing.T) {
	for order := range orders {
		for _, steps := range []int{0, 1, 2, 7, 8, 9, 1000, maxSteps - 1, maxSteps} {
			calls := 0
			f := model.Walk(order, steps, func(p int) int {
				if calls++; calls == 1 && p != 2048 {
					t.Errorf("the first probability is %d", p)
				}
				return calls % 2
			})
			wantFault(t, fmt.Sprint(steps, " steps"), f, api.OK, 0)
			if calls != steps {
				t.Errorf("order %d: %d calls in %d steps", order, calls, steps)
			}
		}
	}
}

func TestWalkAtTheLimit(t *testing.T) {
	for order := range orders {
		text := noise(maxSteps)
		want := expected(text, order)[:maxSteps]
		if got := taken(t, order, bitsOf(text)); !slices.Equal(got, want) {
			t.Errorf("order %d: the predictions of a long walk are wrong", order)
		}
	}
}

func TestWalkEndsWithWhatIsNoBit(t *testing.T) {
	for order := range orders {
		for _, bad := range []int{2, -1, 7, 48, 49, 1 << 32, 1<<32 + 1, math.MinInt, math.MaxInt} {
			for _, steps := range []int{1, 2, 8, 9, 16, 101, maxSteps} {
				for _, at := range []int{0, steps / 2, steps - 1} {
					calls := 0
					f := model.Walk(order, steps, func(p int) int {
						calls++
						if calls == at+1 {
							return bad
						}
						return calls / 3 % 2
					})
					wantFault(t, fmt.Sprintf("%d in step %d of %d", bad, at, steps), f, api.ErrForm, at)
					if calls != at+1 {
						t.Errorf("%d in step %d of %d: %d calls", bad, at, steps, calls)
					}
				}
			}
		}
	}
}

func TestWalkErrors(t *testing.T) {
	never := func(p int) int {
		t.Error("step was called beside a fault")
		return 2
	}
	outside := []int{-1, maxSteps + 1, math.MinInt, math.MaxInt, 1 << 32}
	for _, step := range []func(p int) int{nil, never} {
		for _, order := range []int{-1, 3, 4, math.MinInt, math.MaxInt, 1 << 32} {
			for _, steps := range append([]int{0, 1, maxSteps}, outside...) {
				wantFault(t, fmt.Sprintf("order %d, %d steps", order, steps), model.Walk(order, steps, step), api.ErrRange, -1)
			}
		}
		for order := range orders {
			for _, steps := range outside {
				wantFault(t, fmt.Sprintf("%d steps", steps), model.Walk(order, steps, step), api.ErrRange, -2)
			}
		}
	}
	for order := range orders {
		for _, steps := range []int{0, 1, 8, maxSteps} {
			wantFault(t, fmt.Sprintf("nil for %d steps", steps), model.Walk(order, steps, nil), api.ErrEmpty, -3)
		}
		wantFault(t, "no steps", model.Walk(order, 0, never), api.OK, 0)
	}
}

// One walk inside another, and walks at the same time, have models of their own.
func TestWalksAreIndependent(t *testing.T) {
	text := fewBytes(20, "ab")
	want := expected(text, 2)[:len(text)]
	var ps []int
	f := model.Walk(2, len(text), func(p int) int {
		ps = append(ps, p)
		inner := taken(t, 2, bitsOf(text)[:len(ps)])
		if !slices.Equal(inner, want[:len(ps)]) {
			t.Errorf("a walk inside another: got %v", inner)
		}
		return int(text[len(ps)-1] - '0')
	})
	wantFault(t, "Walk", f, api.OK, 0)
	if !slices.Equal(ps, want) {
		t.Errorf("the outer walk: got %v, want %v", ps, want)
	}
	var all sync.WaitGroup
	for range 8 {
		all.Go(func() {
			if got, f := model.Predict(2, bitsOf(text)); f != (api.Fault{}) || !slices.Equal(got[:len(text)], want) {
				t.Errorf("at the same time: got %v, %v", got, f)
			}
		})
	}
	all.Wait()
}

// The history and its spare capacity stay as they are, and the predictions are new memory.
func TestPredictSharesNoMemory(t *testing.T) {
	for _, n := range []int{0, 1, 8, 100} {
		memory := append(bitsOf(noise(n)), slices.Repeat([]int{77}, 200)...)
		before := slices.Clone(memory)
		got, f := model.Predict(1, memory[:n])
		wantFault(t, "Predict", f, api.OK, 0)
		kept := slices.Clone(got)
		if !slices.Equal(memory, before) {
			t.Errorf("%d bits: the history or its spare capacity was changed", n)
		}
		clear(memory)
		if !slices.Equal(got, kept) {
			t.Errorf("%d bits: the predictions changed with the history", n)
		}
		again, _ := model.Predict(1, before[:n])
		clear(got[:cap(got)])
		if !slices.Equal(again, kept) {
			t.Errorf("%d bits: two results share memory", n)
		}
	}
}
