package rank_test

import (
	"fmt"
	"math"
	"reflect"
	"strings"
	"testing"

	"scriptorium/api"
	"scriptorium/rank"
)

func opened(t *testing.T, b api.Bits) rank.Reader {
	t.Helper()
	r, f := rank.Open(b)
	if f != (api.Fault{}) {
		t.Fatalf("%d bits: %v", b.Count, f)
	}
	return r
}

// wantReader compares a reader with a plain count, inside the bit string and far around it.
func wantReader(t *testing.T, what string, r rank.Reader, text string) {
	t.Helper()
	n := len(text)
	if got := r.Len(); got != n {
		t.Errorf("%s: %d bits, want %d", what, got, n)
	}
	for i := -130; i <= n+130; i++ {
		wantAnswers(t, what, r, text, i)
	}
	for _, i := range []int{math.MinInt, math.MinInt + 1, -1 << 32, 1 << 32, math.MaxInt - 64, math.MaxInt} {
		wantAnswers(t, what, r, text, i)
	}
}

func wantAnswers(t *testing.T, what string, r rank.Reader, text string, i int) {
	t.Helper()
	if got, want := r.Rank(i), before(text, min(max(i, 0), len(text))); got != want {
		t.Errorf("%s: the rank of %d is %d, want %d", what, i, got, want)
	}
	if got, want := r.Bit(i), i >= 0 && i < len(text) && text[i] == '1'; got != want {
		t.Errorf("%s: the bit %d is %v, want %v", what, i, got, want)
	}
}

func TestReader(t *testing.T) {
	for _, text := range texts() {
		wantReader(t, text, opened(t, made(t, text)), text)
	}
}

func TestReaderAgainstRank(t *testing.T) {
	for _, text := range texts() {
		b := made(t, text)
		r := opened(t, b)
		v, f := rank.Build(b)
		wantFault(t, text, f, api.OK, 0)
		for i := range len(text) + 1 {
			want, f := rank.Rank(v, i)
			wantInt(t, fmt.Sprintf("the rank of %d in %s", i, text), r.Rank(i), f, want)
		}
	}
}

func TestReaderExample(t *testing.T) {
	r := opened(t, api.Bits{Data: []byte{0x68}, Count: 5}) // 01101
	wantReader(t, "01101", r, "01101")
	if r.Bit(0) || !r.Bit(1) || !r.Bit(4) || r.Bit(5) || r.Rank(100) != 3 {
		t.Error("the example does not hold")
	}
}

func TestZeroReader(t *testing.T) {
	wantReader(t, "the zero reader", rank.Reader{}, "")
	wantReader(t, "no bytes", opened(t, api.Bits{}), "")
	wantReader(t, "empty bytes", opened(t, api.Bits{Data: []byte{}}), "")
}

func TestReaderAtTheUpperLimit(t *testing.T) {
	for _, share := range []int{0, 50, 100} {
		text := noise(api.MaxBits, share)
		r := opened(t, made(t, text))
		if r.Len() != api.MaxBits {
			t.Errorf("%d bits", r.Len())
		}
		for _, i := range []int{-1, 0, 1, 65535, 65536, api.MaxBits - 64, api.MaxBits - 1, api.MaxBits, api.MaxBits + 1, math.MaxInt} {
			wantAnswers(t, "MaxBits bits", r, text, i)
		}
	}
}

func TestOpenFaults(t *testing.T) {
	for what, b := range invalidBits() {
		r, f := rank.Open(b)
		wantFault(t, what, f, api.ErrForm, -1)
		if !reflect.DeepEqual(r, rank.Reader{}) {
			t.Errorf("%s: a reader of %d bits beside a fault", what, r.Len())
		}
	}
}

// Fields that are not exported cannot be set from outside.
func TestReaderHidesItsFields(t *testing.T) {
	kind := reflect.TypeOf(rank.Reader{})
	for i := range kind.NumField() {
		if kind.Field(i).IsExported() {
			t.Errorf("the field %s is exported", kind.Field(i).Name)
		}
	}
}

func TestSeveralReaders(t *testing.T) {
	first, second := noise(200, 50), strings.Repeat("1", 130)
	a, b := opened(t, made(t, first)), opened(t, made(t, second))
	wantReader(t, "the first reader", a, first)
	wantReader(t, "the second reader", b, second)
	wantReader(t, "the first reader again", a, first)
}
