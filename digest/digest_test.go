package digest_test

import (
	"bytes"
	"crypto/sha256"
	"encoding"
	"encoding/binary"
	"encoding/hex"
	"fmt"
	"math"
	"math/big"
	"slices"
	"strings"
	"testing"

	"scriptorium/api"
	"scriptorium/digest"
)

// message returns n bytes that do not repeat with a period of 64.
func message(n int) []byte {
	b := make([]byte, n)
	for i := range b {
		b[i] = byte(i*7 + i/64*31 + i/251)
	}
	return b
}

func wantFault(t *testing.T, what string, got api.Fault, code, index int) {
	t.Helper()
	if got != (api.Fault{Code: code, Index: index}) {
		t.Errorf("%s: got %v, want {%d %d}", what, got, code, index)
	}
}

func wantSuccess(t *testing.T, what string, got api.Fault) {
	t.Helper()
	wantFault(t, what, got, api.OK, 0)
}

func sameState(a, b api.Hashing) bool {
	return a.State == b.State && bytes.Equal(a.Tail, b.Tail) && a.Length == b.Length
}

func write(t *testing.T, h api.Hashing, data []byte) api.Hashing {
	t.Helper()
	h, f := digest.Write(h, data)
	wantSuccess(t, "Write", f)
	return h
}

func finish(t *testing.T, h api.Hashing) api.Digest {
	t.Helper()
	d, f := digest.Finish(h)
	wantSuccess(t, "Finish", f)
	return d
}

// library is the state of an independent implementation: the words of the state, a block with the tail, the length.
func library(t *testing.T, h api.Hashing) []byte {
	t.Helper()
	form := []byte("sha\x03")
	for _, w := range h.State {
		form = binary.BigEndian.AppendUint32(form, w)
	}
	form = append(form, h.Tail...)
	form = append(form, make([]byte, 64-len(h.Tail))...)
	return binary.BigEndian.AppendUint64(form, uint64(h.Length))
}

// continued returns the state and the digest of an independent implementation after data was added to a state.
func continued(t *testing.T, h api.Hashing, data []byte) ([]byte, api.Digest) {
	t.Helper()
	s := sha256.New()
	if err := s.(encoding.BinaryUnmarshaler).UnmarshalBinary(library(t, h)); err != nil {
		t.Fatal(err)
	}
	s.Write(data)
	form, err := s.(encoding.BinaryMarshaler).MarshalBinary()
	if err != nil {
		t.Fatal(err)
	}
	return form, api.Digest(s.Sum(nil))
}

func TestSumOfKnownMessages(t *testing.T) {
	known := []struct{ message, want string }{
		{"", "e3b0c44298fc1c149afbf4c8996fb92427ae41e4649b934ca495991b7852b855"},
		{"abc", "ba7816bf8f01cfea414140de5dae2223b00361a396177a9cb410ff61f20015ad"},
		{"abcdbcdecdefdefgefghfghighijhijkijkljklmklmnlmnomnopnopq", "248d6a61d20638b8e5c026930c3e6039a33ce45964ff2167f6ecedd419db06c1"},
		{strings.Repeat("a", 1_000_000), "cdc76e5c9914fb9281a1c7e284d73e67f1809a48a497200e046d39ccc7112cd0"},
	}
	for _, k := range known {
		d := digest.Sum([]byte(k.message))
		if got := hex.EncodeToString(d[:]); got != k.want {
			t.Errorf("Sum of %d bytes: got %s, want %s", len(k.message), got, k.want)
		}
	}
}

// Around 55, 56, 63, 64 and 119 bytes the padding takes another block or ends exactly with one.
func TestSumOfAllLengths(t *testing.T) {
	for n := range 400 {
		if m := message(n); digest.Sum(m) != sha256.Sum256(m) {
			t.Errorf("Sum of %d bytes is wrong", n)
		}
	}
}

func TestSumOfSingleBytes(t *testing.T) {
	for v := range 256 {
		for _, n := range []int{1, 55, 56, 63, 64, 119, 120} {
			if m := bytes.Repeat([]byte{byte(v)}, n); digest.Sum(m) != sha256.Sum256(m) {
				t.Errorf("Sum of %d bytes %d is wrong", n, v)
			}
		}
	}
}

func TestSumOfLongMessages(t *testing.T) {
	for _, n := range []int{65_535, 65_536, 1<<21 + 55, 1<<21 + 56} {
		if m := message(n); digest.Sum(m) != sha256.Sum256(m) {
			t.Errorf("Sum of %d bytes is wrong", n)
		}
	}
}

func TestSumTakesNilAndEmpty(t *testing.T) {
	if digest.Sum(nil) != digest.Sum([]byte{}) {
		t.Error("nil and empty differ")
	}
}

func TestSumLeavesArgumentAlone(t *testing.T) {
	for n := range 130 {
		whole := message(200)
		digest.Sum(whole[:n])
		if !bytes.Equal(whole, message(200)) {
			t.Fatalf("Sum of %d bytes changed its argument or its spare capacity", n)
		}
	}
}

// fraction returns the first 32 bits of the fractional part of the root of n with the given degree.
func fraction(n, degree int64) uint32 {
	scaled := new(big.Int).Lsh(big.NewInt(n), uint(32*degree))
	low, high := new(big.Int), new(big.Int).Lsh(big.NewInt(n), 32)
	for low.Cmp(high) < 0 {
		middle := new(big.Int).Add(low, high)
		middle.Add(middle, big.NewInt(1)).Rsh(middle, 1)
		if new(big.Int).Exp(middle, big.NewInt(degree), nil).Cmp(scaled) <= 0 {
			low = middle
		} else {
			high = middle.Sub(middle, big.NewInt(1))
		}
	}
	return uint32(low.Uint64())
}

func TestStart(t *testing.T) {
	h := digest.Start()
	for i, p := range []int64{2, 3, 5, 7, 11, 13, 17, 19} {
		if want := fraction(p, 2); h.State[i] != want {
			t.Errorf("word %d: got %#x, want %#x", i, h.State[i], want)
		}
	}
	if len(h.Tail) != 0 || h.Length != 0 {
		t.Errorf("tail %v, length %d", h.Tail, h.Length)
	}
}

func TestWriteAndFinishExample(t *testing.T) {
	h := write(t, write(t, digest.Start(), []byte("a")), []byte("bc"))
	if h.State != digest.Start().State || string(h.Tail) != "abc" || h.Length != 3 {
		t.Errorf("state %v", h)
	}
	if finish(t, h) != digest.Sum([]byte("abc")) {
		t.Error("the digest is wrong")
	}
}

func TestFinishOfNothing(t *testing.T) {
	if finish(t, digest.Start()) != digest.Sum(nil) {
		t.Error("the digest is wrong")
	}
}

// Every way to divide messages into two pieces, one of which may be empty.
func TestWriteInTwoPieces(t *testing.T) {
	for _, n := range []int{0, 1, 2, 54, 55, 56, 57, 63, 64, 65, 118, 119, 120, 127, 128, 129, 192, 200} {
		m := message(n)
		whole := write(t, digest.Start(), m)
		for cut := range n + 1 {
			h := write(t, write(t, digest.Start(), m[:cut]), m[cut:])
			if !sameState(h, whole) {
				t.Errorf("%d bytes, cut at %d: state %v, want %v", n, cut, h, whole)
			}
			if finish(t, h) != sha256.Sum256(m) {
				t.Errorf("%d bytes, cut at %d: the digest is wrong", n, cut)
			}
		}
	}
}

func TestWriteInEqualPieces(t *testing.T) {
	m := message(400)
	for size := 1; size <= 130; size++ {
		h := digest.Start()
		for piece := range slices.Chunk(m, size) {
			h = write(t, write(t, h, nil), piece)
			form, _ := continued(t, digest.Start(), m[:h.Length])
			if !bytes.Equal(library(t, h), form) {
				t.Fatalf("pieces of %d bytes: the state after %d bytes is wrong", size, h.Length)
			}
		}
		if finish(t, h) != sha256.Sum256(m) {
			t.Errorf("pieces of %d bytes: the digest is wrong", size)
		}
	}
}

func TestWriteOfNothing(t *testing.T) {
	for n := range 130 {
		h := write(t, digest.Start(), message(n))
		if !sameState(write(t, h, nil), h) || !sameState(write(t, h, []byte{}), h) {
			t.Errorf("an empty piece changes the state after %d bytes", n)
		}
	}
}

// far returns a valid state that somebody else may have saved, after many bytes.
func far(length int) api.Hashing {
	return api.Hashing{State: [8]uint32{1, 0xffffffff, 3, 0x80000000, 5, 6, 7, 8}, Tail: message(length % 64), Length: length}
}

// From 2^29 bytes on the length in bits does not fit into 32 bits.
func TestStatesOfGreatLength(t *testing.T) {
	for _, length := range []int{1<<29 - 1, 1 << 29, 1<<32 + 55, 1<<32 + 56, api.MaxHashed - 130, api.MaxHashed - 1, api.MaxHashed} {
		h := far(length)
		for _, n := range []int{0, 1, 9, 63, 64, 130} {
			if n > api.MaxHashed-length {
				continue
			}
			form, want := continued(t, h, message(n))
			after := write(t, h, message(n))
			if !bytes.Equal(library(t, after), form) {
				t.Errorf("%d bytes after %d: the state is wrong", n, length)
			}
			if finish(t, after) != want {
				t.Errorf("%d bytes after %d: the digest is wrong", n, length)
			}
		}
	}
}

func TestWriteTooLong(t *testing.T) {
	for _, room := range []int{0, 1, 2, 63, 64, 65, 1000} {
		h := far(api.MaxHashed - room)
		for _, n := range []int{room + 1, room + 2, room + 64} {
			what := fmt.Sprintf("%d bytes where %d are left", n, room)
			after, f := digest.Write(h, message(n))
			wantFault(t, what, f, api.ErrTooLong, -2)
			if !sameState(after, api.Hashing{}) {
				t.Errorf("%s: state %v beside a fault", what, after)
			}
		}
		if after := write(t, h, message(room)); after.Length != api.MaxHashed {
			t.Errorf("where %d bytes are left: length %d", room, after.Length)
		}
	}
}

func TestInvalidStates(t *testing.T) {
	state := digest.Start().State
	invalid := []api.Hashing{
		{State: state, Length: 3},
		{State: state, Length: 63, Tail: message(62)},
		{State: state, Length: 63, Tail: message(64)},
		{State: state, Length: 64, Tail: message(64)},
		{State: state, Length: 64, Tail: message(1)},
		{State: state, Length: 65},
		{State: state, Tail: message(1)},
		{State: state, Tail: message(64)},
		{State: state, Length: 100, Tail: message(100)},
		{State: state, Length: -1},
		{State: state, Length: -1, Tail: message(1)},
		{State: state, Length: -1, Tail: message(63)},
		{State: state, Length: -64},
		{State: state, Length: math.MinInt},
		{State: state, Length: math.MaxInt, Tail: message(63)},
		{State: state, Length: api.MaxHashed + 1, Tail: message(1)},
		{State: state, Length: api.MaxHashed + 64},
		{State: state, Length: api.MaxHashed, Tail: message(1)},
		{State: state, Length: api.MaxHashed, Tail: message(64)},
	}
	for _, h := range invalid {
		what := fmt.Sprintf("length %d, tail of %d bytes", h.Length, len(h.Tail))
		// A second piece would be too long for the last ones: that error comes later.
		for _, data := range [][]byte{nil, message(1), message(100)} {
			after, f := digest.Write(h, data)
			wantFault(t, "Write: "+what, f, api.ErrForm, -1)
			if !sameState(after, api.Hashing{}) {
				t.Errorf("Write: %s: state %v beside a fault", what, after)
			}
		}
		d, f := digest.Finish(h)
		wantFault(t, "Finish: "+what, f, api.ErrForm, -1)
		if d != (api.Digest{}) {
			t.Errorf("Finish: %s: digest %v beside a fault", what, d)
		}
	}
}

func TestWriteSharesNoMemory(t *testing.T) {
	for tail := range 64 {
		for n := range 130 {
			room, data := message(300), message(300)
			h := api.Hashing{State: digest.Start().State, Tail: room[:tail], Length: 64 + tail}
			after := write(t, h, data[:n])
			finish(t, h)
			if !bytes.Equal(room, message(300)) || !bytes.Equal(data, message(300)) {
				t.Fatalf("tail of %d bytes, %d new bytes: an argument was changed", tail, n)
			}
			kept := slices.Clone(after.Tail)
			clear(room)
			clear(data)
			if !bytes.Equal(after.Tail, kept) {
				t.Fatalf("tail of %d bytes, %d new bytes: the result shares memory with an argument", tail, n)
			}
		}
	}
}

func TestStatesCanBeUsedAgain(t *testing.T) {
	h := write(t, digest.Start(), message(70))
	first := finish(t, write(t, h, []byte("first")))
	second := finish(t, write(t, h, []byte("second")))
	if first != digest.Sum(append(message(70), "first"...)) || second != digest.Sum(append(message(70), "second"...)) {
		t.Error("a state was changed by its use")
	}
	if finish(t, h) != finish(t, h) || finish(t, h) != digest.Sum(message(70)) {
		t.Error("Finish changed a state")
	}
}

func TestShort(t *testing.T) {
	d := digest.Sum([]byte("abc"))
	for width := 1; width <= 32; width++ {
		var want api.Digest
		copy(want[:width], d[:])
		got, f := digest.Short(d, width)
		wantSuccess(t, "Short", f)
		if got != want {
			t.Errorf("width %d: got %v, want %v", width, got, want)
		}
	}
	two, _ := digest.Short(d, 2)
	if two != (api.Digest{0xba, 0x78}) {
		t.Errorf("the example: got %v", two)
	}
}

func TestShortOutsideRange(t *testing.T) {
	for _, width := range []int{0, -1, 33, 64, math.MinInt, math.MaxInt} {
		d, f := digest.Short(digest.Sum(nil), width)
		wantFault(t, fmt.Sprint("width ", width), f, api.ErrRange, -2)
		if d != (api.Digest{}) {
			t.Errorf("width %d: digest %v beside a fault", width, d)
		}
	}
}

func TestTextAndParse(t *testing.T) {
	if digest.Text(api.Digest{}) != strings.Repeat("0", 64) {
		t.Errorf("the text of zeros: got %q", digest.Text(api.Digest{}))
	}
	for v := range 256 {
		var d api.Digest
		for i := range d {
			d[i] = byte(v + 37*i)
		}
		text := digest.Text(d)
		if want := hex.EncodeToString(d[:]); text != want {
			t.Errorf("Text: got %s, want %s", text, want)
		}
		back, f := digest.Parse(text)
		wantSuccess(t, "Parse", f)
		if back != d {
			t.Errorf("Parse of %s: got %v", text, back)
		}
	}
}

func wantNoDigest(t *testing.T, text string, code, index int) {
	t.Helper()
	d, f := digest.Parse(text)
	wantFault(t, fmt.Sprintf("Parse of %q", text), f, code, index)
	if d != (api.Digest{}) {
		t.Errorf("Parse of %q: digest %v beside a fault", text, d)
	}
}

func TestParseOfWrongLength(t *testing.T) {
	for n := range 200 {
		if n != 64 {
			wantNoDigest(t, strings.Repeat("0", n), api.ErrLength, -1)
			wantNoDigest(t, strings.Repeat("g", n), api.ErrLength, -1)
		}
	}
	wantNoDigest(t, strings.Repeat("é", 64), api.ErrLength, -1)
}

func TestParseOfOtherBytes(t *testing.T) {
	text := digest.Text(digest.Sum(nil))
	for v := range 256 {
		if strings.IndexByte("0123456789abcdef", byte(v)) >= 0 {
			continue
		}
		other := string([]byte{byte(v)})
		for at := range 64 {
			wantNoDigest(t, text[:at]+other+text[at+1:], api.ErrForm, at)
		}
		wantNoDigest(t, text[:20]+other+text[21:40]+other+text[41:], api.ErrForm, 20)
	}
	wantNoDigest(t, strings.Repeat("é", 32), api.ErrForm, 0)
	wantNoDigest(t, strings.ToUpper(text), api.ErrForm, strings.IndexAny(text, "abcdef"))
}
