package squeeze_test

import (
	"bytes"
	"fmt"
	"slices"
	"strings"
	"sync"
	"testing"

	"scriptorium/api"
	"scriptorium/squeeze"
)

func wantFault(t *testing.T, what string, got api.Fault, code, index int) {
	t.Helper()
	if got != (api.Fault{Code: code, Index: index}) {
		t.Errorf("%s: got %v, want {%d %d}", what, got, code, index)
	}
}

func wantPacked(t *testing.T, block, dict string, want []byte) {
	t.Helper()
	got, f := squeeze.Pack([]byte(block), []byte(dict))
	if f != (api.Fault{}) || !slices.Equal(got, want) {
		t.Errorf("%q after %q: got % x and %v, want % x", block, dict, got, f, want)
	}
}

func wantNotPacked(t *testing.T, what string, block, dict []byte, index int) {
	t.Helper()
	got, f := squeeze.Pack(block, dict)
	wantFault(t, what, f, api.ErrTooLong, index)
	if len(got) != 0 {
		t.Errorf("%s: %d bytes beside a fault", what, len(got))
	}
}

func wantUnpacked(t *testing.T, code []byte, dict, want string) {
	t.Helper()
	got, f := squeeze.Unpack(code, []byte(dict))
	if f != (api.Fault{}) || string(got) != want {
		t.Errorf("% x after %q: got %q and %v, want %q", code, dict, got, f, want)
	}
}

func wantNotUnpacked(t *testing.T, what string, code, dict []byte, errorCode, index int) {
	t.Helper()
	got, f := squeeze.Unpack(code, dict)
	wantFault(t, what, f, errorCode, index)
	if len(got) != 0 {
		t.Errorf("%s: %d bytes beside a fault", what, len(got))
	}
}

func wantCorrupt(t *testing.T, code []byte, dict string) {
	t.Helper()
	wantNotUnpacked(t, fmt.Sprintf("% x after %q", code, dict), code, []byte(dict), api.ErrCorrupt, -1)
}

// wantUnpackedAsExpected compares Unpack with the independent way, whether a form is right or not.
func wantUnpackedAsExpected(t *testing.T, code []byte, dict string) bool {
	t.Helper()
	want, ok := slowUnpack(code, dict)
	if ok {
		wantUnpacked(t, code, dict, want)
	} else {
		wantCorrupt(t, code, dict)
	}
	return ok
}

// wantRoundTrip packs a block in the way that is to be chosen, and unpacks all its forms. It returns the
// methods of the shortest ones.
func wantRoundTrip(t *testing.T, block, dict string) string {
	t.Helper()
	forms := slowForms(block, dict)
	want := best(forms)
	wantPacked(t, block, dict, want)
	methods := ""
	for i, form := range forms {
		if len(form) == len(want) {
			methods += fmt.Sprint(i)
		}
		if len(form) <= api.MaxBlock+1 {
			wantUnpacked(t, form, dict, block)
		}
	}
	return methods
}

// Worked out by hand.
func TestPack(t *testing.T) {
	for _, c := range []struct {
		block, dict string
		want        []byte
	}{
		{"", "", []byte{0}},
		{"", "abc", []byte{0}},
		{"\x07", "", []byte{0, 7}},
		{"\x00\x01\x02\xff", "abc", []byte{0, 0, 1, 2, 255}},
		// The 5 bits of a match stand behind 3 bytes.
		{"abc", "abc", []byte("\x00abc")},
		// A match has 9 bits, and so this form has 5 bytes as well.
		{"abcd", "abcd", []byte("\x00abcd")},
		{"abcde", "abcde", []byte{2, 5, 0, 0b1_00101_01, 0b1_0000000}},
		// A literal and a match have 12 bits, and so this form has 5 bytes as well.
		{"aaaa", "", []byte("\x00aaaa")},
		{"aaaaaaaa", "", []byte{2, 8, 0, 0b0_0110000, 0b1_1_1_00101}},
		{"abcabcabcabc", "abcabcabcabc", []byte{2, 12, 0, 177, 64}},
		{strings.Repeat("a", 600), "a", []byte{2, 0x58, 2, 0b1_1_000000, 0b000_10010, 0b10110_000}},
	} {
		wantPacked(t, c.block, c.dict, c.want)
	}
}

// Each method is chosen, alone and among several that have equally many bytes.
func TestRoundTrips(t *testing.T) {
	count := map[string]int{}
	for i, dict := range []string{"", noise(60, 3), echoes(100, 20)} {
		for letters := 1; letters <= 256; letters = letters*3/2 + 1 {
			for n := i; n < 120; n += 2 {
				for _, block := range []string{noise(n, letters), echoes(n, letters)} {
					count[wantRoundTrip(t, block, dict)]++
				}
			}
		}
	}
	for _, methods := range []string{"0", "1", "2", "01", "02", "12", "012"} {
		if count[methods] < 8 {
			t.Errorf("too few blocks for the methods %s: %d", methods, count[methods])
		}
	}
}

func TestRoundTripsOfWords(t *testing.T) {
	text := "the ox and the fox and the fox that is an ox, and so on: the ox, the fox and the like; "
	for n := range len(text) {
		for _, dict := range []string{"", "and the fox", text[n:]} {
			wantRoundTrip(t, text[:n], dict)
			wantRoundTrip(t, text[n:]+text[:n], dict)
		}
	}
	wantRoundTrip(t, strings.Repeat(text, 9), "")
	wantRoundTrip(t, strings.Repeat(text, 9), text)
}

func TestPackAtTheLimits(t *testing.T) {
	for _, n := range []int{255, 256, 257, 1023, 1024} {
		for _, size := range []int{0, 511, 512} {
			for methods, block := range map[string]string{"0": noise(n, 256), "1": noise(n, 9), "2": echoes(n, 200)} {
				dict := echoes(size, 200)
				if got := wantRoundTrip(t, block, dict); n > 1000 && got != methods {
					t.Errorf("%d bytes after %d: the methods %s, not %s", n, size, got, methods)
				}
			}
		}
	}
	zeros := strings.Repeat("\x00", 1024)
	wantRoundTrip(t, zeros, "")
	wantRoundTrip(t, zeros, zeros[:512])
	wantRoundTrip(t, strings.Repeat("\xff", 1024), "")
}

// No packed form has more than a byte more than its block.
func TestPackedSize(t *testing.T) {
	for n := 0; n <= 1024; n += 1 + n%16 {
		for _, block := range []string{noise(n, 256), noise(n, 240)} {
			got, f := squeeze.Pack([]byte(block), nil)
			if f != (api.Fault{}) || len(got) == 0 || len(got) > n+1 {
				t.Errorf("%d bytes are packed in %d, with %v", n, len(got), f)
			}
			wantUnpacked(t, got, "", block)
		}
	}
}

func TestPackFaults(t *testing.T) {
	wantNotPacked(t, "a long block", make([]byte, 1025), nil, -1)
	wantNotPacked(t, "a very long block", make([]byte, 70000), make([]byte, 512), -1)
	wantNotPacked(t, "a long dictionary", nil, make([]byte, 513), -2)
	wantNotPacked(t, "a very long dictionary", make([]byte, 1024), make([]byte, 70000), -2)
	wantNotPacked(t, "both long", make([]byte, 1025), make([]byte, 513), -1)
}

func TestUnpackStored(t *testing.T) {
	for _, block := range []string{"", "\x00", "\x01", "\x02\x00\x00", "abc", strings.Repeat("a", 600), strings.Repeat("a", 1024)} {
		wantUnpacked(t, []byte("\x00"+block), "", block)
		wantUnpacked(t, []byte("\x00"+block), "abc", block)
	}
	for n := range 1025 {
		wantUnpacked(t, []byte("\x00"+noise(n, 7)), "", noise(n, 7))
	}
}

// The first byte of a block is coded with even probabilities: each bit is the opposite of one of the code.
func TestUnpackModeledByte(t *testing.T) {
	for c := range 256 {
		for last := range 256 {
			wantUnpacked(t, []byte{1, 1, 0, byte(c), byte(last)}, "abc", string([]byte{^byte(c)}))
		}
		wantCorrupt(t, []byte{1, 1, 0, byte(c)}, "")
		wantCorrupt(t, []byte{1, 1, 0, byte(c), 0x40, 0}, "")
	}
}

func TestUnpackModeledNothing(t *testing.T) {
	for c := range 256 {
		wantUnpacked(t, []byte{1, 0, 0, byte(c)}, "", "")
		wantCorrupt(t, []byte{1, 0, 0, byte(c), 0}, "")
		wantCorrupt(t, []byte{1, 0, 0, 0, byte(c)}, "")
	}
	wantCorrupt(t, []byte{1, 0, 0}, "")
	wantCorrupt(t, []byte{1, 1, 0}, "")
	wantCorrupt(t, []byte{1, 0, 4}, "")
}

// The bits behind the code do not matter, and there must be no whole byte of them.
func TestUnpackModeledFill(t *testing.T) {
	var filling [8]int
	cut := 0
	for n := 1; n < 80; n++ {
		block := noise(n, 256/n+1)
		code := slowModeled(block)
		form := withSize(1, n, code)
		fill := 8*len(form) - 24 - len(code)
		filling[fill]++
		for bits := range 1 << fill {
			form[len(form)-1] = form[len(form)-1]>>fill<<fill | byte(bits)
			wantUnpacked(t, form, "", block)
			wantCorrupt(t, append(form[:len(form):len(form)], byte(bits)), "")
		}
		// What is left may stand for another block.
		if wantUnpackedAsExpected(t, form[:len(form)-1], "") {
			cut++
		}
	}
	if cut == 0 || cut > 20 {
		t.Errorf("%d codes without their last bytes are accepted", cut)
	}
	for fill, count := range filling {
		if count == 0 {
			t.Errorf("no code is filled up with %d bits", fill)
		}
	}
}

// Worked out by hand.
func TestUnpackMatched(t *testing.T) {
	for _, c := range []struct {
		code       []byte
		dict, want string
	}{
		{[]byte{2, 0, 0}, "", ""},
		{[]byte{2, 0, 0}, "abc", ""},
		{[]byte{2, 1, 0, 0b0_0110000, 0b1_0000000}, "", "a"},
		{[]byte{2, 4, 0, 0x30, 0xf0}, "", "aaaa"},
		{[]byte{2, 4, 0, 0x30, 0xf0}, "abc", "aaaa"},
		{[]byte{2, 3, 0, 0b1_011_1_000}, "abc", "abc"},
		{[]byte{2, 3, 0, 0b1_011_1_000}, "uvxyz", "xyz"},
		{[]byte{2, 6, 0, 0b1_1_00100_0}, "uvxyz", "zzzzzz"},
		{[]byte{2, 0, 4, 0b1_1_000000, 0b000_11111, 0b11110_000}, "\x00", strings.Repeat("\x00", 1024)},
		// Tokens that Parse does not return: a distance that is not the least, literals instead of a match.
		{[]byte{2, 3, 0, 0b1_010_1_000}, "zzz", "zzz"},
		{[]byte{2, 3, 0, 0b0_0111101, 0b0_0_011110, 0b10_0_01111, 0b010_00000}, "zzz", "zzz"},
	} {
		wantUnpacked(t, c.code, c.dict, c.want)
	}
}

func TestUnpackMatchedRefused(t *testing.T) {
	for _, c := range []struct {
		what string
		code []byte
		dict string
	}{
		{"a byte behind nothing", []byte{2, 0, 0, 0}, ""},
		{"nothing for a byte", []byte{2, 1, 0}, ""},
		{"a byte too few", []byte{2, 4, 0, 0x30}, ""},
		{"a byte too few for a literal", []byte{2, 1, 0, 0x30}, ""},
		{"a byte too many", []byte{2, 4, 0, 0x30, 0xf0, 0}, ""},
		{"a byte behind whole ones", []byte{2, 8, 0, 0x30, 0xe5, 0}, ""},
		{"tokens for fewer bytes", []byte{2, 5, 0, 0x30, 0xf0}, ""},
		{"tokens for more bytes", []byte{2, 3, 0, 0x30, 0xf0}, ""},
		{"tokens for more bytes than half of the length tells", []byte{2, 4, 1, 0x30, 0xf0}, ""},
		{"no window", []byte{2, 3, 0, 0b1_1_1_00000}, ""},
		{"a window that is too short", []byte{2, 3, 0, 0b1_011_1_000}, "ab"},
		{"a distance that no window has", append([]byte{2, 3, 0}, filled(match(1536, 3))...), noise(512, 256)},
		{"a distance that no token has", append([]byte{2, 3, 0}, filled(match(1537, 3))...), noise(512, 256)},
		{"zeros instead of a number", []byte{2, 3, 0, 0x80, 0, 0, 0, 0, 0}, "a"},
	} {
		wantNotUnpacked(t, c.what, c.code, []byte(c.dict), api.ErrCorrupt, -1)
	}
	for fill := 1; fill < 16; fill++ {
		wantCorrupt(t, []byte{2, 4, 0, 0x30, 0xf0 | byte(fill)}, "")
	}
	for fill := 1; fill < 8; fill++ {
		wantCorrupt(t, []byte{2, 3, 0, 0b1_011_1_000 | byte(fill)}, "abc")
	}
}

func TestUnpackRefused(t *testing.T) {
	wantCorrupt(t, nil, "")
	wantCorrupt(t, nil, "abc")
	for method := 1; method < 256; method++ {
		m := byte(method)
		wantCorrupt(t, []byte{m}, "")
		wantCorrupt(t, []byte{m, 0}, "")
		if method > 2 {
			wantCorrupt(t, []byte{m, 0, 0}, "")
			wantCorrupt(t, []byte{m, 0, 0, 0}, "")
			wantCorrupt(t, []byte{m, 4, 0, 0x30, 0xf0}, "")
			wantCorrupt(t, append([]byte{m}, noise(1024, 256)...), "abc")
		}
	}
}

// Lengths of more than MaxBlock are refused, even if all the rest is right.
func TestUnpackLengths(t *testing.T) {
	for _, n := range []int{1022, 1023, 1024, 1025, 1026, 1280, 2000} {
		block := strings.Repeat("\x00", n)
		modeled := withSize(1, n, slowModeled(block))
		matched := withSize(2, n, literal(0)+match(1, 1000)+match(1, n-1001))
		if n <= 1024 {
			wantUnpacked(t, modeled, "", block)
			wantUnpacked(t, matched, "", block)
		} else {
			wantCorrupt(t, modeled, "")
			wantCorrupt(t, matched, "")
		}
	}
	for n := 1025; n < 65536; n += 1 + n%97 {
		wantCorrupt(t, withSize(1, n, "1"), "")
		wantCorrupt(t, withSize(2, n, "1"), "a")
	}
}

func TestUnpackAtTheLimits(t *testing.T) {
	dict := []byte(noise(512, 256))
	block := noise(981, 256)
	modeled := withSize(1, 981, slowModeled(block))
	literals := noise(908, 256) // 8172 bits, so that 4 more fill the last byte
	matched := withSize(2, 908, slowMatched(literals, ""))
	stored := []byte("\x00" + noise(1024, 256))
	for want, code := range map[string][]byte{noise(1024, 256): stored, block: modeled, literals: matched} {
		if len(code) != 1025 {
			t.Errorf("the method %d: %d bytes", code[0], len(code))
		}
		wantUnpacked(t, code, "", want)
		wantUnpacked(t, code, string(dict), want)
		longer := append(slices.Clone(code), 0)
		wantNotUnpacked(t, "a long code", longer, nil, api.ErrTooLong, -1)
		wantNotUnpacked(t, "a long code and a long dictionary", longer, make([]byte, 513), api.ErrTooLong, -1)
		wantNotUnpacked(t, "a long dictionary", code, make([]byte, 513), api.ErrTooLong, -2)
		wantNotUnpacked(t, "a very long dictionary", code[:1], make([]byte, 70000), api.ErrTooLong, -2)
	}
	wantNotUnpacked(t, "a long code that is corrupt", bytes.Repeat([]byte{9}, 1026), nil, api.ErrTooLong, -1)
	wantNotUnpacked(t, "nothing, and a long dictionary", nil, make([]byte, 513), api.ErrTooLong, -2)
	wantNotUnpacked(t, "a corrupt code and a long dictionary", []byte{3}, make([]byte, 513), api.ErrTooLong, -2)
	wantNotUnpacked(t, "a corrupt code of the greatest length", bytes.Repeat([]byte{9}, 1025), dict, api.ErrCorrupt, -1)
	wantUnpacked(t, append([]byte{2, 3, 0}, filled(match(512, 3))...), string(dict), string(dict[:3]))
}

func TestUnpackShortCodes(t *testing.T) {
	accepted := 0
	for method := range 4 {
		for _, size := range []int{0, 1, 2, 3, 4, 5, 7, 13, 1024, 1025} {
			form := withSize(byte(method), size, "")
			for n := range len(form) + 1 {
				wantUnpackedAsExpected(t, form[:n], "ab")
			}
			for c := range 1024 {
				code := append(form[:3:3], byte(c), byte(c>>8)<<6)
				if size == 1024 && c%64 != 0 {
					continue // these take long
				}
				for n := 3; n <= 5; n++ {
					if wantUnpackedAsExpected(t, code[:n], "ab") {
						accepted++
					}
				}
			}
		}
	}
	if accepted < 10000 {
		t.Errorf("only %d codes are accepted", accepted)
	}
}

// A form may be cut off anywhere, have a wrong bit, or tell a wrong length.
func TestUnpackDamagedCodes(t *testing.T) {
	dict := echoes(40, 9)
	var accepted, refused int
	check := func(code []byte) {
		if wantUnpackedAsExpected(t, code, dict) {
			accepted++
		} else {
			refused++
		}
	}
	for _, block := range []string{noise(30, 6), echoes(60, 20), noise(17, 256)} {
		for _, form := range slowForms(block, dict) {
			for n := range len(form) {
				check(form[:n])
				check(form[n:])
			}
			for at := range 8 * len(form) {
				damaged := slices.Clone(form)
				damaged[at/8] ^= 128 >> (at % 8)
				check(damaged)
				check(append(damaged, 0))
			}
		}
	}
	if accepted < 500 || refused < 500 {
		t.Errorf("%d codes are accepted, %d are refused", accepted, refused)
	}
}

func wantAllPacked(t *testing.T, blocks [][]byte, dict string) [][]byte {
	t.Helper()
	got, f := squeeze.PackAll(blocks, []byte(dict))
	if f != (api.Fault{}) || len(got) != len(blocks) {
		t.Fatalf("%d blocks become %d packed forms, with %v", len(blocks), len(got), f)
	}
	for i, block := range blocks {
		if want := slowPack(string(block), dict); !slices.Equal(got[i], want) {
			t.Errorf("block %d of %d: got % x, want % x", i, len(blocks), got[i], want)
		}
	}
	return got
}

func TestPackAll(t *testing.T) {
	wantAllPacked(t, nil, "")
	wantAllPacked(t, [][]byte{}, noise(512, 256))
	wantAllPacked(t, [][]byte{nil}, "")
	wantAllPacked(t, [][]byte{{7}, nil}, "")
	wantAllPacked(t, [][]byte{{}, []byte("abcde"), nil, []byte("abcde")}, "abcde")
	for _, dict := range []string{"", echoes(300, 30)} {
		var blocks [][]byte
		for n := range 64 {
			block := []string{noise(5*n, 256), noise(5*n, 5), echoes(5*n, 40)}[n%3]
			blocks = append(blocks, []byte(block))
			if n%21 == 0 {
				wantAllPacked(t, blocks, dict)
			}
		}
	}
}

func TestPackAllAtTheLimits(t *testing.T) {
	var blocks [][]byte
	for n := range 64 {
		blocks = append(blocks, []byte(echoes(1024, 4*n+1)))
	}
	wantAllPacked(t, blocks, echoes(512, 100))
}

func TestPackAllFaults(t *testing.T) {
	long := make([]byte, 1025)
	whole := make([]byte, 1024)
	for _, c := range []struct {
		what        string
		blocks      [][]byte
		dict        []byte
		code, index int
	}{
		{"too many blocks", make([][]byte, 65), nil, api.ErrTooMany, -1},
		{"too many long blocks and a long dictionary", slices.Repeat([][]byte{long}, 65), long, api.ErrTooMany, -1},
		{"a long block", [][]byte{long}, nil, api.ErrTooLong, 0},
		{"a long block behind others", [][]byte{whole, nil, long}, nil, api.ErrTooLong, 2},
		{"two long blocks", [][]byte{whole, make([]byte, 5000), nil, long}, nil, api.ErrTooLong, 1},
		{"a long block and a long dictionary", [][]byte{whole, long}, long, api.ErrTooLong, 1},
		{"the last of 64 blocks", append(make([][]byte, 63), long), make([]byte, 512), api.ErrTooLong, 63},
		{"a long dictionary", [][]byte{whole, whole}, make([]byte, 513), api.ErrTooLong, -2},
		{"a long dictionary without blocks", nil, make([]byte, 513), api.ErrTooLong, -2},
		{"a long dictionary for 64 blocks", make([][]byte, 64), long, api.ErrTooLong, -2},
	} {
		got, f := squeeze.PackAll(c.blocks, c.dict)
		wantFault(t, c.what, f, c.code, c.index)
		if len(got) != 0 {
			t.Errorf("%s: %d packed forms beside a fault", c.what, len(got))
		}
	}
}

// spare returns the beginning of longer memory, and all of it.
func spare(text string) (part, whole []byte) {
	whole = []byte(text + strings.Repeat("#", 3000))
	return whole[:len(text)], whole
}

func wantSpared(t *testing.T, what string, whole []byte, text string) {
	t.Helper()
	if string(whole[:len(text)]) != text || strings.Trim(string(whole[len(text):]), "#") != "" {
		t.Errorf("%s: an argument has been changed", what)
	}
}

func TestArgumentsRemain(t *testing.T) {
	dict, allDict := spare("the fox")
	for _, text := range []string{noise(50, 256), noise(90, 5), strings.Repeat("the ox and the fox, ", 7)} {
		block, all := spare(text)
		code, _ := squeeze.Pack(block, dict)
		if _, f := squeeze.PackAll([][]byte{block, dict, block}, dict); f != (api.Fault{}) {
			t.Errorf("PackAll: %v", f)
		}
		wantSpared(t, "a block", all, text)
		before := string(code)
		code, all = spare(before)
		got, _ := squeeze.Unpack(code, dict)
		wantSpared(t, "a packed form", all, before)
		clear(all)
		if string(got) != text {
			t.Errorf("the block of the method %d is shared", before[0])
		}
	}
	wantSpared(t, "a dictionary", allDict, "the fox")
}

// overwrite changes all memory behind a byte string.
func overwrite(b []byte) {
	b = b[:cap(b)]
	for i := range b {
		b[i] = '?'
	}
}

func TestResultsShareNothing(t *testing.T) {
	dict := []byte("the fox")
	for _, text := range []string{noise(50, 256), noise(90, 5), strings.Repeat("the ox and the fox, ", 7)} {
		block := []byte(text)
		want := slowPack(text, string(dict))
		first, _ := squeeze.Pack(block, dict)
		second, _ := squeeze.Pack(block, dict)
		all, _ := squeeze.PackAll([][]byte{block, block, block}, dict)
		overwrite(block)
		overwrite(first)
		overwrite(all[0])
		overwrite(all[2])
		if !slices.Equal(second, want) || !slices.Equal(all[1], want) {
			t.Errorf("packed forms of the method %d share memory", want[0])
		}
		unpacked, _ := squeeze.Unpack(want, dict)
		again, _ := squeeze.Unpack(want, dict)
		overwrite(unpacked)
		if string(again) != text {
			t.Errorf("blocks of the method %d share memory", want[0])
		}
	}
}

func TestConcurrentCalls(t *testing.T) {
	blocks := [][]byte{[]byte(noise(200, 256)), []byte(noise(200, 5)), []byte(echoes(200, 30))}
	dict := echoes(100, 30)
	var group sync.WaitGroup
	for range 8 {
		group.Go(func() {
			packed, f := squeeze.PackAll(blocks, []byte(dict))
			if f != (api.Fault{}) || len(packed) != len(blocks) {
				t.Errorf("%d packed forms and %v", len(packed), f)
				return
			}
			for i, code := range packed {
				wantPacked(t, string(blocks[i]), dict, code)
				wantUnpacked(t, code, dict, string(blocks[i]))
			}
		})
	}
	group.Wait()
}
