package tests

import (
	"bytes"
	"crypto/sha256"
	"encoding/base32"
	"encoding/binary"
	"encoding/hex"
	"math"
	"math/rand"
	"slices"
	"strings"
	"testing"

	"loop.example/g00538/impl"
)

// The tests of promise 1, as far as it speaks of chapter 1.

const digits = "0123456789abcdfghijklmnpqrsvwxyz"

var numbers = []int{0, 1, 2, 127, 128, 129, 255, 256, 300, 16383, 16384, 1<<21 - 1, 1 << 21, 1<<28 - 1, 1 << 28, impl.MaxNum - 1, impl.MaxNum}

var notNumbers = []int{-1, -2, -128, math.MinInt, impl.MaxNum + 1, 1 << 32, 1<<35 - 1, 1 << 35, math.MaxInt}

var standard32 = base32.NewEncoding(digits).WithPadding(base32.NoPadding)

// pattern returns n bytes that depend on their position.
func pattern(n int) []byte {
	b := make([]byte, n)
	for i := range b {
		b[i] = byte(i*i + i>>3 + 7*n)
	}
	return b
}

func checkNoNum(t *testing.T, b []byte, at int) {
	t.Helper()
	if n, end := impl.GetNum(b, at); n != 0 || end != -1 {
		t.Errorf("GetNum(%v, %d) = %d, %d", b, at, n, end)
	}
}

func checkNoText(t *testing.T, b []byte, at int) {
	t.Helper()
	if w, end := impl.GetText(b, at); len(w) != 0 || end != -1 {
		t.Errorf("GetText(%.20v, %d) = %.20v, %d", b, at, w, end)
	}
}

func TestLimits(t *testing.T) {
	if impl.MaxNum != 2147483647 || impl.MaxText != 400 {
		t.Error(impl.MaxNum, impl.MaxText)
	}
}

func TestPutNum(t *testing.T) {
	for n, want := range map[int]string{0: "\x00", 1: "\x01", 127: "\x7f", 128: "\x80\x01", 300: "\xac\x02", 16384: "\x80\x80\x01", impl.MaxNum: "\xff\xff\xff\xff\x07"} {
		if got := impl.PutNum(nil, n); string(got) != want {
			t.Errorf("PutNum(nil, %d) = %v", n, got)
		}
	}
	for _, n := range numbers {
		for _, b := range [][]byte{nil, {}, {128}, {1, 2, 3}} {
			want := binary.AppendUvarint(bytes.Clone(b), uint64(n))
			if got := impl.PutNum(guarded(b), n); !bytes.Equal(got, want) {
				t.Errorf("PutNum(%v, %d) = %v", b, n, got)
			}
		}
	}
}

func TestPutNumOfNoNumber(t *testing.T) {
	for _, n := range notNumbers {
		checkAbsent(t, "PutNum of nothing and no number", impl.PutNum(nil, n))
		if got := impl.PutNum([]byte{5, 6}, n); string(got) != "\x05\x06" {
			t.Errorf("PutNum([5 6], %d) = %v", n, got)
		}
	}
}

func TestNumbersAreRecovered(t *testing.T) {
	random := rand.New(rand.NewSource(1))
	all := slices.Clone(numbers)
	for range 2000 {
		all = append(all, random.Intn(impl.MaxNum)>>random.Intn(31))
	}
	for _, n := range all {
		for _, before := range [][]byte{nil, {0}, {128, 128}} {
			whole := impl.PutNum(before, n)
			for _, b := range [][]byte{whole, append(bytes.Clone(whole), 1), append(bytes.Clone(whole), 128)} {
				if got, end := impl.GetNum(b, len(before)); got != n || end != len(whole) {
					t.Fatalf("GetNum(%v, %d) = %d, %d instead of %d, %d", b, len(before), got, end, n, len(whole))
				}
			}
		}
	}
}

func TestGetNumRejectsIndices(t *testing.T) {
	for _, b := range [][]byte{nil, {}, {1}, {1, 2, 3}} {
		for _, at := range []int{-1, -2, math.MinInt, len(b), len(b) + 1, len(b) + 5, math.MaxInt - 4, math.MaxInt} {
			checkNoNum(t, b, at)
		}
	}
}

func TestGetNumRejectsBytes(t *testing.T) {
	for _, s := range []string{
		// longer than needed
		"\x80\x00", "\x81\x00", "\xff\x00", "\x80\x80\x00", "\xff\xff\xff\x00", "\xff\xff\xff\xff\x00", "\x80\x80\x80\x80\x00",
		// longer than five bytes
		"\x80\x80\x80\x80\x80", "\x80\x80\x80\x80\x80\x00", "\x80\x80\x80\x80\x80\x01", "\xff\xff\xff\xff\x87\x00", "\x81\x80\x80\x80\x80\x80\x80\x80\x80\x01", "\x81\x80\x80\x80\x80\x80\x80\x80\x80\x80\x02",
		// cut short
		"\x80", "\xff", "\x80\x80", "\xff\xff\xff", "\xff\xff\xff\xff",
		// above MaxNum
		"\x80\x80\x80\x80\x08", "\xff\xff\xff\xff\x08", "\xff\xff\xff\xff\x0f", "\x80\x80\x80\x80\x10", "\x80\x80\x80\x80\x40", "\xff\xff\xff\xff\x7f",
	} {
		checkNoNum(t, []byte(s), 0)
		checkNoNum(t, []byte("\x01"+s), 1)
	}
}

func TestGetNumStaysWithinLength(t *testing.T) {
	checkNoNum(t, []byte{128, 1}[:1], 0)
	checkNoNum(t, []byte{1, 2, 3}[:1], 1)
}

func TestDecodedNumbersAreEncodings(t *testing.T) {
	check := func(b []byte) {
		n, end := impl.GetNum(b, 0)
		if end != -1 && !bytes.Equal(impl.PutNum(nil, n), b[:end]) {
			t.Fatalf("GetNum(%v, 0) = %d, %d", b, n, end)
		}
		if end == -1 && n != 0 {
			t.Fatalf("GetNum(%v, 0) = %d without an end", b, n)
		}
	}
	for x := range 1 << 16 {
		check([]byte{byte(x)})
		check([]byte{byte(x), byte(x >> 8)})
	}
	random := rand.New(rand.NewSource(2))
	for range 20000 {
		b := make([]byte, random.Intn(7))
		for i := range b {
			b[i] = []byte{0, 1, 7, 8, 127, 128, 129, 255}[random.Intn(8)]
		}
		check(b)
	}
}

func TestPutText(t *testing.T) {
	for _, size := range []int{0, 1, 2, 127, 128, 200, 399, 400} {
		text := pattern(size)
		want := append(binary.AppendUvarint([]byte{9}, uint64(size)), text...)
		if got := impl.PutText(guarded([]byte{9}), guarded(text)); !bytes.Equal(got, want) {
			t.Errorf("PutText of %d bytes = %v", size, got)
		}
	}
	if got := impl.PutText(nil, nil); string(got) != "\x00" {
		t.Errorf("PutText(nil, nil) = %v", got)
	}
}

func TestPutTextOfLongText(t *testing.T) {
	for _, size := range []int{401, 402, 16384, 100001} {
		checkAbsent(t, "PutText of nothing and a long text", impl.PutText(nil, pattern(size)))
		if got := impl.PutText([]byte{5, 6}, pattern(size)); string(got) != "\x05\x06" {
			t.Errorf("PutText of %d bytes = %.20v", size, got)
		}
	}
}

func TestTextsAreRecovered(t *testing.T) {
	for size := 0; size <= impl.MaxText; size++ {
		text := pattern(size)
		for _, before := range [][]byte{nil, {0}, {128, 128}} {
			whole := impl.PutText(before, text)
			for _, b := range [][]byte{whole, append(bytes.Clone(whole), 1, 2, 3)} {
				if got, end := impl.GetText(b, len(before)); !bytes.Equal(got, text) || end != len(whole) {
					t.Fatalf("GetText of %d bytes at %d = %v, %d", size, len(before), got, end)
				}
			}
		}
	}
}

func TestGetTextRejectsIndices(t *testing.T) {
	for _, b := range [][]byte{nil, {}, {0}, {1, 2, 0}} {
		for _, at := range []int{-1, -2, math.MinInt, len(b), len(b) + 1, len(b) + 5, math.MaxInt - 4, math.MaxInt} {
			checkNoText(t, b, at)
		}
	}
}

func TestGetTextRejectsBytes(t *testing.T) {
	for _, s := range []string{
		// cut short
		"\x01", "\x02a", "\x7fabc", "\x80\x01abc", "\x90\x03abc",
		// no number in front
		"\x80", "\x80\x00", "\x81\x00a", "\x80\x80\x80\x80\x80\x00", "\xff\xff\xff\xff\x08abc",
		// a number that is no length
		"\xff\xff\xff\xff\x07abc",
	} {
		checkNoText(t, []byte(s), 0)
		checkNoText(t, []byte("\x00"+s), 1)
	}
	for _, size := range []int{401, 402, 16384, 100000} {
		checkNoText(t, append(impl.PutNum(nil, size), pattern(size)...), 0)
	}
	whole := impl.PutText(nil, pattern(400))
	for size := range whole {
		checkNoText(t, whole[:size], 0)
	}
}

func TestDecodedTextsAreEncodings(t *testing.T) {
	random := rand.New(rand.NewSource(3))
	for range 20000 {
		b := make([]byte, random.Intn(8))
		for i := range b {
			b[i] = []byte{0, 1, 2, 3, 4, 127, 128, 255}[random.Intn(8)]
		}
		w, end := impl.GetText(b, 0)
		if end != -1 && !bytes.Equal(impl.PutText(nil, w), b[:end]) || end == -1 && len(w) != 0 {
			t.Fatalf("GetText(%v, 0) = %v, %d", b, w, end)
		}
	}
}

func TestSha256OfKnownTexts(t *testing.T) {
	for text, want := range map[string]string{
		"":    "e3b0c44298fc1c149afbf4c8996fb92427ae41e4649b934ca495991b7852b855",
		"abc": "ba7816bf8f01cfea414140de5dae2223b00361a396177a9cb410ff61f20015ad",
		"abcdbcdecdefdefgefghfghighijhijkijkljklmklmnlmnomnopnopq": "248d6a61d20638b8e5c026930c3e6039a33ce45964ff2167f6ecedd419db06c1",
	} {
		if got := hex.EncodeToString(impl.Sha256([]byte(text))); got != want {
			t.Errorf("Sha256(%q) = %s", text, got)
		}
	}
}

func TestSha256OfAllLengths(t *testing.T) {
	sizes := []int{1000, 4095, 4096, 65535, 65536, 89999, 90001, 99999, 100000}
	for size := range 300 {
		sizes = append(sizes, size)
	}
	for _, size := range sizes {
		b := pattern(size)
		want := sha256.Sum256(b)
		if got := impl.Sha256(guarded(b)); !bytes.Equal(got, want[:]) {
			t.Errorf("Sha256 of %d bytes = %x", size, got)
		}
	}
	for _, size := range []int{100001, 100002, 200000} {
		checkAbsent(t, "Sha256 of a long text", impl.Sha256(pattern(size)))
	}
}

func TestBase32(t *testing.T) {
	if got := impl.Base32([]byte{0, 255, 1}); string(got) != "03zh2" {
		t.Errorf("Base32([0 255 1]) = %s", got)
	}
	checkAbsent(t, "Base32 of nothing", impl.Base32(nil))
	for size := range 65 {
		for _, b := range [][]byte{pattern(size), make([]byte, size), bytes.Repeat([]byte{255}, size)} {
			if got := impl.Base32(guarded(b)); string(got) != standard32.EncodeToString(b) {
				t.Errorf("Base32(%v) = %s", b, got)
			}
		}
	}
	for _, size := range []int{65, 66, 70, 1000} {
		checkAbsent(t, "Base32 of many bytes", impl.Base32(make([]byte, size)))
	}
}

func TestBytesAreRecoveredFromBase32(t *testing.T) {
	check := func(b []byte) {
		if got, ok := impl.Base32Read(guarded(impl.Base32(b))); !ok || !bytes.Equal(got, b) {
			t.Fatalf("Base32Read of the Base32 of %v = %v, %t", b, got, ok)
		}
	}
	for size := range 65 {
		check(pattern(size))
		check(make([]byte, size))
		check(bytes.Repeat([]byte{255}, size))
	}
	for x := range 1 << 16 {
		check([]byte{byte(x)})
		check([]byte{byte(x), byte(x >> 8)})
	}
	if got, ok := impl.Base32Read(nil); !ok || len(got) != 0 {
		t.Errorf("Base32Read(nil) = %v, %t", got, ok)
	}
}

func checkNoBase32(t *testing.T, b []byte) {
	t.Helper()
	if got, ok := impl.Base32Read(b); ok || len(got) != 0 {
		t.Errorf("Base32Read(%q) = %v, %t", b, got, ok)
	}
}

func TestBase32ReadRejectsOtherCharacters(t *testing.T) {
	for c := range 256 {
		if strings.IndexByte(digits, byte(c)) >= 0 {
			continue
		}
		for i := range 8 {
			b := []byte("00000000")
			b[i] = byte(c)
			checkNoBase32(t, b)
		}
	}
	for _, s := range []string{"e0", "0o", "tt", "u0", "AA", "00\n", "00=", "00======", " 00", "0\u0661", "\u20ac", "\ufffd00", "0\xff"} {
		checkNoBase32(t, []byte(s))
	}
}

func TestBase32ReadRejectsLengths(t *testing.T) {
	for size := range 140 {
		b := bytes.Repeat([]byte("0"), size)
		_, ok := impl.Base32Read(b)
		if want := size <= 103 && size%8 != 1 && size%8 != 3 && size%8 != 6; ok != want {
			t.Errorf("Base32Read of %d characters: %t", size, ok)
		}
		if !ok {
			checkNoBase32(t, b)
		}
	}
	for _, size := range []int{65, 70, 1000} {
		checkNoBase32(t, []byte(standard32.EncodeToString(make([]byte, size))))
	}
}

func TestBase32ReadRejectsMissingBits(t *testing.T) {
	for _, s := range []string{"03zh3", "01", "02", "0z", "0001", "0008", "00001", "0000001", "0000004", "000000000z"} {
		checkNoBase32(t, []byte(s))
	}
	for size := range 64 {
		b := impl.Base32(pattern(size + 1))
		missing := len(b)*5 - (size+1)*8
		for bit := range missing {
			wrong := bytes.Clone(b)
			last := strings.IndexByte(digits, wrong[len(b)-1])
			wrong[len(b)-1] = digits[last|1<<bit]
			checkNoBase32(t, wrong)
		}
	}
}

func TestBase32ReadsExactlyEncodings(t *testing.T) {
	encodings := map[string]bool{}
	for x := range 256 {
		encodings[standard32.EncodeToString([]byte{byte(x)})] = true
	}
	for x := range 1 << 16 {
		b := []byte{byte(x), byte(x >> 8)}
		if _, ok := impl.Base32Read(b); ok != encodings[string(b)] {
			t.Fatalf("Base32Read(%q): %t", b, ok)
		}
	}
	random := rand.New(rand.NewSource(4))
	for range 20000 {
		b := make([]byte, random.Intn(20))
		for i := range b {
			b[i] = "0001zgh8e"[random.Intn(9)]
		}
		got, ok := impl.Base32Read(b)
		if ok && !bytes.Equal(impl.Base32(got), b) || !ok && len(got) != 0 {
			t.Fatalf("Base32Read(%q) = %v, %t", b, got, ok)
		}
	}
}

func TestNameOk(t *testing.T) {
	for _, s := range []string{"0123456789abcdfg", "hijklmnpqrsvwxyz", "0000000000000000", "zzzzzzzzzzzzzzzz"} {
		if !impl.NameOk(guarded([]byte(s))) {
			t.Errorf("NameOk(%q) is false", s)
		}
	}
	for size := range 40 {
		if ok := impl.NameOk(bytes.Repeat([]byte("a"), size)); ok != (size == 16) {
			t.Errorf("NameOk of %d characters: %t", size, ok)
		}
	}
	for c := range 256 {
		for i := range 16 {
			b := []byte("0123456789abcdfg")
			b[i] = byte(c)
			if ok := impl.NameOk(b); ok != (strings.IndexByte(digits, byte(c)) >= 0) {
				t.Errorf("NameOk(%q): %t", b, ok)
			}
		}
	}
	for _, s := range []string{"", "0123456789abcdfe", "0123456789ABCDFG", "\u20ac0123456789abc", "\ufffd0123456789abc", "0123456789abcdf\u0661"} {
		if impl.NameOk([]byte(s)) {
			t.Errorf("NameOk(%q) is true", s)
		}
	}
}

func TestNameOf(t *testing.T) {
	for _, kind := range []byte{0, 'f', 'o', 't', 255} {
		for _, size := range []int{0, 1, 54, 55, 63, 64, 400, 89999, 90000} {
			b := pattern(size)
			sum := sha256.Sum256(append([]byte{kind}, b...))
			got := impl.NameOf(kind, guarded(b))
			if string(got) != standard32.EncodeToString(sum[:10]) || !impl.NameOk(got) {
				t.Errorf("NameOf(%d, %d bytes) = %s", kind, size, got)
			}
		}
		for _, size := range []int{90001, 99999, 100000, 100001} {
			checkAbsent(t, "NameOf a long text", impl.NameOf(kind, pattern(size)))
		}
	}
	if got := impl.NameOf('t', nil); !bytes.Equal(got, impl.NameOf('t', []byte{})) || len(got) != 16 {
		t.Errorf("NameOf('t', nil) = %s", got)
	}
}

func TestCodecMemoryOfNumbers(t *testing.T) {
	for _, n := range append(slices.Clone(numbers), notNumbers...) {
		put := func(args ...[]byte) []byte { return impl.PutNum(args[0], n) }
		checkMemory(t, "PutNum", put, nil)
		checkMemory(t, "PutNum", put, []byte{1, 2, 3})
	}
	get := func(args ...[]byte) []byte {
		n, end := impl.GetNum(args[0], 0)
		return []byte{byte(n), byte(end)}
	}
	checkMemory(t, "GetNum", get, []byte{172, 2, 1})
	checkMemory(t, "GetNum", get, []byte{128})
}

func TestCodecMemoryOfTexts(t *testing.T) {
	put := func(args ...[]byte) []byte { return impl.PutText(args[0], args[1]) }
	for _, size := range []int{0, 1, 30, 400, 401} {
		checkMemory(t, "PutText", put, nil, pattern(size))
		checkMemory(t, "PutText", put, []byte{1, 2, 3}, pattern(size))
	}
	get := func(args ...[]byte) []byte {
		w, _ := impl.GetText(args[0], 1)
		return w
	}
	for _, s := range []string{"\x00\x00", "\x00\x00abc", "\x00\x03abc", "\x00\x03abcdef", "\x00\x04abc"} {
		checkMemory(t, "GetText", get, []byte(s))
	}
	whole := []byte("abcdef")
	if got := impl.PutText(whole[:3], whole[1:5]); string(got) != "abc\x04bcde" || string(whole) != "abcdef" {
		t.Errorf("PutText of overlapping arguments = %q, and they become %q", got, whole)
	}
}

func TestCodecMemoryOfHashesAndNames(t *testing.T) {
	hash := func(args ...[]byte) []byte { return impl.Sha256(args[0]) }
	name := func(args ...[]byte) []byte { return impl.NameOf('t', args[0]) }
	write := func(args ...[]byte) []byte { return impl.Base32(args[0]) }
	for _, size := range []int{0, 1, 20, 55, 56, 63, 64, 65, 128, 90001, 100001} {
		checkMemory(t, "Sha256", hash, pattern(size))
		checkMemory(t, "NameOf", name, pattern(size))
		checkMemory(t, "Base32", write, pattern(size))
	}
	read := func(args ...[]byte) []byte {
		b, _ := impl.Base32Read(args[0])
		return b
	}
	is := func(args ...[]byte) []byte {
		if impl.NameOk(args[0]) {
			return []byte{1}
		}
		return nil
	}
	for _, s := range []string{"", "03zh2", "03zh3", "0e", "0123456789abcdfg", "0123456789abcdfe"} {
		checkMemory(t, "Base32Read", read, []byte(s))
		checkMemory(t, "NameOk", is, []byte(s))
	}
}
