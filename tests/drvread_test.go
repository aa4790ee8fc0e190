package tests

import (
	"bytes"
	"math/rand"
	"slices"
	"strings"
	"testing"

	"loop.example/g00538/impl"
)

// Promise 1 for derivations: they are recovered from their encodings, and bytes
// that are decoded are exactly the encoding of the value.

func checkNoDrv(t *testing.T, what string, b []byte) {
	t.Helper()
	if d, ok := impl.DrvRead(b); ok || !sameDrv(d, impl.Drv{}) {
		t.Errorf("%s: DrvRead(%q) = %v, %t", what, b, d, ok)
	}
}

// checkDrvRead fails if DrvRead returns anything but a valid derivation whose
// encoding is b, or the zero value and false, and reports which of them it returned.
func checkDrvRead(t *testing.T, what string, b []byte) bool {
	t.Helper()
	d, ok := impl.DrvRead(b)
	if ok && (!validDrv(d) || !bytes.Equal(encodeDrv(d), b)) || !ok && !sameDrv(d, impl.Drv{}) {
		t.Fatalf("%s: DrvRead(%q) = %v, %t", what, b, d, ok)
	}
	return ok
}

func checkDrvRecovered(t *testing.T, what string, d impl.Drv) {
	t.Helper()
	b, ok := impl.DrvBytes(d)
	if !ok || !bytes.Equal(b, encodeDrv(d)) {
		t.Fatalf("%s: DrvBytes = %q, %t", what, b, ok)
	}
	if got, ok := impl.DrvRead(guarded(b)); !ok || !sameDrv(got, d) {
		t.Fatalf("%s: DrvRead(%q) = %v, %t", what, b, got, ok)
	}
}

func TestDrvsAreRecovered(t *testing.T) {
	for what, d := range validDrvs() {
		checkDrvRecovered(t, what, d)
	}
	random := rand.New(rand.NewSource(53))
	count := 0
	for range 5000 {
		if d := randomDrv(random); validDrv(d) {
			checkDrvRecovered(t, "a random derivation", d)
			count++
		}
	}
	if count < 2000 {
		t.Error("only", count, "random derivations are valid")
	}
}

// What a derivation that is not valid would be encoded as is not its encoding.
func TestDrvReadOfBrokenDerivations(t *testing.T) {
	read := map[bool]int{}
	for what, d := range brokenDrvs() {
		b := encodeDrv(d)
		read[checkDrvRead(t, what, b)]++
		if got, ok := impl.DrvRead(b); ok && sameDrv(got, d) {
			t.Errorf("%s: DrvRead returns it", what)
		}
	}
	if read[false] < 500 {
		t.Error("too few are refused:", read)
	}
}

func TestDrvReadRejects(t *testing.T) {
	q := strings.Repeat("q", 400)
	fine := "D\x00\x00\x01\x01\x03out\x00\x00\x00\x01a\x01x"
	if !checkDrvRead(t, "an encoding", []byte(fine)) {
		t.Error("the encoding itself is refused")
	}
	for what, s := range map[string]string{
		"nothing": "", "the mark": "D", "counts": "D\x00\x00\x01\x00", "no outputs": "D\x00\x00\x00\x00", "no outputs, but operations": "D\x00\x00\x00\x01\x04\x00\x00\x00\x00",
		"another mark": "E" + fine[1:], "a small mark": "d" + fine[1:], "no mark": fine[1:], "a mark of 0": "\x00" + fine[1:], "a mark too much": "D" + fine, "an export": "X" + fine[1:],
		"three outputs": "D\x00\x00\x03\x00\x01a\x01b\x01c", "four sources": "D\x04\x00\x01\x00" + string(bytes.Join(someNames(4), nil)) + "\x01a",
		"four inputs":     "D\x00\x04\x01\x00" + zeros + "\x01a" + zeros + "\x01b" + zeros + "\x01c" + zeros + "\x01d" + "\x01a",
		"nine operations": "D\x00\x00\x01\x09\x01a" + strings.Repeat("\x04\x00\x00\x00\x00", 9),
		"fewer sources":   "D\x02\x00\x01\x00" + zeros + "\x01a", "more sources": "D\x00\x00\x01\x00" + zeros + "\x01a", "part of a source": "D\x01\x00\x01\x00" + zeros[:15] + "\x01a",
		"fewer inputs": "D\x00\x02\x01\x00" + zeros + "\x01a" + "\x01a", "fewer outputs": "D\x00\x00\x02\x00\x01a", "more outputs": "D\x00\x00\x01\x00\x01a\x01b",
		"fewer operations": "D\x00\x00\x01\x02\x03out\x00\x00\x00\x01a\x01x", "more operations": "D\x00\x00\x01\x00\x03out\x00\x00\x00\x01a\x01x",
		"the greatest counts": "D\xff\xff\xff\xff" + q[:300], "the greatest counts and nothing": "D\xff\xff\xff\xff", "an input without a text": "D\x00\x01\x01\x00" + zeros,
		"Code 5": "D\x00\x00\x01\x01\x03out\x05\x00\x00\x00\x00", "Code 255": "D\x00\x00\x01\x01\x03out\xff\x00\x00\x00\x00", "Code of a digit": "D\x00\x00\x01\x01\x03out0\x00\x00\x01a\x01x",
		"Out 1 of 1": "D\x00\x00\x01\x01\x03out\x00\x01\x00\x01a\x01x", "Out 255": "D\x00\x00\x01\x01\x03out\x00\xff\x00\x01a\x01x", "Out 2 of 2": "D\x00\x00\x02\x01\x01a\x01b\x01\x02\x00\x01a\x00",
		"Arg 10": "D\x00\x00\x01\x01\x03out\x01\x00\x0a\x01a\x00", "Arg 255": "D\x00\x00\x01\x01\x03out\x03\x00\xff\x01a\x00", "Arg of a text": "D\x00\x00\x01\x01\x03out\x00\x00\x01\x01a\x01x",
		"Out of a failure": "D\x00\x00\x01\x01\x03out\x04\x01\x00\x00\x00", "Out of an emission": "D\x00\x00\x02\x01\x01a\x01b\x02\x01\x00\x00\x01x", "Out of a build": "D\x00\x00\x02\x01\x01a\x01b\x03\x01\x00\x01a\x00",
		"Name of an emission": "D\x00\x00\x01\x01\x03out\x02\x00\x00\x01a\x01x", "Text of a build": "D\x00\x00\x01\x01\x03out\x03\x00\x00\x01a\x01x", "Text of a copy": "D\x00\x00\x01\x01\x03out\x01\x00\x00\x01a\x01x",
		"no Name": "D\x00\x00\x01\x01\x03out\x00\x00\x00\x00\x01x", "101 bytes of Text": "D\x00\x00\x01\x01\x03out\x02\x00\x00\x00\x65" + q[:101], "128 bytes of Text": "D\x00\x00\x01\x01\x03out\x02\x00\x00\x00\x80\x01" + q[:128],
		"9 bytes of Name": "D\x00\x00\x01\x01\x03out\x00\x00\x00\x09aaaaaaaaa\x00", "9 bytes of an output": "D\x00\x00\x01\x00\x09aaaaaaaaa",
		"a text longer than its place": "D\x00\x00\x01\x01\x03out\x00\x00\x00\x01a\x02x", "an output longer than its place": "D\x00\x00\x01\x00\x04out", "a number that goes on": "D\x00\x00\x01\x00\x83",
		"Text without bytes": "D\x00\x00\x01\x01\x03out\x00\x00\x00\x01a\x01", "no Text": "D\x00\x00\x01\x01\x03out\x00\x00\x00\x01a", "no fields": "D\x00\x00\x01\x01\x03out\x00", "no Arg": "D\x00\x00\x01\x01\x03out\x00\x00",
		"long number of an output": "D\x00\x00\x01\x00\x83\x00out", "long number of a Name": "D\x00\x00\x01\x01\x03out\x00\x00\x00\x81\x00a\x01x", "long number of a Text": "D\x00\x00\x01\x01\x03out\x00\x00\x00\x01a\x81\x00x",
		"long number of nothing": "D\x00\x00\x01\x01\x03out\x04\x00\x00\x80\x00\x00", "longer number of nothing": "D\x00\x00\x01\x01\x03out\x04\x00\x00\x00\x80\x80\x00", "a count of two bytes": "D\x80\x00\x00\x01\x00\x01a",
		"sources descending": "D\x02\x00\x01\x00" + steep + zeros + "\x01a", "inputs descending": "D\x00\x02\x01\x00" + zeros + "\x01b" + zeros + "\x01a" + "\x01a", "outputs descending": "D\x00\x00\x02\x00\x01b\x01a", "an output twice": "D\x00\x00\x02\x00\x01a\x01a",
		"a source of other characters": "D\x01\x00\x01\x00" + "e" + zeros[1:] + "\x01a", "an input of other characters": "D\x00\x01\x01\x00" + "u" + zeros[1:] + "\x01a\x01a",
		"a byte behind": fine + "\x00", "a byte of the mark behind": fine + "D", "two of them": fine + fine, "a text": "text 0", "zeros": strings.Repeat("\x00", 50),
	} {
		checkNoDrv(t, what, []byte(s))
	}
	checkNoDrv(t, "nil", nil)
}

func TestDrvReadRejectsManyBytes(t *testing.T) {
	for _, n := range []int{401, 402, 405, 1000, 100000, 5000000} {
		for what, b := range map[string][]byte{"marks": []byte("D"), "zeros": {0}, "failures": {4, 0, 0, 0, 0}, "counts": {255}} {
			checkNoDrv(t, "many "+what, bytes.Repeat(b, n/len(b)+1)[:n])
		}
		whole := make([]byte, n)
		copy(whole, encodeDrv(sampleDrv()))
		checkNoDrv(t, "zeros behind an encoding", whole)
	}
	for n := 401; n <= 500; n++ {
		checkNoDrv(t, "too many bytes", encodeDrv(filled(doing(), n)))
		checkNoDrv(t, "too many bytes", encodeDrv(filled(sampleDrv(), n)))
	}
}

// Bytes that are almost an encoding are the encoding of another derivation or of none.
func TestDrvReadOfChangedBytes(t *testing.T) {
	for what, d := range validDrvs() {
		b := encodeDrv(d)
		for i := range b {
			checkNoDrv(t, what+", shortened", b[:i])
			checkNoDrv(t, what+", without its beginning", b[i+1:])
			for _, c := range []byte{0, 1, 2, 3, 4, 5, 8, 9, 10, 100, 101, 128, 'D', 'a', 'o', '-', '.', 255, b[i] + 1, b[i] - 1, b[i] ^ 128} {
				changed := bytes.Clone(b)
				changed[i] = c
				if checkDrvRead(t, what+", changed", changed) && i == 0 && c != 'D' {
					t.Errorf("%s: the first byte %q is accepted", what, c)
				}
			}
			checkDrvRead(t, what+", without a byte", append(bytes.Clone(b[:i]), b[i+1:]...))
			checkDrvRead(t, what+", with a byte twice", append(append(bytes.Clone(b[:i]), b[i]), b[i:]...))
		}
		for c := range 256 {
			checkNoDrv(t, what+", lengthened", append(bytes.Clone(b), byte(c)))
			if c != 'D' {
				checkNoDrv(t, what+", another first byte", append([]byte{byte(c)}, b[1:]...))
			}
		}
	}
}

func TestDrvReadOfAllBytesInTheSample(t *testing.T) {
	b := encodeDrv(sampleDrv())
	read := map[bool]int{}
	for i := range b {
		for c := range 256 {
			changed := bytes.Clone(b)
			changed[i] = byte(c)
			read[checkDrvRead(t, "the sample", changed)]++
		}
	}
	if read[true] < 1000 || read[false] < 1000 {
		t.Error("too few of one sort:", read)
	}
}

// longTexts returns the encodings of d in which one text has another number in front.
func longTexts(d impl.Drv, number func(n int) []byte) [][]byte {
	count := 0
	encodeWith(d, func(t []byte) []byte { count++; return nil })
	var all [][]byte
	for k := range count {
		at := -1
		all = append(all, encodeWith(d, func(t []byte) []byte {
			at++
			if at == k {
				return append(number(len(t)), t...)
			}
			return putText(t)
		}))
	}
	return all
}

func TestDrvReadOfLongNumbers(t *testing.T) {
	for what, d := range validDrvs() {
		for zeros := range 5 {
			for _, b := range longTexts(d, func(n int) []byte {
				long := impl.PutNum(nil, n)
				long[len(long)-1] |= 128
				return append(append(long, bytes.Repeat([]byte{128}, zeros)...), 0)
			}) {
				checkNoDrv(t, what+", a long number", b)
			}
		}
		for _, more := range []int{401, 500, 128 * 128, impl.MaxNum - 128} {
			for _, b := range longTexts(d, func(n int) []byte { return impl.PutNum(nil, n+more) }) {
				checkNoDrv(t, what+", a text longer than its place", b)
			}
		}
		for _, more := range []int{-1, 1, 2, 16, 100} {
			for _, b := range longTexts(d, func(n int) []byte { return impl.PutNum(nil, n+more) }) {
				checkDrvRead(t, what+", another number", b)
			}
		}
	}
}

func TestDrvReadOfAllCounts(t *testing.T) {
	d := sampleDrv()
	for _, counts := range [][4]int{{0, 0, 1, 0}, {3, 3, 2, 8}, {1, 0, 2, 1}, {2, 3, 2, 5}} {
		for i := range 4 {
			for c := range 256 {
				b := encodeDrv(d)
				for j, n := range counts {
					b[1+j] = byte(n)
				}
				b[1+i] = byte(c)
				same := slices.Equal(b[1:5], []byte{2, 3, 2, 5})
				if checkDrvRead(t, "other counts", b) != same {
					t.Errorf("DrvRead(%q) = %t", b, !same)
				}
			}
		}
	}
}

// All bytes of an operation that differs in up to two of its numbers.
func TestDrvReadOfAllOperations(t *testing.T) {
	read := map[bool]int{}
	for code := range 256 {
		for _, out := range []int{0, 1, 2, 3, 128, 255} {
			for _, arg := range []int{0, 1, 8, 9, 10, 11, 128, 255} {
				for _, rest := range []string{"\x00\x00", "\x01a\x00", "\x00\x01x", "\x01a\x01x", "\x01A\x00", "\x01.\x01x"} {
					b := append([]byte("D\x00\x00\x02\x01\x01a\x01b"), byte(code), byte(out), byte(arg))
					read[checkDrvRead(t, "an operation", append(b, rest...))]++
				}
			}
		}
	}
	// A writing has 2 outputs, 2 texts; a copy 2 outputs, 4 arguments; an emission 2 texts; a build 4 arguments.
	if want := 2*2 + 2*4 + 2 + 4 + 1; read[true] != want {
		t.Errorf("%d operations are read instead of %d", read[true], want)
	}
}

func TestDrvReadOfRandomBytes(t *testing.T) {
	random := rand.New(rand.NewSource(54))
	accepted := 0
	for range 200000 {
		b := []byte("D\x00\x00\x01\x00\x01a")
		b[4] = byte(random.Intn(3))
		for range random.Intn(13) {
			b = append(b, "\x00\x00\x00\x01\x01\x02\x03\x04abx"[random.Intn(11)])
		}
		if checkDrvRead(t, "random bytes", b) {
			accepted++
		}
	}
	if accepted < 100 {
		t.Error("only", accepted, "derivations were read")
	}
}

func TestDrvReadMemory(t *testing.T) {
	for what, d := range validDrvs() {
		b := encodeDrv(d)
		checkCall(t, what+": DrvRead", impl.DrvRead, b)
		checkCall(t, what+": DrvRead of less", impl.DrvRead, b[:len(b)-1])
		checkCall(t, what+": DrvRead of more", impl.DrvRead, append(bytes.Clone(b), 0))
		if d, ok := impl.DrvRead(b[: len(b)-1 : len(b)]); ok || !sameDrv(d, impl.Drv{}) {
			t.Errorf("%s: DrvRead reads behind the length", what)
		}
	}
}
