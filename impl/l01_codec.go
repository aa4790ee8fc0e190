package impl

import (
	"bytes"
	"math/bits"
	"strings"
)

const MaxNum = 2147483647
const MaxText = 400

const maxVarint = 5
const maxHashed = 100000
const maxNamed = 90000
const maxCoded = 64
const maxDigits = (maxCoded*8 + 4) / 5

const nameLen = 16
const nameBytes = 10

const blockLen = 64

// digits lacks e, o, t and u.
const digits = "0123456789abcdfghijklmnpqrsvwxyz"

// roundKeys are the constants K of FIPS 180-4, section 4.2.2.
var roundKeys = [64]uint32{
	0x428a2f98, 0x71374491, 0xb5c0fbcf, 0xe9b5dba5, 0x3956c25b, 0x59f111f1, 0x923f82a4, 0xab1c5ed5,
	0xd807aa98, 0x12835b01, 0x243185be, 0x550c7dc3, 0x72be5d74, 0x80deb1fe, 0x9bdc06a7, 0xc19bf174,
	0xe49b69c1, 0xefbe4786, 0x0fc19dc6, 0x240ca1cc, 0x2de92c6f, 0x4a7484aa, 0x5cb0a9dc, 0x76f988da,
	0x983e5152, 0xa831c66d, 0xb00327c8, 0xbf597fc7, 0xc6e00bf3, 0xd5a79147, 0x06ca6351, 0x14292967,
	0x27b70a85, 0x2e1b2138, 0x4d2c6dfc, 0x53380d13, 0x650a7354, 0x766a0abb, 0x81c2c92e, 0x92722c85,
	0xa2bfe8a1, 0xa81a664b, 0xc24b8b70, 0xc76c51a3, 0xd192e819, 0xd6990624, 0xf40e3585, 0x106aa070,
	0x19a4c116, 0x1e376c08, 0x2748774c, 0x34b0bcb5, 0x391c0cb3, 0x4ed8aa4a, 0x5b9cca4f, 0x682e6ff3,
	0x748f82ee, 0x78a5636f, 0x84c87814, 0x8cc70208, 0x90befffa, 0xa4506ceb, 0xbef9a3f7, 0xc67178f2,
}

// PutNum appends to a copy: append could write behind b.
func PutNum(b []byte, n int) []byte {
	return appendNum(bytes.Clone(b), n)
}

// appendNum may write behind b; its callers pass memory of their own.
func appendNum(b []byte, n int) []byte {
	if n < 0 || n > MaxNum {
		return b
	}
	for ; n >= 128; n >>= 7 {
		b = append(b, byte(n)|128)
	}
	return append(b, byte(n))
}

func GetNum(b []byte, at int) (int, int) {
	if at < 0 || at >= len(b) {
		return 0, -1
	}
	n := 0
	for i, c := range b[at:min(at+maxVarint, len(b))] {
		n |= int(c&127) << (7 * i)
		if c >= 128 {
			continue
		}
		// A last byte of 0 behind others adds nothing: the encoding would not be the only one.
		if n > MaxNum || c == 0 && i > 0 {
			return 0, -1
		}
		return n, at + i + 1
	}
	return 0, -1
}

func PutText(b []byte, t []byte) []byte {
	return appendText(bytes.Clone(b), t)
}

// appendText may write behind b; its callers pass memory of their own.
func appendText(b []byte, t []byte) []byte {
	if len(t) > MaxText {
		return b
	}
	return append(appendNum(b, len(t)), t...)
}

func GetText(b []byte, at int) ([]byte, int) {
	n, from := GetNum(b, at)
	if from < 0 || n > MaxText || n > len(b)-from {
		return nil, -1
	}
	return bytes.Clone(b[from : from+n]), from + n
}

func Sha256(b []byte) []byte {
	if len(b) > maxHashed {
		return nil
	}
	h := hashWords{
		0x6a09e667, 0xbb67ae85, 0x3c6ef372, 0xa54ff53a,
		0x510e527f, 0x9b05688c, 0x1f83d9ab, 0x5be0cd19,
	}
	whole := len(b) / blockLen * blockLen
	h.mixAll(b[:whole])
	h.mixAll(padded(b[whole:], len(b)))
	return h.sum()
}

// padded completes the rest of a message of that length to whole blocks, in a copy.
func padded(rest []byte, length int) []byte {
	p := append(bytes.Clone(rest), 128)
	for len(p)%blockLen != blockLen-8 {
		p = append(p, 0)
	}
	for shift := 56; shift >= 0; shift -= 8 {
		p = append(p, byte(length*8>>shift))
	}
	return p
}

type hashWords [8]uint32

func (h *hashWords) mixAll(blocks []byte) {
	for i := 0; i < len(blocks); i += blockLen {
		h.mix(blocks[i : i+blockLen])
	}
}

// mix uses the names of FIPS 180-4, section 6.2.2, but for its variable h, which is here z.
func (h *hashWords) mix(block []byte) {
	w := schedule(block)
	a, b, c, d, e, f, g, z := h[0], h[1], h[2], h[3], h[4], h[5], h[6], h[7]
	for i, k := range roundKeys {
		s1 := bits.RotateLeft32(e, -6) ^ bits.RotateLeft32(e, -11) ^ bits.RotateLeft32(e, -25)
		t1 := z + s1 + (e&f ^ ^e&g) + k + w[i]
		s0 := bits.RotateLeft32(a, -2) ^ bits.RotateLeft32(a, -13) ^ bits.RotateLeft32(a, -22)
		t2 := s0 + (a&b ^ a&c ^ b&c)
		a, b, c, d, e, f, g, z = t1+t2, a, b, c, d+t1, e, f, g
	}
	for i, v := range [8]uint32{a, b, c, d, e, f, g, z} {
		h[i] += v
	}
}

func schedule(block []byte) [64]uint32 {
	var w [64]uint32
	for i, c := range block {
		w[i/4] = w[i/4]<<8 | uint32(c)
	}
	for i := 16; i < len(w); i++ {
		x, y := w[i-15], w[i-2]
		s0 := bits.RotateLeft32(x, -7) ^ bits.RotateLeft32(x, -18) ^ x>>3
		s1 := bits.RotateLeft32(y, -17) ^ bits.RotateLeft32(y, -19) ^ y>>10
		w[i] = w[i-16] + s0 + w[i-7] + s1
	}
	return w
}

func (h *hashWords) sum() []byte {
	var out []byte
	for _, v := range h {
		out = append(out, byte(v>>24), byte(v>>16), byte(v>>8), byte(v))
	}
	return out
}

func Base32(b []byte) []byte {
	if len(b) > maxCoded {
		return nil
	}
	var out []byte
	rest, held := 0, 0
	for _, c := range b {
		rest, held = rest<<8|int(c), held+8
		for held >= 5 {
			held -= 5
			out = append(out, digits[rest>>held])
			rest &= 1<<held - 1
		}
	}
	if held > 0 {
		out = append(out, digits[rest<<(5-held)])
	}
	return out
}

func Base32Read(b []byte) ([]byte, bool) {
	if len(b) > maxDigits {
		return nil, false
	}
	var out []byte
	rest, held := 0, 0
	for _, c := range string(b) {
		d := strings.IndexRune(digits, c)
		if d < 0 {
			return nil, false
		}
		rest, held = rest<<5|d, held+5
		if held >= 8 {
			held -= 8
			out = append(out, byte(rest>>held))
			rest &= 1<<held - 1
		}
	}
	// Five bits that complete no byte are a character that no encoding has.
	if held >= 5 || rest != 0 {
		return nil, false
	}
	return out, true
}

func NameOk(b []byte) bool {
	if len(b) != nameLen {
		return false
	}
	for _, c := range string(b) {
		if !strings.ContainsRune(digits, c) {
			return false
		}
	}
	return true
}

func NameOf(kind byte, b []byte) []byte {
	if len(b) > maxNamed {
		return nil
	}
	sum := Sha256(append([]byte{kind}, b...))
	return Base32(sum[:nameBytes])
}
