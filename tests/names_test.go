package tests

import (
	"bytes"
	"math/rand"
	"slices"
	"strings"
)

// The names with which the tests of chapter 3 work, and what the document says
// of names in bytes, written once more in the plainest way.

// named completes s to a name by characters 0.
func named(s string) string { return s + strings.Repeat("0", 16-len(s)) }

// Occurrences of these overlap: of each with itself, or with another one.
const (
	zeros = "0000000000000000"
	swing = "0101010101010101"
	swung = "1010101010101010"
	round = "0120120120120120"
	steep = "0123456789abcdfg"
	shift = "123456789abcdfgh"
	later = "9abcdfghijklmnpq"
	lastz = "000000000000000z"
	last1 = "0000000000000001"
	head1 = "1000000000000000"
)

func overlapping() []string {
	return []string{zeros, swing, swung, round, steep, shift, later, lastz, last1, head1}
}

// noNames are no names; most of them differ from one in one character or in the length.
var noNames = []string{"", "0", "000000000000000", "00000000000000000", "00000000000000000000000000000000", "e000000000000000", "000000000000000e", "0000000o00000000", "000000000000000t", "u000000000000000", "A000000000000000", "000000000000000Z", "$000000000000000", "0000000 00000000", "000000000000000\n", "\x00000000000000000", "000000000000000\xff", "00000000000000é", "\ufffd0000000000000", ".000000000000000", "-000000000000000"}

// texts makes byte strings of l.
func texts(l ...string) [][]byte {
	var all [][]byte
	for _, s := range l {
		all = append(all, []byte(s))
	}
	return all
}

func isName(s string) bool {
	return len(s) == 16 && strings.Trim(s, digits) == ""
}

func isSorted(l [][]byte) bool {
	for i, b := range l {
		if !isName(string(b)) || i > 0 && string(l[i-1]) >= string(b) {
			return false
		}
	}
	return true
}

// inPieces returns the texts between the occurrences of from in b, from left to right.
func inPieces(b, from string) []string {
	for i := range b {
		if strings.HasPrefix(b[i:], from) {
			return append([]string{b[:i]}, inPieces(b[i+len(from):], from)...)
		}
	}
	return []string{b}
}

func sameTexts(a, b [][]byte) bool { return slices.EqualFunc(a, b, bytes.Equal) }

// randomText makes bytes in which many occurrences of the names are whole, cut short, or overlap.
func randomText(random *rand.Rand, names []string, pieces int) string {
	var b strings.Builder
	for range pieces {
		name := names[random.Intn(len(names))]
		switch random.Intn(6) {
		case 0, 1:
			b.WriteString(name)
		case 2:
			b.WriteString(name[:random.Intn(17)])
		case 3:
			b.WriteString(name[random.Intn(17):])
		case 4:
			b.WriteByte("01z$ \xff\x00\n"[random.Intn(8)])
		}
	}
	return b.String()
}

// randomSorted returns some of the names, ascending, each once.
func randomSorted(random *rand.Rand, names []string) [][]byte {
	var l []string
	for _, name := range names {
		if random.Intn(3) > 0 {
			l = append(l, name)
		}
	}
	slices.Sort(l)
	return texts(slices.Compact(l)...)
}
