package tests

import (
	"bytes"
	"testing"
)

// guarded returns a copy of b with 40 bytes of spare capacity behind it.
func guarded(b []byte) []byte {
	whole := bytes.Repeat([]byte{0xa5}, len(b)+40)
	copy(whole, b)
	return whole[:len(b)]
}

// flip changes every byte of b, and every byte of the spare capacity behind it.
func flip(b []byte) {
	b = b[:cap(b)]
	for i := range b {
		b[i] ^= 0xff
	}
}

// checkMemory calls f with copies of args and fails if f modifies them or the
// spare capacity behind them, or if its result shares memory with one of them
// or with the result of another call.
func checkMemory(t *testing.T, what string, f func(args ...[]byte) []byte, args ...[]byte) {
	t.Helper()
	var given, before [][]byte
	for _, a := range args {
		g := guarded(a)
		given = append(given, g)
		before = append(before, bytes.Clone(g[:cap(g)]))
	}
	unchanged := func(when string) {
		t.Helper()
		for i, g := range given {
			if !bytes.Equal(g[:cap(g)], before[i]) {
				t.Fatalf("%s: argument %d is modified %s", what, i, when)
			}
		}
	}
	first := f(given...)
	unchanged("by the call")
	want := bytes.Clone(first)
	flip(first)
	unchanged("through the result")
	second := f(given...)
	if !bytes.Equal(second, want) {
		t.Fatalf("%s: a second call returns %v, the first one %v", what, second, want)
	}
	flip(first)
	for _, g := range given {
		flip(g)
	}
	if !bytes.Equal(second, want) {
		t.Fatalf("%s: the result changes with an argument or with another result", what)
	}
}

// checkAbsent fails if b is not empty.
func checkAbsent(t *testing.T, what string, b []byte) {
	t.Helper()
	if len(b) != 0 {
		t.Errorf("%s: %v instead of nothing", what, b)
	}
}
