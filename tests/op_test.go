package tests

import (
	"math"
	"strings"
	"testing"

	"loop.example/g00538/impl"
)

// Promise 1 for operations: those of all Codes are all operations.

func TestOpOk(t *testing.T) {
	hundred := strings.Repeat("q", 100)
	none := []byte{}
	for _, c := range []struct {
		o    impl.Op
		outs int
		want bool
	}{
		{writeOp(0, "a", ""), 1, true}, {writeOp(0, "a", hundred), 1, true}, {writeOp(0, "a", hundred+"q"), 1, false},
		{writeOp(1, "a", ""), 1, false}, {writeOp(1, "a", ""), 2, true}, {writeOp(2, "a", ""), 2, false}, {writeOp(-1, "a", ""), 2, false},
		{writeOp(0, "", ""), 1, false}, {writeOp(0, ".a", ""), 1, false}, {writeOp(0, "a.", ""), 1, true}, {writeOp(0, "A", ""), 1, false},
		{writeOp(0, "aaaaaaaa", ""), 1, true}, {writeOp(0, "aaaaaaaaa", ""), 1, false},
		{copyOp(0, "a", 0), 1, true}, {copyOp(0, "a", 9), 1, true}, {copyOp(0, "a", 10), 1, false}, {copyOp(0, "a", -1), 1, false},
		{copyOp(1, "a", 0), 1, false}, {copyOp(1, "a", 0), 2, true}, {copyOp(2, "a", 0), 2, false}, {copyOp(-1, "a", 0), 2, false},
		{copyOp(0, "", 0), 1, false}, {copyOp(0, "a/b", 0), 1, false}, {copyOp(0, "-", 0), 1, true},
		{emitOp(""), 1, true}, {emitOp(hundred), 1, true}, {emitOp(hundred + "q"), 1, false}, {emitOp("\x00\xff$"), 1, true},
		{buildOp("a", 0), 1, true}, {buildOp("a", 9), 1, true}, {buildOp("a", 10), 1, false}, {buildOp("a", -1), 1, false},
		{buildOp("", 0), 1, false}, {buildOp("a b", 0), 1, false}, {buildOp("z-9.", 0), 1, true},
		{failOp(), 1, true}, {impl.Op{}, 1, false}, {impl.Op{Code: impl.OpCopy}, 1, false}, {impl.Op{Code: impl.OpBuild}, 1, false},
		// These work on no output.
		{emitOp("x"), 0, true}, {buildOp("a", 0), 0, true}, {failOp(), 0, true}, {emitOp("x"), -1, true}, {buildOp("a", 0), math.MinInt, true},
		{writeOp(0, "a", ""), 0, false}, {copyOp(0, "a", 0), 0, false}, {writeOp(0, "a", ""), -1, false}, {copyOp(-1, "a", 0), 0, false}, {writeOp(-2, "a", ""), -1, false},
		{writeOp(1000, "a", ""), 1001, true}, {copyOp(math.MaxInt-1, "a", 0), math.MaxInt, true}, {writeOp(math.MaxInt, "a", ""), math.MaxInt, false},
		// Fields that must be zero.
		{impl.Op{Name: []byte("a"), Arg: 1}, 1, false}, {impl.Op{Code: impl.OpCopy, Name: []byte("a"), Text: []byte("x")}, 1, false},
		{impl.Op{Code: impl.OpEmit, Out: 1}, 2, false}, {impl.Op{Code: impl.OpEmit, Name: []byte("a")}, 1, false}, {impl.Op{Code: impl.OpEmit, Arg: 1}, 1, false},
		{impl.Op{Code: impl.OpBuild, Out: 1, Name: []byte("a")}, 2, false}, {impl.Op{Code: impl.OpBuild, Name: []byte("a"), Text: []byte("x")}, 1, false},
		{impl.Op{Code: impl.OpFail, Out: 1}, 2, false}, {impl.Op{Code: impl.OpFail, Name: []byte("a")}, 1, false},
		{impl.Op{Code: impl.OpFail, Text: []byte("x")}, 1, false}, {impl.Op{Code: impl.OpFail, Arg: 1}, 1, false}, {impl.Op{Code: impl.OpFail, Out: -1}, 2, false},
		// An empty slice is zero, too.
		{impl.Op{Code: impl.OpFail, Name: none, Text: none}, 1, true}, {impl.Op{Code: impl.OpEmit, Name: none, Text: none}, 1, true},
		{impl.Op{Code: impl.OpCopy, Name: []byte("a"), Text: none}, 1, true}, {impl.Op{Code: impl.OpBuild, Name: []byte("a"), Text: none}, 1, true},
		{impl.Op{Code: impl.OpWrite, Name: []byte("a"), Text: none}, 1, true}, {impl.Op{Code: impl.OpWrite, Name: none}, 1, false},
		// No Codes.
		{impl.Op{Code: -1}, 1, false}, {impl.Op{Code: 5}, 1, false}, {impl.Op{Code: 256 + impl.OpFail}, 1, false}, {impl.Op{Code: math.MaxInt}, 1, false}, {impl.Op{Code: math.MinInt}, 1, false},
	} {
		if got := impl.OpOk(c.o, c.outs); got != c.want || validOp(c.o, c.outs) != c.want {
			t.Errorf("OpOk(%s, %d) = %t", show(c.o), c.outs, got)
		}
	}
}

func TestOpCodes(t *testing.T) {
	if impl.OpWrite != 0 || impl.OpCopy != 1 || impl.OpEmit != 2 || impl.OpBuild != 3 || impl.OpFail != 4 {
		t.Error("a Code is another number")
	}
	if impl.MaxOps != 8 || impl.MaxIns != 3 || impl.MaxOuts != 2 {
		t.Error("a limit is another number")
	}
}

// Every field at its limits and beyond, together with all others.
func TestOpOkOfAllFields(t *testing.T) {
	names := [][]byte{nil, {}, []byte("a"), []byte("aaaaaaaa"), []byte("aaaaaaaaa"), []byte(".a"), []byte("a_")}
	textsOf := [][]byte{nil, {}, []byte("x"), pattern(100), pattern(101), pattern(1000)}
	seen := map[bool]int{}
	for _, code := range []int{math.MinInt, -256, -1, 0, 1, 2, 3, 4, 5, 255, 256, 257, 260, 1 << 32, math.MaxInt} {
		for _, outs := range []int{math.MinInt, -1, 0, 1, 2, 3, 256, math.MaxInt} {
			for _, out := range []int{math.MinInt, -1, 0, 1, 2, 255, 256, math.MaxInt - 1, math.MaxInt} {
				for _, arg := range []int{math.MinInt, -1, 0, 1, 9, 10, 256, math.MaxInt} {
					for _, name := range names {
						for _, text := range textsOf {
							o := impl.Op{Code: code, Out: out, Name: name, Text: text, Arg: arg}
							want := validOp(o, outs)
							seen[want]++
							if got := impl.OpOk(o, outs); got != want {
								t.Fatalf("OpOk(%s, %d) = %t", show(o), outs, got)
							}
						}
					}
				}
			}
		}
	}
	if seen[true] < 300 || seen[false] < 10000 {
		t.Error("too few operations of one sort:", seen)
	}
}

func TestOpOkOfBrokenOps(t *testing.T) {
	for what, o := range brokenOps() {
		for outs := -1; outs <= 2; outs++ {
			if impl.OpOk(o, outs) || validOp(o, outs) {
				t.Errorf("%s: OpOk(%s, %d) is true", what, show(o), outs)
			}
		}
	}
	for _, o := range eachOp() {
		if !impl.OpOk(o, 1) {
			t.Errorf("OpOk(%s, 1) is false", show(o))
		}
	}
}

func TestOpOkStaysWithinLength(t *testing.T) {
	full := impl.Op{Code: impl.OpFail, Name: []byte("a")[:0], Text: pattern(200)[:0]}
	if !impl.OpOk(full, 1) {
		t.Error("what is behind the length counts")
	}
	full = impl.Op{Code: impl.OpWrite, Name: []byte("aaaaaaaaa")[:8], Text: pattern(200)[:100]}
	if !impl.OpOk(full, 1) {
		t.Error("what is behind the length counts")
	}
}

func TestOpMemory(t *testing.T) {
	for _, o := range eachOp() {
		checkCall(t, "OpOk", impl.OpOk, o, 1)
		checkCall(t, "OpOk without outputs", impl.OpOk, o, 0)
	}
	for what, o := range brokenOps() {
		checkCall(t, what+": OpOk", impl.OpOk, o, 2)
	}
}
