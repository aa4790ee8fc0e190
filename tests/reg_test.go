package tests

import (
	"math"
	"math/rand"
	"testing"

	"loop.example/g00538/impl"
)

// The tests of what a valid record is, on which promises 10 and 11 rely.

func TestRegConstants(t *testing.T) {
	checkConstants(t, []int{impl.MaxRegs, impl.RgObj, impl.RgReal, impl.RgRoot, impl.RgUnroot, impl.RgUnreal, impl.RgGone}, 200, 0, 1, 2, 3, 4, 5)
}

func TestRegOk(t *testing.T) {
	checkOk(t, "RegOk", impl.RegOk, validReg, validRegs(), brokenRegs())
}

// Of what is not zero, a Kind accepts one field, and no other.
func TestRegOkOfEachKind(t *testing.T) {
	o := chain(3)[2]
	for _, kind := range []int{math.MinInt, -256, -2, -1, 0, 1, 2, 3, 4, 5, 6, 7, 255, 256, 257, 1 << 32, math.MaxInt} {
		for fields := range 8 {
			r := impl.Reg{Kind: kind}
			if fields&1 > 0 {
				r.Obj = o
			}
			if fields&2 > 0 {
				r.Real = madeReg(0, o).Real
			}
			if fields&4 > 0 {
				r.Name = o.Name
			}
			want := fields == 1 && kind == impl.RgObj ||
				fields == 2 && (kind == impl.RgReal || kind == impl.RgUnreal) ||
				fields == 4 && (kind == impl.RgRoot || kind == impl.RgUnroot || kind == impl.RgGone)
			if got := impl.RegOk(r); got != want {
				t.Errorf("RegOk of Kind %d with the fields %03b: %t", kind, fields, got)
			}
		}
	}
}

// Each single field beside those of the Kind is refused, also within the object and the realisation.
func TestRegOkOfStrayFields(t *testing.T) {
	for i, r := range eachReg() {
		if !impl.RegOk(r) || !impl.RegOk(emptied(r)) {
			t.Errorf("record %d: RegOk is false", i)
		}
		fields := strayRegFields(r.Kind)
		if want := []int{4, 21, 23, 23, 21, 23}[r.Kind]; len(fields) < want {
			t.Fatalf("%d fields of Kind %d", len(fields), r.Kind)
		}
		for what, change := range fields {
			with, empty := r, emptied(r)
			change(&with)
			change(&empty)
			if impl.RegOk(with) || impl.RegOk(empty) {
				t.Errorf("record %d, %s: RegOk is true", i, what)
			}
		}
	}
}

func TestRegOkStaysWithinLength(t *testing.T) {
	name := append([]byte(zeros), "more"...)[:16]
	r := impl.Reg{Kind: impl.RgRoot, Name: name}
	r.Obj.Tree.Names = words("a")[:0]
	r.Obj.Tree.Kids = []impl.Tree{dir("")}[:0]
	r.Obj.Refs, r.Real.Out = texts(zeros)[:0], []byte("out")[:0]
	if !impl.RegOk(r) {
		t.Error("what is behind the length counts")
	}
	r.Name = name[:15]
	if impl.RegOk(r) {
		t.Error("the name goes on behind the length")
	}
}

func TestRegOkOfRandomRecords(t *testing.T) {
	random := rand.New(rand.NewSource(81))
	seen := map[bool]int{}
	for range 3000 {
		s := randomStore(random)
		r, other := randomReg(random, s), randomReg(random, s)
		if !impl.RegOk(r) || !validReg(r) {
			t.Fatalf("RegOk(%v) is false", r)
		}
		switch random.Intn(5) {
		case 0:
			r.Kind = random.Intn(8) - 1
		case 1:
			r.Obj = other.Obj
		case 2:
			r.Real = other.Real
		case 3:
			r.Name = other.Name
		case 4:
			r.Real.Path, r.Real.Out = other.Real.Path, other.Obj.Out
		}
		want := validReg(r)
		seen[want]++
		if got := impl.RegOk(r); got != want {
			t.Fatalf("RegOk(%v) = %t", r, got)
		}
	}
	if seen[true] < 300 || seen[false] < 300 {
		t.Fatal("too few records of one sort:", seen)
	}
}
