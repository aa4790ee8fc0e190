package tests

import (
	"bytes"
	"encoding/binary"
	"math"
	"math/rand"
	"strings"
	"testing"

	"loop.example/g00538/impl"
)

// Promise 1 for objects: they are recovered from their encodings, and bytes
// that are decoded are exactly the encoding of the value.

// checkObjRead fails if ObjRead does not return what the document says, and reports whether there is an object.
func checkObjRead(t *testing.T, what string, b []byte) bool {
	t.Helper()
	got, ok := impl.ObjRead(b)
	want, wantOk := readObj(b)
	if ok != wantOk || !sameObj(got, want) {
		t.Fatalf("%s: ObjRead(%.200q) = %.200v, %t instead of %.200v, %t", what, b, got, ok, want, wantOk)
	}
	if again, fine := impl.ObjBytes(got); fine != ok || ok && !bytes.Equal(again, b) {
		t.Fatalf("%s: ObjBytes(ObjRead(%.200q)) = %.200q, %t", what, b, again, fine)
	}
	return ok
}

// checkNoObj fails if ObjRead does not return the zero value and false.
func checkNoObj(t *testing.T, what string, b []byte) {
	t.Helper()
	if got, ok := impl.ObjRead(b); ok || !sameObj(got, impl.Obj{}) {
		t.Errorf("%s: ObjRead(%.200q) = %.200v, %t", what, b, got, ok)
	}
}

func checkObjRecovered(t *testing.T, what string, o impl.Obj) {
	t.Helper()
	b, ok := impl.ObjBytes(o)
	if !ok || !bytes.Equal(b, encodeObj(o)) {
		t.Fatalf("%s: ObjBytes = %.200q, %t", what, b, ok)
	}
	if got, ok := impl.ObjRead(guarded(b)); !ok || !sameObj(got, o) {
		t.Fatalf("%s: ObjRead(%.200q) = %.200v, %t", what, b, got, ok)
	}
	if !checkObjRead(t, what, b) {
		t.Fatalf("%s: it is not read", what)
	}
}

func TestObjRead(t *testing.T) {
	name := nameOf(textOf("a"))
	for s, want := range map[string]impl.Obj{
		nameFor('t', "hi") + "\x00" + "\x00\x02hi" + "\x00\x00" + "\x00":                                               textOf("hi"),
		nameFor('t', "") + "\x00" + "\x00\x00" + "\x00\x00" + "\x00":                                                   textOf(""),
		nameFor('t', "see "+name) + "\x00" + "\x00\x14see " + name + "\x00\x00" + "\x01" + name:                        textOf("see "+name, name),
		nameFor('t', "see "+name) + "\x00" + "\x00\x14see " + name + "\x00\x00" + "\x00":                               textOf("see " + name),
		nameFor('f', "\x02\x01\x01b\x01\x00") + "\x01" + "\x02\x01\x01b\x01\x00" + "\x00\x00" + "\x00":                 treeOf(dir("b", program(""))),
		nameFor('o', name+"\x03lib") + "\x02" + "\x00\x00" + "\x10" + name + "\x03lib" + "\x00":                        outOf(name, "lib", file("")),
		nameFor('o', name+"\x01-") + "\x02" + "\x03\x20" + zeros + swung + "\x10" + name + "\x01-\x02" + zeros + swung: outOf(name, "-", link(zeros+swung), zeros, swung),
		nameFor('o', name+"\x01-") + "\x02" + "\x02\x01\x01a\x02\x01\x01b\x02\x00" + "\x10" + name + "\x01-" + "\x00":  outOf(name, "-", dir("a", dir("b", dir("")))),
	} {
		if got, ok := impl.ObjRead([]byte(s)); !ok || !sameObj(got, want) {
			t.Errorf("ObjRead(%q) = %v, %t instead of %v", s, got, ok, want)
		}
	}
}

func TestObjsAreRecovered(t *testing.T) {
	for what, o := range validObjs() {
		checkObjRecovered(t, what, o)
	}
	for _, o := range heavy() {
		checkObjRecovered(t, "a large output", o)
	}
	random := rand.New(rand.NewSource(91))
	kinds := map[int]int{}
	for range 100 {
		for _, o := range randomStore(random).Objs {
			checkObjRecovered(t, "at random", o)
			kinds[o.Kind]++
		}
	}
	if kinds[impl.ObText] < 100 || kinds[impl.ObTree] < 100 || kinds[impl.ObOut] < 100 {
		t.Error("too few of one Kind:", kinds)
	}
}

func TestObjReadOfEachNumberOfRefs(t *testing.T) {
	all := thirty()
	for n := range len(all.Refs) + 1 {
		o := all
		o.Refs = all.Refs[:n]
		if ok := checkObjRead(t, "references that overlap", encodeObj(o)); ok != (n <= 24) {
			t.Errorf("ObjRead of an object with %d references: %t", n, ok)
		}
	}
}

// What an object that is not valid would be encoded as is not its encoding.
func TestObjReadOfBrokenObjects(t *testing.T) {
	read := map[bool]int{}
	for what, o := range brokenObjs() {
		if !encodable(o) {
			continue
		}
		b := encodeObj(o)
		read[checkObjRead(t, what, b)]++
		if got, ok := impl.ObjRead(b); ok && sameObj(got, o) {
			t.Errorf("%s: ObjRead returns it", what)
		}
	}
	// What is read is valid: the encoding leaves out what is wrong, as the upper bytes of a Kind, and names where there are no kids.
	if read[false] < 500 {
		t.Error("too few are refused:", read)
	}
}

// A part of an object in the place of the same part of another one.
func TestObjReadOfExchangedParts(t *testing.T) {
	a, b := nameOf(textOf("a")), nameOf(textOf("b"))
	see := "see " + a + b
	l := []impl.Obj{
		textOf(see), textOf(see, a), textOf(see, a, b), textOf("b"), treeOf(file(see), b), treeOf(dir("x", file(a)), a), treeOf(sample()),
		outOf(a, "out", file(see), a), outOf(a, "dev", file(b)), outOf(b, "out", file(a+b), a, b), outOf(b, "out", sample()),
	}
	read := map[bool]int{}
	for _, o := range l {
		for _, other := range l {
			for i, change := range []func(o *impl.Obj){
				func(o *impl.Obj) { o.Name = other.Name }, func(o *impl.Obj) { o.Kind = other.Kind }, func(o *impl.Obj) { o.Tree = other.Tree },
				func(o *impl.Obj) { o.Refs = other.Refs }, func(o *impl.Obj) { o.From = other.From }, func(o *impl.Obj) { o.Out = other.Out },
				func(o *impl.Obj) { o.From, o.Out = other.From, other.Out }, func(o *impl.Obj) { o.Tree, o.Refs = other.Tree, other.Refs },
			} {
				c := changed(o, change)
				ok := checkObjRead(t, "exchanged", encodeObj(c))
				if read[ok]++; ok != validObj(c) {
					t.Errorf("part %d of %v in %v: %t", i, other, o, ok)
				}
			}
		}
	}
	if read[true] < 100 || read[false] < 300 {
		t.Error("too few of one sort:", read)
	}
}

func TestObjReadRejects(t *testing.T) {
	name := nameOf(textOf("a"))
	text, tree := nameFor('t', "hi")+"\x00"+"\x00\x02hi", nameFor('f', "\x02\x00")+"\x01"+"\x02\x00"
	fine := nameFor('o', name+"\x03lib") + "\x02" + "\x00\x10" + name + "\x10" + name + "\x03lib" + "\x01" + name
	for what, s := range map[string]string{
		"nothing": "", "a byte": "\x00", "a name": name, "a name and a Kind": name + "\x00", "no Refs": text + "\x00\x00", "no Out": text + "\x00", "no From": text, "zeros": strings.Repeat("\x00", 30),
		"more Refs than there are": text + "\x00\x00\x01", "a reference that does not occur": text + "\x00\x00\x01" + name, "part of a reference": fine[:len(fine)-1],
		"fewer Refs than there are": strings.Replace(fine, "\x01"+name, "\x00"+name, 1), "two for one": strings.Replace(fine, "\x01"+name, "\x02"+name, 1), "the same twice": strings.Replace(fine, "\x01"+name, "\x02"+name+name, 1),
		"From of a text": text + "\x10" + name + "\x00\x00", "Out of a text": text + "\x00\x01a\x00", "both of a text": text + "\x10" + name + "\x01a\x00", "From of a tree": tree + "\x10" + name + "\x00\x00", "Out of a tree": tree + "\x00\x01a\x00",
		"no From of an output": strings.Replace(fine, "\x10"+name+"\x03", "\x00\x03", 1), "no Out of an output": strings.Replace(fine, "\x03lib", "\x00", 1), "another Out": strings.Replace(fine, "\x03lib", "\x03lic", 1), "a longer Out": strings.Replace(fine, "\x03lib", "\x04libs", 1),
		"From and Out exchanged": strings.Replace(fine, "\x10"+name+"\x03lib", "\x03lib\x10"+name, 1), "another object behind": fine + fine, "a byte behind": fine + "\x00", "a byte in front": "\x00" + fine, "a mark in front": "X" + fine, "an export": "X\x01" + fine,
		"Kind 3": strings.Replace(fine, "\x02", "\x03", 1), "Kind 1": strings.Replace(fine, "\x02", "\x01", 1), "Kind 0": strings.Replace(fine, "\x02", "\x00", 1), "Kind 255": strings.Replace(fine, "\x02", "\xff", 1), "a digit as Kind": strings.Replace(fine, "\x02", "2", 1), "Kind 2 in two bytes": strings.Replace(fine, "\x02", "\x82\x00", 1),
		"Kind of a text as tree": strings.Replace(text+"\x00\x00\x00", "\x00", "\x01", 1), "a text of a program": nameFor('t', "hi") + "\x00" + "\x01\x02hi" + "\x00\x00\x00", "a text of a directory": nameFor('t', "") + "\x00" + "\x02\x00" + "\x00\x00\x00",
		"a name without the letter": nameFor('h', "i") + text[16:] + "\x00\x00\x00", "zeros as name": zeros + text[16:] + "\x00\x00\x00", "a name in capitals": strings.ToUpper(text[:16]) + text[16:] + "\x00\x00\x00", "no name": text[16:] + "\x00\x00\x00",
	} {
		checkNoObj(t, what, []byte(s))
		checkObjRead(t, what, []byte(s))
	}
	if !checkObjRead(t, "an encoding", []byte(fine)) || !checkObjRead(t, "an encoding", []byte(text+"\x00\x00\x00")) || !checkObjRead(t, "an encoding", []byte(tree+"\x00\x00\x00")) {
		t.Error("the encodings themselves are refused")
	}
	checkNoObj(t, "nil", nil)
}

// fewObjs are small objects of each Kind.
func fewObjs() []impl.Obj {
	c, name := chain(5), nameOf(textOf("a"))
	return append(c, textOf(""), textOf("a"), textOf(name+"0", name), treeOf(file("")), treeOf(dir("")), treeOf(deep(4, file("x"))),
		outOf(zeros, "a", dir("")), outOf(zeros, "out", link(zeros+swung), zeros, swung), outOf(name, "longname", dir("a b", program("x"), dir("c", file(name))), name))
}

// Bytes that are almost an encoding are the encoding of another object or of none.
func TestObjReadOfChangedBytes(t *testing.T) {
	read := map[bool]int{}
	for _, o := range fewObjs() {
		b := encodeObj(o)
		for i := range b {
			for c := range 256 {
				changed := bytes.Clone(b)
				changed[i] = byte(c)
				ok := checkObjRead(t, "a changed byte", changed)
				if read[ok]++; ok && i < 17 && byte(c) != b[i] {
					t.Errorf("byte %d of %q is %d: it is read", i, b, c)
				}
			}
			checkObjRead(t, "without a byte", append(bytes.Clone(b[:i]), b[i+1:]...))
			checkObjRead(t, "a byte twice", append(append(bytes.Clone(b[:i]), b[i]), b[i:]...))
			checkNoObj(t, "without its beginning", b[i+1:])
		}
		for c := range 256 {
			checkNoObj(t, "lengthened", append(bytes.Clone(b), byte(c)))
			checkNoObj(t, "lengthened in front", append([]byte{byte(c)}, b...))
		}
	}
	if read[true] < 1000 || read[false] < 50000 {
		t.Error("too few of one sort:", read)
	}
}

func TestObjReadOfPartsAndMore(t *testing.T) {
	for what, o := range validObjs() {
		b := guarded(encodeObj(o))
		step := 1 + len(b)/2000
		for i := 0; i < len(b); i += step {
			checkNoObj(t, what+", cut off", b[:i])
		}
		checkNoObj(t, what+", cut off at its end", b[:len(b)-1])
		for _, more := range []string{"\x00", "\x01", "\xff", zeros, nameOf(o), string(b)} {
			checkNoObj(t, what+", lengthened", append(bytes.Clone(b), more...))
		}
	}
}

// otherNumbers returns the encodings of o in which one of its numbers is put in another way.
func otherNumbers(o impl.Obj, other func(n int) []byte) [][]byte {
	count := 0
	encodeObjNumbered(o, func(b []byte, n int) []byte { count++; return b })
	var all [][]byte
	for k := range count {
		at := -1
		all = append(all, encodeObjNumbered(o, func(b []byte, n int) []byte {
			at++
			if at == k {
				return append(bytes.Clone(b), other(n)...)
			}
			return impl.PutNum(b, n)
		}))
	}
	return all
}

func TestObjReadOfOtherNumbers(t *testing.T) {
	for _, o := range append(fewObjs(), thirty(), validObjs()["24 references that overlap"], textOf(string(pattern(400))), treeOf(crowd(40))) {
		for zeros := range 9 {
			for _, b := range otherNumbers(o, func(n int) []byte {
				long := impl.PutNum(nil, n)
				long[len(long)-1] |= 128
				return append(append(long, bytes.Repeat([]byte{128}, zeros)...), 0)
			}) {
				checkNoObj(t, "a long number", b)
			}
		}
		for _, n := range []uint64{401, 500, 50000, 1 << 20, 1<<31 - 1, 1 << 31, 1<<32 - 1, 1 << 32, 1<<35 - 1, 1 << 35, math.MaxInt - 16, math.MaxInt - 1, math.MaxInt, 1 << 63, math.MaxUint64} {
			for _, b := range otherNumbers(o, func(int) []byte { return binary.AppendUvarint(nil, n) }) {
				checkNoObj(t, "a number that is too large", b)
			}
		}
		for _, more := range []int{1, 2, 15, 16, 17, 100, 128, 400} {
			for _, sign := range []int{-1, 1} {
				for _, b := range otherNumbers(o, func(n int) []byte { return binary.AppendUvarint(nil, uint64(n+sign*more)) }) {
					checkObjRead(t, "another number", b)
				}
			}
		}
		for _, s := range []string{"", "\x80", "\xff\xff\xff\xff\xff", "\xff\xff\xff\xff\xff\xff\xff\xff\xff\xff\xff", "\xff\xff\xff\xff\x08"} {
			for _, b := range otherNumbers(o, func(int) []byte { return []byte(s) }) {
				checkObjRead(t, "no number", b)
			}
		}
	}
}

func TestObjReadOfManyBytes(t *testing.T) {
	base := encodeObj(textOf("a"))
	large := encodeObj(heavy()[23])
	for _, size := range []int{20000, 49999, 50000, 50001, 50002, 100000, 500000, 500001, 3000000} {
		for _, b := range [][]byte{{0}, {1}, {2, 6}, {2, 255}, {255}, {'0'}, []byte(zeros), base, large} {
			checkNoObj(t, "many bytes", bytes.Repeat(b, size/len(b)+1)[:size])
		}
		for _, b := range [][]byte{base, large} {
			whole := make([]byte, size)
			copy(whole, b)
			checkNoObj(t, "zeros behind an encoding", whole)
		}
		checkNoObj(t, "a long text", encodeObj(textOf(string(pattern(size-40)))))
		checkNoObj(t, "a long tree", encodeObj(treeOf(file(string(pattern(size-40))))))
		checkNoObj(t, "a long link", encodeObj(outOf(zeros, "out", link(string(pattern(size-50))))))
		checkNoObj(t, "many references", encodeObj(textOf("a", manyNames(size/16)...)))
		checkNoObj(t, "a long From", encodeObj(impl.Obj{Kind: impl.ObOut, Name: []byte(zeros), From: pattern(size - 20)}))
		checkNoObj(t, "a wide tree", encodeObj(outOf(zeros, "out", wide(200, wide(200, file(""))))))
	}
}

// manyNames makes n names, ascending, that hardly occur anywhere.
func manyNames(n int) []string {
	var l []string
	for i := range n {
		l = append(l, zeros[:8]+digits[i>>15&31:][:1]+digits[i>>10&31:][:1]+digits[i>>5&31:][:1]+digits[i&31:][:1]+zeros[:4])
	}
	return l
}

func TestObjReadOfEditedEncodings(t *testing.T) {
	random := rand.New(rand.NewSource(92))
	read := map[bool]int{}
	for range 60 {
		s := randomStore(random)
		for i, o := range s.Objs {
			other := s.Objs[random.Intn(i+1)]
			for range 40 {
				read[checkObjRead(t, "edited", edited(random, encodeObj(o), encodeObj(other)))]++
			}
		}
	}
	if read[true] < 100 || read[false] < 10000 {
		t.Error("too few of one sort:", read)
	}
}

func TestObjReadMemory(t *testing.T) {
	for what, o := range validObjs() {
		b := encodeObj(o)
		checkCall(t, what+": ObjRead", impl.ObjRead, b)
		checkCall(t, what+": ObjRead of less", impl.ObjRead, b[:len(b)-1])
		checkCall(t, what+": ObjRead of more", impl.ObjRead, append(bytes.Clone(b), 0))
	}
	checkCall(t, "ObjRead of nothing", impl.ObjRead, []byte{})
}
