package tests

import (
	"bytes"
	"math/rand"
	"slices"
	"testing"

	"loop.example/g00538/impl"
)

// The tests of promise 12 that are about which bytes are an export.

// checkCargo fails if Cargo does not return what the document says.
func checkCargo(t *testing.T, what string, b []byte) ([]impl.Obj, bool) {
	t.Helper()
	got, ok := impl.Cargo(b)
	want, wantOk := readCargo(b)
	if ok != wantOk || !slices.EqualFunc(got, want, sameObj) {
		t.Fatalf("%s: Cargo(%.500q) = %.500v, %t instead of %.500v, %t", what, b, got, ok, want, wantOk)
	}
	if ok && !bytes.Equal(packed(got...), b) {
		t.Fatalf("%s: Cargo(%.500q) = %.500v, which is another export", what, b, got)
	}
	return got, ok
}

// checkPacked fails if Cargo does not return the objects whose export it is given.
func checkPacked(t *testing.T, what string, objs []impl.Obj) {
	t.Helper()
	if got, ok := checkCargo(t, what, packed(objs...)); !ok || !slices.EqualFunc(got, objs, sameObj) {
		t.Fatalf("%s: Cargo of %.500v = %.500v, %t", what, objs, got, ok)
	}
}

// checkNoCargo fails if Cargo does not return nil and false.
func checkNoCargo(t *testing.T, what string, b []byte) {
	t.Helper()
	if got, ok := impl.Cargo(b); ok || got != nil {
		t.Errorf("%s: Cargo(%.200q) = %.200v, %t", what, b, got, ok)
	}
}

func TestCargo(t *testing.T) {
	name := nameFor('t', "hi")
	see := nameFor('f', "\x03\x10"+name)
	hi, link := name+"\x00\x00\x02hi\x00\x00\x00", see+"\x01\x03\x10"+name+"\x00\x00\x01"+name
	got, ok := impl.Cargo([]byte("X\x02" + hi + link))
	if !ok || len(got) != 2 || !sameObj(got[0], textOf("hi")) || !sameObj(got[1], treeOf(impl.Tree{Kind: impl.KdLink, Data: []byte(name)}, name)) {
		t.Errorf("Cargo = %v, %t", got, ok)
	}
	got, ok = impl.Cargo([]byte("X\x01" + hi))
	if !ok || len(got) != 1 || !sameObj(got[0], textOf("hi")) {
		t.Errorf("Cargo = %v, %t", got, ok)
	}
	for what, s := range map[string]string{
		"nothing": "", "the mark": "X", "no count": "X" + hi, "no mark": "\x01" + hi, "no objects": "X\x00", "one object missing": "X\x01", "24 objects missing": "X\x18", "255 objects missing": "X\xff",
		"an object without a frame": hi, "no objects, and one": "X\x00" + hi, "two for one": "X\x02" + hi, "one for two": "X\x01" + hi + link, "three for two": "X\x03" + hi + link, "none for two": "X\x00" + hi + link,
		"the other order": "X\x02" + link + hi, "only the end": "X\x01" + link, "the same twice": "X\x02" + hi + hi, "the end twice": "X\x03" + hi + link + link, "the first again at the end": "X\x03" + hi + link + hi,
		"another mark": "x\x02" + hi + link, "the mark of a derivation": "D\x02" + hi + link, "a mark in front": "XX\x02" + hi + link, "two exports": "X\x01" + hi + "X\x01" + hi, "a byte behind": "X\x01" + hi + "\x00", "a count of two bytes": "X\x81\x00" + hi, "a digit as count": "X1" + hi,
		"a mark between": "X\x02" + hi + "X" + link, "a byte between": "X\x02" + hi + "\x00" + link, "the mark behind": hi + "X\x01",
	} {
		checkNoCargo(t, what, []byte(s))
		checkCargo(t, what, []byte(s))
	}
	checkNoCargo(t, "nil", nil)
}

func TestCargoOfEveryExport(t *testing.T) {
	for what, l := range validCargos() {
		checkPacked(t, what, l)
		b := packed(l...)
		for n := range 256 {
			if n != len(l) {
				changed := bytes.Clone(b)
				changed[1] = byte(n)
				checkNoCargo(t, what+", another count", changed)
			}
			if n != 'X' {
				changed := bytes.Clone(b)
				changed[0] = byte(n)
				checkNoCargo(t, what+", another mark", changed)
			}
		}
	}
}

func TestCargoOfNoExport(t *testing.T) {
	for what, l := range brokenCargos() {
		checkNoCargo(t, what, packed(l...))
		checkCargo(t, what, packed(l...))
	}
}

func TestCargoOfTooManyObjects(t *testing.T) {
	checkPacked(t, "a chain of 24", chain(24))
	checkPacked(t, "a star of 24", star(24))
	for n := 25; n <= 40; n++ {
		checkNoCargo(t, "a long chain", packed(chain(n)...))
		for _, count := range []byte{0, 1, 24, byte(n - 1), byte(n), byte(n + 1), 255} {
			b := packed(chain(n)...)
			b[1] = count
			checkNoCargo(t, "a long chain with another count", b)
		}
	}
	// The last byte of these counts is that of fewer.
	for _, n := range []int{256, 257, 258, 280} {
		checkNoCargo(t, "a very long chain", packed(chain(n)...))
	}
}

// Objects in any order: one of all is that of an export.
func TestCargoOfAllOrders(t *testing.T) {
	d := diamond()
	sets := map[string][]impl.Obj{"a chain": chain(5), "a diamond": d, "a star": star(5), "a text": {textOf("a")}}
	for what, x := range orders() {
		if len(x.refs) <= 4 {
			sets[what] = arranged(x)
		}
	}
	for what, l := range sets {
		count := 0
		for _, p := range permutations(l) {
			if _, ok := checkCargo(t, what, packed(p...)); ok {
				count++
			}
		}
		if count != 1 {
			t.Errorf("%s: %d orders are exports", what, count)
		}
	}
}

// byLevel takes in each traversal what needs only objects that were taken before it.
func byLevel(list []impl.Obj) []impl.Obj {
	var taken []impl.Obj
	for len(taken) < len(list) {
		before := slices.Clone(taken)
		for _, o := range list {
			if mayBeTaken(o, list, before) {
				taken = append(taken, o)
			}
		}
	}
	return taken
}

// smallestFirst begins a new traversal behind each object that is taken.
func smallestFirst(list []impl.Obj) []impl.Obj {
	var taken []impl.Obj
	for len(taken) < len(list) {
		for _, o := range list {
			if mayBeTaken(o, list, taken) {
				taken = append(taken, o)
				break
			}
		}
	}
	return taken
}

// deepFirst takes what an object needs, and then this object.
func deepFirst(list []impl.Obj) []impl.Obj {
	var taken []impl.Obj
	var take func(o impl.Obj)
	take = func(o impl.Obj) {
		for _, other := range list {
			if hasText(o.Refs, nameOf(other)) {
				take(other)
			}
		}
		if mayBeTaken(o, list, taken) {
			taken = append(taken, o)
		}
	}
	for _, o := range list {
		take(o)
	}
	return taken
}

// greatestFirst traverses the objects from the greatest name to the smallest one.
func greatestFirst(list []impl.Obj) []impl.Obj { return dependent(reversed(list)) }

// In all of these orders, each object comes behind what it needs.
func TestCargoOfOtherDependencyOrders(t *testing.T) {
	rules := map[string]func(list []impl.Obj) []impl.Obj{"by level": byLevel, "smallest first": smallestFirst, "deep first": deepFirst, "greatest first": greatestFirst}
	differ := map[string]int{}
	try := func(what string, l []impl.Obj) {
		for rule, f := range rules {
			p := f(storeOf(l...).Objs)
			_, ok := checkCargo(t, what+", "+rule, packed(p...))
			equal := slices.EqualFunc(l, p, sameObj)
			if ok != equal {
				t.Fatalf("%s, %s: Cargo of %v = %t", what, rule, p, ok)
			}
			if !equal {
				differ[rule]++
			}
		}
	}
	for what, x := range orders() {
		try(what, arranged(x))
	}
	for _, l := range foursomes() {
		all := topped(l)
		try("four", needed(storeOf(all...), nameOf(all[4])))
	}
	for rule := range rules {
		if differ[rule] < 20 {
			t.Error("too few orders differ:", differ)
		}
	}
}

// All that is needed, and more, with what that needs or without it.
func TestCargoOfMoreThanTheClosure(t *testing.T) {
	random := rand.New(rand.NewSource(95))
	read := map[bool]int{}
	for range 150 {
		s := randomStore(random)
		for _, o := range s.Objs[:min(len(s.Objs), 6)] {
			l := needed(s, nameOf(o))
			more := s.Objs[random.Intn(len(s.Objs))]
			at := random.Intn(len(l) + 1)
			_, ok := checkCargo(t, "one object more", packed(slices.Insert(slices.Clone(l), at, more)...))
			read[ok]++
			_, ok = checkCargo(t, "two closures", packed(needed(s, nameOf(o), nameOf(more))...))
			read[ok]++
		}
		if len(s.Objs) > 1 {
			_, ok := checkCargo(t, "all objects", packed(dependent(s.Objs)...))
			read[ok]++
		}
	}
	if read[false] < 300 || read[true] < 50 {
		t.Error("too few of one sort:", read)
	}
}

func TestCargoOfChangedBytes(t *testing.T) {
	read := map[bool]int{}
	c, outs := chain(3), outputs(1)
	user := outOf(drvName(5), "out", file("of "+nameOf(outs[0])+"!"), nameOf(outs[0]))
	for what, l := range map[string][]impl.Obj{"a text": {textOf("a")}, "an empty text": {textOf("")}, "an output": outs, "a chain": c, "two outputs": {outs[0], user}} {
		b := packed(l...)
		for i := range b {
			for n := range 256 {
				changed := bytes.Clone(b)
				changed[i] = byte(n)
				_, ok := checkCargo(t, what+", changed", changed)
				read[ok]++
			}
			checkCargo(t, what+", without a byte", append(bytes.Clone(b[:i]), b[i+1:]...))
			checkCargo(t, what+", a byte twice", append(append(bytes.Clone(b[:i]), b[i]), b[i:]...))
		}
	}
	if read[true] < 500 || read[false] < 50000 {
		t.Error("too few of one sort:", read)
	}
}

func TestCargoOfPartsAndMore(t *testing.T) {
	for what, l := range validCargos() {
		b := guarded(packed(l...))
		step := 1 + len(b)/500
		for i := 0; i < len(b); i += step {
			checkNoCargo(t, what+", cut off", b[:i])
		}
		checkNoCargo(t, what+", cut off at its end", b[:len(b)-1])
		end := len(b) - len(encodeObj(l[len(l)-1]))
		checkNoCargo(t, what+", cut off before its last object", b[:end])
		for _, more := range [][]byte{{0}, {1}, {255}, {'X'}, b[end:], b[2:], b} {
			checkNoCargo(t, what+", lengthened", slices.Concat(b, more))
			counted := slices.Concat(b, more)
			counted[1]++
			checkNoCargo(t, what+", lengthened, and one more counted", counted)
		}
		for i := range min(len(b), 200) {
			checkNoCargo(t, what+", without its beginning", b[i+1:])
		}
	}
	b := packed(chain(2)...)
	if got, ok := impl.Cargo(b[: len(b)-1 : len(b)]); ok || got != nil {
		t.Error("Cargo reads behind the length")
	}
}

func TestCargoOfManyBytes(t *testing.T) {
	large := heavy()
	whole := packed(large...)
	for _, size := range []int{50000, 50001, len(whole) + 1, 499999, 500000, 500001, 500002, 1000000, 5000000} {
		for _, b := range [][]byte{{0}, {'X'}, {2, 6}, {255}, {'X', 1, '0'}, packed(textOf("a")), encodeObj(textOf("a")), encodeObj(large[23])} {
			checkNoCargo(t, "many bytes", bytes.Repeat(b, size/len(b)+1)[:size])
			checkNoCargo(t, "many bytes behind a mark", slices.Concat([]byte{'X', 24}, bytes.Repeat(b, size/len(b)+1)[:size-2]))
		}
		for _, l := range [][]impl.Obj{{textOf("a")}, chain(24), large} {
			long := append(packed(l...), make([]byte, size)...)
			checkNoCargo(t, "zeros behind an export", long[:size])
		}
		text := textOf(string(pattern(size)))
		checkNoCargo(t, "a long text", packed(text))
		checkNoCargo(t, "a long tree", packed(treeOf(file(string(pattern(size))))))
		checkNoCargo(t, "a long output", packed(outOf(zeros, "out", link(string(pattern(size))))))
		checkNoCargo(t, "a long text that is needed", packed(text, textOf(nameOf(text), nameOf(text))))
		checkNoCargo(t, "many references", packed(outOf(zeros, "out", file(""), manyNames(size/16)...)))
	}
	checkNoCargo(t, "a wide tree", packed(outOf(zeros, "out", wide(200, wide(200, file(""))))))
	checkNoCargo(t, "a tree of more than 50000 bytes", packed(outOf(zeros, "out", wide(6, wide(6, wide(6, longest(impl.KdFile)))))))
}

func TestCargoOfEditedExports(t *testing.T) {
	random := rand.New(rand.NewSource(96))
	read := map[bool]int{}
	for range 60 {
		s := randomStore(random)
		for i, o := range s.Objs {
			b, other := packed(needed(s, nameOf(o))...), packed(needed(s, nameOf(s.Objs[random.Intn(i+1)]))...)
			for range 12 {
				_, ok := checkCargo(t, "edited", edited(random, b, other))
				read[ok]++
			}
		}
	}
	if read[true] < 50 || read[false] < 3000 {
		t.Error("too few of one sort:", read)
	}
}

func TestCargoMemory(t *testing.T) {
	for what, l := range validCargos() {
		b := packed(l...)
		checkCall(t, what+": Cargo", impl.Cargo, b)
		checkCall(t, what+": Cargo of less", impl.Cargo, b[:len(b)-1])
		checkCall(t, what+": Cargo of more", impl.Cargo, append(bytes.Clone(b), 0))
	}
	checkCall(t, "Cargo of nothing", impl.Cargo, []byte{})
}
