package tests

import (
	"bytes"
	"math/rand"
	"strings"
	"testing"

	"loop.example/g00538/impl"
)

// What is a valid object, and its encoding, on which StoreCmp relies.

func validObjs() map[string]impl.Obj {
	m := map[string]impl.Obj{}
	for what, s := range validStores() {
		for _, o := range s.Objs {
			m[what+": "+nameOf(o)] = o
		}
	}
	for what, t := range validTrees() {
		m["a tree: "+what] = treeOf(t)
		m["an output: "+what] = outOf(zeros, "out", t)
		if t.Kind == impl.KdFile {
			m["a text: "+what] = textOf(string(t.Data))
		}
	}
	name := nameOf(textOf("a"))
	m["a name split over two kids"] = treeOf(dir("a b", file(name[:7]), link(name[7:])), name)
	m["a name split over three kids"] = treeOf(dir("a b c", file(name[:1]), program(name[1:15]), file(name[15:])), name)
	m["a name split over directories"] = outOf(zeros, "out", dir("a b c", dir("d", file(name[:7])), dir(""), dir("d e", link(""), link(name[7:]))), name)
	many := thirty()
	many.Refs = many.Refs[3:27]
	m["24 references that overlap"] = many
	m["the same reference, mentioned twice"] = textOf(name+name, name)
	m["the longest and the shortest Out"] = outOf(zeros, "a", dir(""))
	m["the longest Out"] = outOf(zeros, "-.aaaaaa", dir(""))
	return m
}

func TestObjOk(t *testing.T) {
	for what, o := range validObjs() {
		if !impl.ObjOk(o) || !validObj(o) {
			t.Errorf("%s: ObjOk(%.200v) is false", what, o)
		}
	}
	for what, o := range brokenObjs() {
		// The reference does not end for a cyclic tree.
		if impl.ObjOk(o) || !strings.Contains(what, "cyclic") && validObj(o) {
			t.Errorf("%s: ObjOk is true", what)
		}
	}
	if impl.ObjOk(impl.Obj{}) {
		t.Error("ObjOk of the zero value is true")
	}
}

func TestObjOkOfEachNumberOfRefs(t *testing.T) {
	all := thirty()
	for n := range len(all.Refs) + 1 {
		o := all
		o.Refs = all.Refs[:n]
		if ok := impl.ObjOk(o); ok != (n <= 24) {
			t.Errorf("ObjOk of %d references: %t", n, ok)
		}
		tree := treeOf(dir("a b", file(string(o.Tree.Data[:20])), file(string(o.Tree.Data[20:]))))
		tree.Refs = o.Refs
		if ok := impl.ObjOk(tree); ok != (n <= 24) {
			t.Errorf("ObjOk of a tree with %d references: %t", n, ok)
		}
	}
}

func TestObjOkStaysWithinLength(t *testing.T) {
	o := textOf(zeros+steep, zeros, steep)
	o.Refs = append(o.Refs[:1:1], []byte(steep), []byte("no name"))[:2]
	o.Name = append(o.Name, "more"...)[:16]
	o.Tree.Data = append(o.Tree.Data, "more"...)[:32]
	if !impl.ObjOk(o) {
		t.Error("what is behind the length counts")
	}
	o.Tree.Data = o.Tree.Data[:31]
	o.Name = textOf(string(o.Tree.Data)).Name
	if impl.ObjOk(o) {
		t.Error("a reference occurs in what is behind the length")
	}
}

func TestObjBytes(t *testing.T) {
	name := nameOf(textOf("a"))
	for _, c := range []struct {
		o    impl.Obj
		want string
	}{
		{textOf("hi"), nameFor('t', "hi") + "\x00" + "\x00\x02hi" + "\x00\x00" + "\x00"},
		{textOf("see "+name, name), nameFor('t', "see "+name) + "\x00" + "\x00\x14see " + name + "\x00\x00" + "\x01" + name},
		{treeOf(dir("b", program(""))), nameFor('f', "\x02\x01\x01b\x01\x00") + "\x01" + "\x02\x01\x01b\x01\x00" + "\x00\x00" + "\x00"},
		{outOf(name, "lib", link(zeros+swung), zeros, swung), nameFor('o', name+"\x03lib") + "\x02" + "\x03\x20" + zeros + swung + "\x10" + name + "\x03lib" + "\x02" + zeros + swung},
	} {
		if got, ok := impl.ObjBytes(c.o); !ok || string(got) != c.want {
			t.Errorf("ObjBytes(%v) = %q, %t instead of %q", c.o, got, ok, c.want)
		}
	}
	for what, o := range validObjs() {
		if got, ok := impl.ObjBytes(o); !ok || !bytes.Equal(got, encodeObj(o)) {
			t.Errorf("%s: ObjBytes = %q, %t", what, got, ok)
		}
	}
	for what, o := range brokenObjs() {
		if got, ok := impl.ObjBytes(o); ok || len(got) != 0 {
			t.Errorf("%s: ObjBytes = %q, %t", what, got, ok)
		}
	}
}

func TestObjOkOfChangedObjects(t *testing.T) {
	random := rand.New(rand.NewSource(41))
	seen := map[bool]int{}
	for range 3000 {
		l := []impl.Obj{}
		for i := range 4 {
			l = append(l, randomObj(random, l, i))
		}
		o := changed(l[3], func(o *impl.Obj) { changeObj(random, o, l) })
		want := validObj(o)
		seen[want]++
		if got := impl.ObjOk(o); got != want {
			t.Fatalf("ObjOk(%v) = %t", o, got)
		}
	}
	if seen[true] < 300 || seen[false] < 300 {
		t.Fatal("too few objects of one sort:", seen)
	}
}

// changeObj makes one change by which o may remain valid; what it takes over is of l.
func changeObj(random *rand.Rand, o *impl.Obj, l []impl.Obj) {
	other := l[random.Intn(len(l))]
	switch random.Intn(9) {
	case 0:
		o.Name = other.Name
	case 1:
		o.Kind = random.Intn(5) - 1
	case 2:
		o.Tree = other.Tree
	case 3:
		o.Refs = other.Refs
	case 4:
		o.Refs = append(o.Refs, other.Name)
	case 5:
		o.Refs = o.Refs[:len(o.Refs)/2]
	case 6:
		o.From = other.From
	case 7:
		o.Out = other.Out
	case 8:
		random.Shuffle(len(o.Refs), func(i, j int) { o.Refs[i], o.Refs[j] = o.Refs[j], o.Refs[i] })
	}
}

func TestObjMemory(t *testing.T) {
	for what, o := range validObjs() {
		checkCall(t, what+": ObjOk", impl.ObjOk, o)
		checkCall(t, what+": ObjBytes", impl.ObjBytes, o)
	}
	checkCall(t, "ObjOk of the zero value", impl.ObjOk, impl.Obj{})
	checkCall(t, "ObjBytes of the zero value", impl.ObjBytes, impl.Obj{})
}
