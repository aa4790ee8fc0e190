package tests

import (
	"bytes"
	"math/rand"
	"strconv"
	"testing"

	"loop.example/g00538/impl"
)

// The tests of promise 12 that are about what an export consists of.

// checkExport fails if Export does not return what the document says, or if
// Cargo does not return the objects of the export, in order.
func checkExport(t *testing.T, what string, s impl.Store, name string) ([]byte, bool) {
	t.Helper()
	got, ok := impl.Export(s, []byte(name))
	want, wantOk := exported(s, name)
	if ok != wantOk || !bytes.Equal(got, want) {
		t.Fatalf("%s: Export(%.500v, %q) = %.500q, %t instead of %.500q, %t", what, s, name, got, ok, want, wantOk)
	}
	if ok {
		checkPacked(t, what, needed(s, name))
	}
	return got, ok
}

// checkExported fails if the export of that object does not consist of these, in this order.
func checkExported(t *testing.T, what string, s impl.Store, name string, objs ...impl.Obj) {
	t.Helper()
	if got, ok := checkExport(t, what, s, name); !ok || !bytes.Equal(got, packed(objs...)) {
		t.Errorf("%s: Export = %.500q, %t", what, got, ok)
	}
}

// checkNoExport fails if Export does not return nil and false.
func checkNoExport(t *testing.T, what string, s impl.Store, name []byte) {
	t.Helper()
	if got, ok := impl.Export(s, name); ok || got != nil {
		t.Errorf("%s: Export of %q = %.200q, %t", what, name, got, ok)
	}
}

func TestExport(t *testing.T) {
	name, other := nameFor('t', "hi"), nameFor('t', "ho")
	see := nameFor('f', "\x03\x10"+name)
	s, _, _ := impl.AddText(impl.Store{}, []byte("ho"))
	s, low, _ := impl.AddText(s, []byte("hi"))
	s, top, _ := impl.AddTree(s, link(name))
	hi, link := name+"\x00\x00\x02hi\x00\x00\x00", see+"\x01\x03\x10"+name+"\x00\x00\x01"+name
	for of, want := range map[string]string{name: "X\x01" + hi, other: "X\x01" + other + "\x00\x00\x02ho\x00\x00\x00", see: "X\x02" + hi + link} {
		if got, ok := impl.Export(s, []byte(of)); !ok || string(got) != want {
			t.Errorf("Export of %q = %q, %t instead of %q", of, got, ok, want)
		}
	}
	if string(low) != name || string(top) != see {
		t.Errorf("the names are %q and %q", low, top)
	}
}

func TestExportOfEveryObject(t *testing.T) {
	for what, s := range validStores() {
		for _, o := range s.Objs {
			checkExport(t, what, s, nameOf(o))
		}
	}
	random := rand.New(rand.NewSource(93))
	lengths := map[int]int{}
	for range 60 {
		s := randomStore(random)
		for _, o := range s.Objs {
			b, _ := checkExport(t, "at random", s, nameOf(o))
			lengths[int(b[1])]++
		}
	}
	for n := 1; n <= 8; n++ {
		if lengths[n] < 3 {
			t.Error("too few of one length:", lengths)
		}
	}
}

// What is not needed, roots and realisations are no part of an export.
func TestExportOfOneOfMany(t *testing.T) {
	c, d, outs := chain(4), diamond(), outputs(4)
	all := append(append(append(numbered(3), outs...), c...), d...)
	s := made(rooted(storeOf(all...), c[0], d[1], outs[2]), c[2], d[3], outs[1])
	for i, o := range c {
		checkExported(t, "a chain", s, nameOf(o), c[:i+1]...)
	}
	for _, o := range append(append(numbered(3), outs...), d[0]) {
		checkExported(t, "an object without references", s, nameOf(o), o)
		checkExported(t, "an object that is alone", storeOf(o), nameOf(o), o)
	}
	checkExported(t, "the left of a diamond", s, nameOf(d[1]), d[0], d[1])
	checkExported(t, "the right of a diamond", s, nameOf(d[2]), d[0], d[2])
	left, right := min(nameOf(d[1]), nameOf(d[2])), max(nameOf(d[1]), nameOf(d[2]))
	first, _ := objOf(s, left)
	second, _ := objOf(s, right)
	checkExported(t, "a diamond", s, nameOf(d[3]), d[0], first, second, d[3])
	mention := textOf(nameOf(c[0])+nameOf(c[1]), nameOf(c[1]))
	checkExported(t, "a mention that is no reference", storeOf(append(c, mention)...), nameOf(mention), c[0], c[1], mention)
	checkExported(t, "a mention without references", storeOf(c[0], textOf(nameOf(c[0]))), nameOf(textOf(nameOf(c[0]))), textOf(nameOf(c[0])))
}

func TestExportInDependencyOrder(t *testing.T) {
	byName := 0
	for what, x := range orders() {
		l := arranged(x)
		top := nameOf(l[len(l)-1])
		checkExported(t, what, storeOf(l...), top, l...)
		checkExported(t, what+", beside others", storeOf(append(numbered(3), l...)...), top, l...)
		// The end has the greatest name or not; the order of the others does not depend on it.
		end := outOf(drvName(50), "end", dir("a", l[len(l)-1].Tree), strs(l[len(l)-1].Refs)...)
		l[len(l)-1] = end
		checkExported(t, what+", another end", storeOf(l...), nameOf(end), l...)
		if bytes.Equal(packed(l...), packed(storeOf(l...).Objs...)) {
			byName++
		}
	}
	if byName > 4 {
		t.Error(byName, "are in the order of the names")
	}
}

// Every way in which four objects can refer to each other.
func TestExportOfAllSmallStores(t *testing.T) {
	lengths := map[int]int{}
	for _, l := range foursomes() {
		for _, o := range l {
			b, _ := checkExport(t, "four", storeOf(l...), nameOf(o))
			lengths[int(b[1])]++
		}
	}
	for n := 1; n <= 4; n++ {
		if lengths[n] < 300 {
			t.Error("too few of one length:", lengths)
		}
	}
}

func TestExportOfManyObjects(t *testing.T) {
	for n := 1; n <= 24; n++ {
		c, l := chain(n), star(n)
		checkExported(t, "a chain", storeOf(c...), nameOf(c[n-1]), c...)
		checkExported(t, "a star", storeOf(l...), nameOf(l[n-1]), l...)
	}
	l := heavy()
	checkExported(t, "24 large objects", storeOf(l...), nameOf(l[23]), l...)
	if n := len(packed(l...)); n < 300000 {
		t.Error("they have only", n, "bytes")
	}
}

func TestExportOfNoObject(t *testing.T) {
	for what, s := range validStores() {
		names := append(texts(noNames...), []byte(absent()), []byte(zeros), []byte(drvName(0)), nil)
		for i, o := range s.Objs {
			if i%6 == 0 {
				names = append(names, o.Name[:15], o.Name[1:], append(bytes.Clone(o.Name), '0'), bytes.ToUpper(o.Name), o.Tree.Data, o.From, o.Out)
			}
		}
		for _, name := range names {
			if _, exists := objOf(s, string(name)); !exists {
				checkNoExport(t, what, s, name)
			}
		}
	}
	name := []byte(nameOf(textOf("a")) + "0")
	if got, ok := impl.Export(storeOf(textOf("a")), name[:16]); !ok || !bytes.Equal(got, packed(textOf("a"))) {
		t.Errorf("Export with a name behind which there is more = %q, %t", got, ok)
	}
}

func TestExportOfInvalidStores(t *testing.T) {
	for what, s := range brokenStores() {
		names := [][]byte{nil, []byte(absent())}
		for _, o := range s.Objs[:min(len(s.Objs), 30)] {
			names = append(names, o.Name)
		}
		for _, name := range names {
			checkNoExport(t, what, s, name)
		}
	}
	for what, o := range brokenObjs() {
		// The object itself is valid, but another one is not.
		checkNoExport(t, what+", beside it", storeOf(textOf("some text"), o), textOf("some text").Name)
	}
}

func TestExportMemory(t *testing.T) {
	random := rand.New(rand.NewSource(94))
	stores := validStores()
	for i := range 10 {
		stores["at random "+strconv.Itoa(i)] = randomStore(random)
	}
	stores["not valid"] = storeOf(circle(2)...)
	for what, s := range stores {
		checkCall(t, what+": Export of nothing", impl.Export, s, []byte(absent()))
		for _, o := range s.Objs[:min(len(s.Objs), 12)] {
			checkCall(t, what+": Export", impl.Export, s, o.Name)
		}
	}
}
