package tests

import (
	"math/rand"
	"slices"
	"strings"
	"testing"

	"loop.example/g00538/impl"
)

// The tests of promise 4, as far as it speaks of adding: what is added is
// present and refers to the names that occur in it; everything else remains;
// adding it again changes nothing.

// added returns what the document says of adding o, a valid text or tree.
func added(s impl.Store, o impl.Obj) (impl.Store, string, int) {
	var all []string
	for _, other := range s.Objs {
		all = append(all, nameOf(other))
	}
	return addedIn(s, o, all)
}

// addedIn is added, but o refers only to names of view, which are ascending.
func addedIn(s impl.Store, o impl.Obj, view []string) (impl.Store, string, int) {
	if _, ok := objOf(s, nameOf(o)); ok {
		return s, nameOf(o), impl.StWell
	}
	if len(s.Objs) >= 24 {
		return s, "", impl.StFull
	}
	var refs []string
	for _, name := range view {
		if strings.Contains(dataOf(o.Tree), name) {
			refs = append(refs, name)
		}
	}
	o.Refs = texts(refs...)
	more := storeOf(append(slices.Clone(s.Objs), o)...)
	more.Roots, more.Reals = s.Roots, s.Reals
	return more, nameOf(o), impl.StWell
}

// checkAdd adds o, a text or a tree, to s and returns the result and the code.
func checkAdd(t *testing.T, what string, s impl.Store, o impl.Obj) (impl.Store, int) {
	t.Helper()
	add := func(s impl.Store) (impl.Store, []byte, int) {
		if o.Kind == impl.ObText {
			return impl.AddText(s, o.Tree.Data)
		}
		return impl.AddTree(s, o.Tree)
	}
	got, name, code := add(s)
	want, wantName, wantCode := added(s, o)
	if code != wantCode || string(name) != wantName || !sameStore(got, want) {
		t.Fatalf("%s: adding %v to %v = %v, %q, %d", what, o.Tree, s, got, name, code)
	}
	if !impl.StoreOk(got) {
		t.Fatalf("%s: adding %v to %v = %v, which is not valid", what, o.Tree, s, got)
	}
	again, name, _ := add(got)
	if !sameStore(again, want) || string(name) != wantName {
		t.Fatalf("%s: adding %v again to %v = %v, %q", what, o.Tree, got, again, name)
	}
	return got, code
}

// checkRefs adds o to s and fails if it does not refer to exactly these.
func checkRefs(t *testing.T, what string, s impl.Store, o impl.Obj, refs ...impl.Obj) {
	t.Helper()
	got, code := checkAdd(t, what, s, o)
	found, ok := impl.Find(got, o.Name)
	if code != impl.StWell || !ok || !sameTexts(found.Refs, namesOf(refs...)) || !same(found.Tree, o.Tree) || found.Kind != o.Kind {
		t.Errorf("%s: added as %v, %t, %d", what, found, ok, code)
	}
	if got := impl.RefsOf(got, o.Name); !sameTexts(got, namesOf(refs...)) {
		t.Errorf("%s: RefsOf = %q", what, got)
	}
}

func TestAddText(t *testing.T) {
	l := numbered(5)
	s := made(rooted(storeOf(append(l[:3:3], outputs(4)...)...), l[0]), outputs(3)...)
	a, b, c, out := nameOf(l[0]), nameOf(l[1]), nameOf(l[2]), outputs(4)[3]
	for _, x := range []struct {
		what string
		data string
		refs []impl.Obj
	}{
		{"nothing", "", nil},
		{"no name", "some text", nil},
		{"any bytes", "\x00\xff\n$0", nil},
		{"one", a, l[:1]},
		{"one among others", "see " + b + "!", l[1:2]},
		{"several", c + a + b, l[:3]},
		{"several, apart", b + "\n" + c, l[1:3]},
		{"one twice", a + a, l[:1]},
		{"one twice, apart", a + " and " + b + " and " + a, l[:2]},
		{"an output", "#!" + nameOf(out), []impl.Obj{out}},
		{"an output and a text", nameOf(out) + a, []impl.Obj{out, l[0]}},
		{"the derivation of an output", string(out.From), nil},
		{"a name that is not in the store", nameOf(l[3]), nil},
		{"names that are not in the store, and one that is", nameOf(l[3]) + b + nameOf(l[4]), l[1:2]},
		{"the start of a name", a[:15], nil},
		{"the end of a name", a[1:], nil},
		{"names cut short, and one whole", a[:15] + b[1:] + c, l[2:3]},
		{"a name behind its own start", a[:9] + a, l[:1]},
		{"a name with a blank", a[:8] + " " + a[8:], nil},
		{"a name in capitals", strings.ToUpper(a), nil},
		{"the longest", strings.Repeat("x", 400), nil},
		{"the longest, with a name at the end", strings.Repeat("x", 384) + a, l[:1]},
	} {
		checkRefs(t, x.what, s, textOf(x.data), x.refs...)
		checkRefs(t, x.what+", as a tree", s, treeOf(link(x.data)), x.refs...)
		checkRefs(t, x.what+", below a directory", s, treeOf(dir("a b c", file(""), dir("d", program(x.data)), dir(""))), x.refs...)
	}
}

func TestAddTextWithOverlappingNames(t *testing.T) {
	a, b, both := overlap()
	s := storeOf(a, b, textOf("other"))
	checkRefs(t, "both", s, textOf(both), a, b)
	checkRefs(t, "both, among others", s, textOf("0"+both+"z"), a, b)
	checkRefs(t, "the first", s, textOf(both[:len(both)-1]), a)
	checkRefs(t, "the second", s, textOf(both[1:]), b)
	checkRefs(t, "both in a tree", s, treeOf(dir("a b", file(both[:10]), file(both[10:]))), a, b)
}

// What counts is TreeData: a name may be split over nodes.
func TestAddTreeWithSplitNames(t *testing.T) {
	a, b := textOf("a"), textOf("b")
	s := storeOf(a, b, textOf("c"))
	n, m := nameOf(a), nameOf(b)
	for at := 1; at < 16; at++ {
		checkRefs(t, "two files", s, treeOf(dir("a b", file(n[:at]), file(n[at:]))), a)
		checkRefs(t, "deeper", s, treeOf(dir("a b", dir("x", dir("y", link("0"+n[:at]))), program(n[at:]+"0"))), a)
		checkRefs(t, "nodes without data in between", s, treeOf(dir("a b c d", file(n[:at]), dir(""), link(""), file(n[at:]))), a)
		checkRefs(t, "data in between", s, treeOf(dir("a b c", file(n[:at]), link("-"), file(n[at:]))))
		checkRefs(t, "the wrong order", s, treeOf(dir("a b", file(n[at:]), file(n[:at]))))
		checkRefs(t, "three files", s, treeOf(dir("a b c", file(n[:at/2]), file(n[at/2:at]), file(n[at:]))), a)
		checkRefs(t, "two names", s, treeOf(dir("a b c", file(m+n[:at]), file(n[at:]+m[:at]), link(m[at:]))), a, b)
		checkRefs(t, "parts of two names", s, treeOf(dir("a b", file(n[:at]), file(m[at:]))))
	}
	checkRefs(t, "the names of kids", s, treeOf(dir(min(n[:8], n[8:])+" "+max(n[:8], n[8:]), file(""), file(""))))
	checkRefs(t, "the largest tree", s, treeOf(validTrees()["largest"]))
}

// A text, the tree that is a file with its data, and other trees of it are different objects.
func TestAddTextAndTreeOfIt(t *testing.T) {
	s := impl.Store{}
	for _, o := range []impl.Obj{textOf("a"), treeOf(file("a")), treeOf(program("a")), treeOf(link("a")), treeOf(dir("a", file("a")))} {
		s, _ = checkAdd(t, "one after the other", s, o)
	}
	if len(s.Objs) != 5 || impl.CountObjs(s, impl.ObText) != 1 || impl.CountObjs(s, impl.ObTree) != 4 {
		t.Errorf("%v", s)
	}
}

func TestAddAtLimits(t *testing.T) {
	for n := 21; n <= 24; n++ {
		s := rooted(storeOf(numbered(n)...), numbered(2)...)
		for _, o := range []impl.Obj{textOf("new"), textOf(""), treeOf(sample()), textOf(nameOf(numbered(1)[0]))} {
			got, code := checkAdd(t, "a new object", s, o)
			if n < 24 && (code != impl.StWell || len(got.Objs) != n+1) || n == 24 && (code != impl.StFull || len(got.Objs) != 24) {
				t.Errorf("adding to %d objects: %d, %d", n, len(got.Objs), code)
			}
		}
		for i := range n {
			if got, code := checkAdd(t, "what exists", s, numbered(n)[i]); code != impl.StWell || len(got.Objs) != n {
				t.Errorf("adding what exists to %d objects: %d, %d", n, len(got.Objs), code)
			}
		}
	}
	for _, o := range fullStore().Objs {
		if o.Kind != impl.ObOut {
			checkAdd(t, "what exists in a full store", fullStore(), o)
		}
	}
}

func TestAddOfInvalidArguments(t *testing.T) {
	stores := map[string]impl.Store{"empty": {}, "some": storeOf(diamond()...), "full": fullStore()}
	for which, s := range stores {
		for size := 395; size <= 410; size++ {
			got, name, code := impl.AddText(s, []byte(strings.Repeat("y", size)))
			if size > 400 && (code != impl.StForm || len(name) != 0 || !sameStore(got, impl.Store{})) {
				t.Errorf("%s: AddText of %d bytes = %v, %q, %d", which, size, got, name, code)
			}
			if size <= 400 && code == impl.StForm {
				t.Errorf("%s: AddText of %d bytes is rejected", which, size)
			}
		}
		if _, _, code := impl.AddText(s, make([]byte, 100000)); code != impl.StForm {
			t.Errorf("%s: AddText of 100000 bytes: %d", which, code)
		}
		for what, tree := range brokenTrees() {
			if got, name, code := impl.AddTree(s, tree); code != impl.StForm || len(name) != 0 || !sameStore(got, impl.Store{}) {
				t.Errorf("%s: AddTree, %s = %v, %q, %d", which, what, got, name, code)
			}
		}
	}
}

func TestAddTreeOfEveryTree(t *testing.T) {
	for what, tree := range validTrees() {
		checkRefs(t, what, impl.Store{}, treeOf(tree))
		checkRefs(t, what, storeOf(diamond()...), treeOf(tree))
	}
}

// An object that exists remains as it is, also if it would now get other references.
func TestAddDoesNotChangeObjects(t *testing.T) {
	a, b := textOf("a"), textOf("b")
	for _, o := range []impl.Obj{textOf(nameOf(a) + nameOf(b)), treeOf(dir("x", link(nameOf(a)+nameOf(b))))} {
		s, _ := checkAdd(t, "before what it mentions", impl.Store{}, o)
		s, _ = checkAdd(t, "what is mentioned", s, a)
		s, _ = checkAdd(t, "what is mentioned", s, b)
		s, _ = checkAdd(t, "again", s, o)
		if got := impl.RefsOf(s, o.Name); len(got) != 0 {
			t.Errorf("the object refers to %q now", got)
		}
		if got := impl.UsersOf(s, a.Name); len(got) != 0 {
			t.Errorf("%q refer to what was added later", got)
		}
		o.Refs = namesOf(b)
		s, _ = checkAdd(t, "again, with one reference", storeOf(a, b, o), o)
		if got := impl.RefsOf(s, o.Name); !sameTexts(got, namesOf(b)) {
			t.Errorf("the object refers to %q now", got)
		}
		// A reference to what is gone is not made again.
		gone, _ := impl.Gc(rooted(storeOf(a, b, o), o))
		s, _ = checkAdd(t, "again, after a collection", gone, o)
		if len(s.Objs) != 2 {
			t.Errorf("%v", s)
		}
	}
}

func TestAddToEveryStore(t *testing.T) {
	for what, s := range validStores() {
		checkAdd(t, what, s, textOf("something new"))
		checkAdd(t, what, s, textOf("a"))
		checkAdd(t, what, s, treeOf(sample()))
		for i, o := range s.Objs {
			checkAdd(t, what, s, textOf(nameOf(o)))
			checkAdd(t, what, s, treeOf(program(nameOf(o)+nameOf(s.Objs[i/2]))))
			if o.Kind != impl.ObOut {
				checkAdd(t, what, s, o)
			}
		}
	}
}

func TestAddRandomObjects(t *testing.T) {
	random := rand.New(rand.NewSource(43))
	seen := map[int]int{}
	for range 150 {
		s := randomStore(random)
		for i := range 12 {
			o := randomObj(random, append(numbered(2), s.Objs...), i)
			if o.Kind == impl.ObOut {
				continue
			}
			code := 0
			s, code = checkAdd(t, "at random", s, o)
			seen[code]++
		}
	}
	if seen[impl.StWell] < 300 || seen[impl.StFull] < 100 {
		t.Fatal("too few of one sort:", seen)
	}
}
