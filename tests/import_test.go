package tests

import (
	"bytes"
	"math/rand"
	"slices"
	"strconv"
	"testing"

	"loop.example/g00538/impl"
)

// The tests of promise 12: an export is imported unchanged into any store that
// has capacity and no different object with the same name, or not at all;
// exported from there it yields the same bytes.

// checkImport fails if Import does not return what the document says.
func checkImport(t *testing.T, what string, s impl.Store, b []byte) (impl.Store, int) {
	t.Helper()
	got, code := impl.Import(s, b)
	want, wantCode := imported(s, b)
	if code != wantCode || !sameStore(got, want) {
		t.Fatalf("%s: Import(%.500v, %.500q) = %.500v, %d instead of %.500v, %d", what, s, b, got, code, want, wantCode)
	}
	if code == impl.StWell {
		checkArrived(t, what, s, b, got)
	} else if impl.StoreOk(s) && !sameStore(got, s) {
		t.Fatalf("%s: Import(%.500v, %.500q) = %.500v, %d", what, s, b, got, code)
	}
	return got, code
}

// checkArrived fails if after is not s with all objects of an export.
func checkArrived(t *testing.T, what string, s impl.Store, b []byte, after impl.Store) {
	t.Helper()
	if !impl.StoreOk(after) || !sameTexts(after.Roots, s.Roots) || !slices.EqualFunc(after.Reals, s.Reals, sameReal) {
		t.Fatalf("%s: the store %.500v is not valid, or its roots or realisations changed", what, after)
	}
	l, _ := impl.Cargo(b)
	if from := plus(s, l...); len(onlyObjs(after, from)) > 0 {
		t.Fatalf("%s: the store %.500v has objects from elsewhere", what, after)
	}
	for _, o := range append(slices.Clone(s.Objs), l...) {
		if got, ok := impl.Find(after, o.Name); !ok || !sameObj(got, o) {
			t.Fatalf("%s: the object %.200v is %.200v, %t", what, o, got, ok)
		}
	}
	if again, ok := impl.Export(after, l[len(l)-1].Name); !ok || !bytes.Equal(again, b) {
		t.Fatalf("%s: exported from there: %.500q, %t instead of %.500q", what, again, ok, b)
	}
	if again, code := impl.Import(after, b); code != impl.StWell || !sameStore(again, after) {
		t.Fatalf("%s: imported again: %.500v, %d", what, again, code)
	}
}

// checkInto fails if Import does not return that store and StWell.
func checkInto(t *testing.T, what string, s impl.Store, b []byte, want impl.Store) {
	t.Helper()
	if got, code := checkImport(t, what, s, b); code != impl.StWell || !sameStore(got, want) {
		t.Errorf("%s: Import = %.500v, %d", what, got, code)
	}
}

// checkNotImported fails if Import does not return the same store and that code.
func checkNotImported(t *testing.T, what string, s impl.Store, b []byte, want int) {
	t.Helper()
	if got, code := checkImport(t, what, s, b); code != want || !sameStore(got, s) {
		t.Errorf("%s: Import = %.500v, %d instead of %d", what, got, code, want)
	}
}

// plus returns s with these objects beside its own.
func plus(s impl.Store, objs ...impl.Obj) impl.Store {
	s.Objs = storeOf(append(slices.Clone(s.Objs), objs...)...).Objs
	return s
}

func TestImportCodes(t *testing.T) {
	checkConstants(t, []int{impl.StWell, impl.StForm, impl.StFull, impl.StNone}, 0, 1, 2, 3)
}

func TestImport(t *testing.T) {
	name := nameFor('t', "hi")
	see := nameFor('f', "\x03\x10"+name)
	b := []byte("X\x02" + name + "\x00\x00\x02hi\x00\x00\x00" + see + "\x01\x03\x10" + name + "\x00\x00\x01" + name)
	s, code := impl.Import(impl.Store{}, b)
	if code != 0 || len(s.Objs) != 2 || len(s.Roots)+len(s.Reals) != 0 || !impl.StoreOk(s) {
		t.Fatalf("Import = %v, %d", s, code)
	}
	want, _, _ := impl.AddText(impl.Store{}, []byte("hi"))
	want, _, _ = impl.AddTree(want, link(name))
	if impl.StoreCmp(s, want) != 0 {
		t.Errorf("Import = %v instead of %v", s, want)
	}
}

func TestImportOfEveryExport(t *testing.T) {
	c, outs := chain(4), outputs(3)
	other := made(rooted(storeOf(append(outs, c...)...), c[1], outs[0]), c[2], outs[0], outs[2])
	for what, l := range validCargos() {
		b := packed(l...)
		checkInto(t, what+", into nothing", impl.Store{}, b, storeOf(l...))
		checkInto(t, what+", into itself", storeOf(l...), b, storeOf(l...))
		checkInto(t, what+", into itself with roots", rooted(storeOf(l...), l...), b, rooted(storeOf(l...), l...))
		checkImport(t, what+", into another store", other, b)
		for i := range l {
			// In dependency order, the first ones need no others.
			part := rooted(storeOf(l[:i]...), l[:i]...)
			if i%7 == 0 || i == len(l)-1 {
				checkInto(t, what+", into a part", part, b, plus(part, l[i:]...))
			}
		}
	}
}

func TestImportIntoEveryStore(t *testing.T) {
	codes, n := map[int]int{}, 0
	for _, l := range inOrder(validCargos()) {
		b := packed(l...)
		for what, s := range inOrder(validStores()) {
			// They are too many for each pair to be tried.
			if n++; n%5 == 0 {
				_, code := checkImport(t, what, s, b)
				codes[code]++
			}
		}
	}
	if codes[impl.StWell] < 300 || codes[impl.StFull] < 50 {
		t.Error("too few of one sort:", codes)
	}
}

// An export of each object of a store goes back into the store itself, which remains as it was.
func TestImportIntoItself(t *testing.T) {
	for what, s := range validStores() {
		for i, o := range s.Objs {
			if b, ok := impl.Export(s, o.Name); ok && i%3 == 0 {
				checkInto(t, what, s, b, s)
			}
		}
	}
}

// Each of four objects is imported where none, all or some of them are.
func TestImportOfAllSmallStores(t *testing.T) {
	for code, l := range foursomes() {
		all := storeOf(l...)
		for i, o := range l {
			wanted := needed(all, nameOf(o))
			for _, s := range []impl.Store{{}, all, storeOf(without(l, l[code%4])...), storeOf(needed(all, nameOf(l[(code+i)%4]))...)} {
				s = rooted(s, s.Objs...)
				checkInto(t, "four", s, packed(wanted...), plus(s, onlyObjs(storeOf(wanted...), s)...))
			}
		}
	}
}

func TestImportAtLimits(t *testing.T) {
	c := chain(8)
	others := numbered(24)
	for n := range 25 {
		for common := range len(c) + 1 {
			// The store has n objects beside the first ones of the chain.
			if n+common > 24 {
				continue
			}
			s := rooted(storeOf(append(slices.Clone(others[:n]), c[:common]...)...), others[:n]...)
			what := strconv.Itoa(n) + " others and " + strconv.Itoa(common) + " of 8"
			for size := 1; size <= len(c); size++ {
				b := packed(c[:size]...)
				if n+max(common, size) <= 24 {
					checkInto(t, what, s, b, plus(s, c[min(common, size):size]...))
				} else {
					checkNotImported(t, what, s, b, impl.StFull)
				}
			}
		}
	}
}

func TestImportIntoFullStores(t *testing.T) {
	full := fullStore()
	for _, o := range full.Objs {
		checkInto(t, "all are there", full, packed(needed(full, nameOf(o))...), full)
	}
	checkNotImported(t, "none is there", full, packed(textOf("a")), impl.StFull)
	checkNotImported(t, "none of two is there", full, packed(textOf("a"), textOf(nameOf(textOf("a")), nameOf(textOf("a")))), impl.StFull)
	for _, o := range full.Objs {
		user := treeOf(link("new: "+nameOf(o)), nameOf(o))
		if wanted := append(needed(full, nameOf(o)), user); len(wanted) <= 24 {
			checkNotImported(t, "all but the last are there", full, packed(wanted...), impl.StFull)
		}
	}
	l := heavy()
	checkInto(t, "24 large objects", impl.Store{}, packed(l...), storeOf(l...))
	for _, i := range []int{1, 12, 23} {
		part := storeOf(l[:i]...)
		checkInto(t, "the others of 24 large objects", part, packed(l...), storeOf(l...))
		checkNotImported(t, "one object too many", plus(part, textOf("a")), packed(l...), impl.StFull)
	}
	for n := range 24 {
		outs := outputs(n)
		s := made(rooted(storeOf(outs...), outs...), outs...)
		checkInto(t, "as many as there is room for", s, packed(star(24-n)...), plus(s, star(24-n)...))
		if n > 0 {
			checkNotImported(t, "one more than there is room for", s, packed(star(25-n)...), impl.StFull)
		}
	}
}

// unequal are pairs of valid objects that have the same name and are not equal; all of them need at most a and b.
func unequal(a, b impl.Obj) map[string][2]impl.Obj {
	data := nameOf(a) + nameOf(b)
	tree, out := dir("x y", link(data), file("")), drvName(9)
	return map[string][2]impl.Obj{
		"references and none of a text":   {textOf(data, nameOf(a), nameOf(b)), textOf(data)},
		"another reference of a text":     {textOf(data, nameOf(a)), textOf(data, nameOf(b))},
		"fewer references of a text":      {textOf(data, nameOf(a), nameOf(b)), textOf(data, nameOf(b))},
		"references and none of a tree":   {treeOf(tree, nameOf(b)), treeOf(tree)},
		"another reference of a tree":     {treeOf(tree, nameOf(b)), treeOf(tree, nameOf(a))},
		"references and none of an out":   {outOf(out, "out", tree, nameOf(a)), outOf(out, "out", tree)},
		"another tree of an output":       {outOf(out, "out", file("x")), outOf(out, "out", file("y"))},
		"another Kind of its tree":        {outOf(out, "out", file("x")), outOf(out, "out", program("x"))},
		"another name in its tree":        {outOf(out, "out", dir("x", file(""))), outOf(out, "out", dir("y", file("")))},
		"one kid more in its tree":        {outOf(out, "out", dir("x", file(""))), outOf(out, "out", dir("x y", file(""), file("")))},
		"another kid deep in its tree":    {outOf(out, "out", deep(4, file("x"))), outOf(out, "out", deep(4, file("z")))},
		"an empty directory and a file":   {outOf(out, "out", dir("")), outOf(out, "out", file(""))},
		"another tree and other refs":     {outOf(out, "out", file(data), nameOf(a)), outOf(out, "out", link("-"+data), nameOf(b))},
		"the same data, split up, of out": {outOf(out, "out", dir("x y", file(data), file("")), nameOf(a)), outOf(out, "out", dir("x y", file(""), file(data)), nameOf(a))},
	}
}

// An object that has the same name and is not equal: nothing is imported, and it remains.
func TestImportOfUnequalObjects(t *testing.T) {
	a, b := textOf("a"), textOf("b")
	for what, pair := range unequal(a, b) {
		for i, o := range pair {
			other := pair[1-i]
			has := rooted(storeOf(a, b, other), a, other)
			if other.Kind == impl.ObOut {
				has = made(has, other)
			}
			top := treeOf(link(nameOf(o)), nameOf(o))
			middle := outOf(drvName(8), "out", file(nameOf(o)+nameOf(a)), nameOf(o), nameOf(a))
			all := storeOf(a, b, o, top, middle)
			for _, wanted := range []impl.Obj{o, top, middle} {
				e := packed(needed(all, nameOf(wanted))...)
				checkNotImported(t, what, has, e, impl.StNone)
				checkNotImported(t, what+", beside others", plus(has, numbered(10)...), e, impl.StNone)
				checkInto(t, what+", the same", all, e, all)
			}
		}
	}
}

// Both reasons in one export: the first object to which one of them applies decides.
func TestImportFirstCode(t *testing.T) {
	codes := map[int]int{}
	for n := range 40 {
		fresh := textOf("fresh " + strconv.Itoa(n))
		known, changedOne := outOf(drvName(n), "out", file("known")), outOf(drvName(n), "out", file("changed"))
		top := textOf(nameOf(fresh)+nameOf(known), nameOf(fresh), nameOf(known))
		b := packed(needed(storeOf(fresh, changedOne, top), nameOf(top))...)
		want := impl.StNone
		if nameOf(fresh) < nameOf(known) {
			want = impl.StFull
		}
		codes[want]++
		// Both are there without references: their names alone decide which comes first.
		checkNotImported(t, "one of 24 is not equal", plus(storeOf(numbered(23)...), known), b, want)
		checkNotImported(t, "one of 23 is not equal", plus(storeOf(numbered(22)...), known), b, impl.StNone)
		checkNotImported(t, "none of 24 is there", storeOf(numbered(24)...), b, impl.StFull)
		checkNotImported(t, "none of 22 is there", storeOf(numbered(22)...), b, impl.StFull)
	}
	if codes[impl.StNone] < 5 || codes[impl.StFull] < 5 {
		t.Error("too few of one order:", codes)
	}
}

// There is room for some objects of the export, and one behind them is not equal.
func TestImportFirstCodeBehindObjectsThatFit(t *testing.T) {
	c := chain(6)
	for i := range c {
		if i == 0 || c[i].Kind != impl.ObOut {
			continue
		}
		other := outOf(string(c[i].From), string(c[i].Out), file("other"))
		for n := range 24 {
			s := plus(storeOf(numbered(n)...), other)
			want := impl.StNone
			if len(s.Objs)+i > 24 {
				want = impl.StFull
			}
			checkNotImported(t, "object "+strconv.Itoa(i)+" is not equal", s, packed(c...), want)
			checkNotImported(t, "the last object is not equal", s, packed(c[:i+1]...), want)
		}
	}
}

// The zero value and StForm, if the store is not valid, whatever else applies.
func TestImportIntoInvalidStores(t *testing.T) {
	good, broken := packed(chain(3)...), packed(numbered(2)...)
	for what, s := range brokenStores() {
		for _, b := range [][]byte{nil, {'X'}, good, broken} {
			if got, code := impl.Import(s, b); code != impl.StForm || !sameStore(got, impl.Store{}) {
				t.Errorf("%s: Import of %.100q = %.200v, %d", what, b, got, code)
			}
		}
	}
}

// The same store and StForm, if the bytes are no export, whatever else applies.
func TestImportOfNoExport(t *testing.T) {
	c := chain(4)
	stores := []impl.Store{{}, fullStore(), storeOf(numbered(24)...), made(rooted(storeOf(c...), c[1]), c[2])}
	for what, l := range brokenCargos() {
		for _, s := range stores {
			checkNotImported(t, what, s, packed(l...), impl.StForm)
		}
	}
	for what, s := range validStores() {
		b := packed(c...)
		for _, broken := range [][]byte{nil, {}, {'X'}, {'X', 0}, b[:len(b)-1], append(bytes.Clone(b), 0), b[1:], packed(c[1:]...), packed(reversed(c)...), make([]byte, 500001)} {
			checkNotImported(t, what, s, broken, impl.StForm)
		}
	}
}

// What one store exports, another one imports, which is like it or not.
func TestImportBetweenRandomStores(t *testing.T) {
	random := rand.New(rand.NewSource(98))
	codes := map[int]int{}
	for range 120 {
		a := randomStore(random)
		b := randomVariant(random, a)
		// In another store, there are outputs of the same derivations.
		if random.Intn(2) == 0 {
			b = randomStore(random)
		}
		for range 8 {
			if len(a.Objs) == 0 {
				break
			}
			name := nameOf(a.Objs[random.Intn(len(a.Objs))])
			e, ok := impl.Export(a, []byte(name))
			if !ok {
				t.Fatalf("%q is not exported", name)
			}
			if random.Intn(10) == 0 {
				e = edited(random, e, e)
			}
			after, code := checkImport(t, "at random", b, e)
			codes[code]++
			b = after
		}
	}
	if codes[impl.StWell] < 100 || codes[impl.StForm] < 30 || codes[impl.StFull] < 10 || codes[impl.StNone] < 10 {
		t.Error("too few of one sort:", codes)
	}
}

// An object goes from store to store, and comes back unchanged.
func TestImportAround(t *testing.T) {
	c := append(chain(9), diamond()...)
	from := storeOf(c...)
	for _, o := range c {
		b, ok := impl.Export(from, o.Name)
		for _, s := range []impl.Store{{}, storeOf(numbered(11)...), made(rooted(storeOf(outputs(8)...), outputs(3)...), outputs(5)...)} {
			var after impl.Store
			after, _ = checkImport(t, "around", s, b)
			if b, ok = impl.Export(after, o.Name); !ok {
				t.Fatalf("%v is not exported", o)
			}
		}
		if got, code := impl.Import(impl.Store{}, b); code != impl.StWell || !sameStore(got, storeOf(needed(from, nameOf(o))...)) {
			t.Errorf("%v comes back as %v, %d", o, got, code)
		}
		checkInto(t, "around", from, b, from)
	}
}

// Objects that are behind the length of a slice are none of the store.
func TestImportStaysWithinLength(t *testing.T) {
	s := storeOf(append(numbered(3), chain(3)...)...)
	all := slices.Clone(s.Objs)
	s.Objs = s.Objs[:0]
	b := packed(chain(3)...)
	if got, code := impl.Import(s, append(bytes.Clone(b), 0)[:len(b)]); code != impl.StWell || !sameStore(got, storeOf(chain(3)...)) {
		t.Errorf("Import = %v, %d", got, code)
	}
	if !slices.EqualFunc(s.Objs[:6], all, sameObj) {
		t.Error("what is behind the length is modified")
	}
	if got, code := impl.Import(impl.Store{}, b[:len(b)-1:len(b)]); code != impl.StForm {
		t.Errorf("Import reads behind the length: %v, %d", got, code)
	}
}

func TestImportMemory(t *testing.T) {
	c, a, b := chain(5), textOf("a"), textOf("b")
	pair := unequal(a, b)["another tree of an output"]
	exports := [][]byte{nil, packed(c...), packed(c[1:]...), packed(a), packed(pair[0]), packed(chain(24)...)}
	stores := validStores()
	stores["not valid"] = storeOf(circle(3)...)
	stores["one that is not equal"] = rooted(storeOf(a, pair[1]), pair[1])
	stores["some of it"] = rooted(storeOf(c[:3]...), c[1])
	for what, s := range stores {
		for _, e := range exports {
			checkCall(t, what+": Import", impl.Import, s, e)
		}
		for i, o := range s.Objs {
			if e, ok := impl.Export(s, o.Name); ok && i%5 == 0 {
				checkCall(t, what+": Import into itself", impl.Import, s, e)
			}
		}
	}
}
