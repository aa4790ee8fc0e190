package tests

import (
	"math/rand"
	"reflect"
	"slices"
	"strings"
	"testing"

	"loop.example/g00538/impl"
)

// The tests of promises 4 and 5 that concern every function of chapter 4: what
// is a valid store, what the functions return for others, and their memory.

func TestStoreConstants(t *testing.T) {
	constants := []int{impl.MaxObjs, impl.ObText, impl.ObTree, impl.ObOut, impl.StWell, impl.StForm, impl.StFull, impl.StNone}
	checkConstants(t, constants, 24, 0, 1, 2, 0, 1, 2, 3)
}

func TestStoreOk(t *testing.T) {
	for what, s := range validStores() {
		if !impl.StoreOk(s) || !validStore(s) {
			t.Errorf("%s: StoreOk is false", what)
		}
	}
	for what, s := range brokenStores() {
		// The reference does not end for a cyclic tree.
		if impl.StoreOk(s) || !strings.Contains(what, "cyclic") && validStore(s) {
			t.Errorf("%s: StoreOk is true", what)
		}
	}
}

func TestStoreOkOfEachNumber(t *testing.T) {
	for n := range 30 {
		if ok := impl.StoreOk(storeOf(numbered(n)...)); ok != (n <= 24) {
			t.Errorf("StoreOk of %d objects: %t", n, ok)
		}
		l := outputs(n)
		if ok := impl.StoreOk(made(rooted(storeOf(l...), l...), l...)); ok != (n <= 24) {
			t.Errorf("StoreOk of %d outputs, roots and realisations: %t", n, ok)
		}
	}
}

func TestStoreOkOfChangedStores(t *testing.T) {
	random := rand.New(rand.NewSource(42))
	seen := map[bool]int{}
	for range 3000 {
		s := randomStore(random)
		if !impl.StoreOk(s) || !validStore(s) {
			t.Fatalf("StoreOk(%v) is false", s)
		}
		changeStore(random, &s)
		want := validStore(s)
		seen[want]++
		if got := impl.StoreOk(s); got != want {
			t.Fatalf("StoreOk(%v) = %t", s, got)
		}
	}
	if seen[true] < 300 || seen[false] < 300 {
		t.Fatal("too few stores of one sort:", seen)
	}
}

// changeStore makes one change by which s may remain valid.
func changeStore(random *rand.Rand, s *impl.Store) {
	if len(s.Objs) == 0 {
		s.Roots = texts(zeros)
		return
	}
	i, j := random.Intn(len(s.Objs)), random.Intn(len(s.Objs))
	a, b := s.Objs[i], s.Objs[j]
	switch random.Intn(10) {
	case 0:
		s.Objs = slices.Delete(s.Objs, i, i+1)
	case 1:
		s.Objs[i], s.Objs[j] = b, a
	case 2:
		s.Roots = append(s.Roots, a.Name)
	case 3:
		s.Roots = namesOf(a, b)
	case 4:
		s.Reals = append(s.Reals, impl.Real{Drv: a.From, Out: a.Out, Path: b.Name})
	case 5:
		*s = made(*s, a)
	case 6:
		random.Shuffle(len(s.Reals), func(i, j int) { s.Reals[i], s.Reals[j] = s.Reals[j], s.Reals[i] })
	case 7:
		*s = storeOf(append(s.Objs, randomObj(random, s.Objs, 100))...)
	case 8:
		// An output may mention any object, so this may make a circle.
		if a.Kind == impl.ObOut {
			s.Objs[i].Tree, s.Objs[i].Refs = file(nameOf(b)), namesOf(b)
		}
	case 9:
		s.Objs[i] = changed(a, func(o *impl.Obj) { changeObj(random, o, s.Objs) })
	}
}

// The fixed results for stores that are not valid.
func TestFunctionsOfInvalidStores(t *testing.T) {
	for what, s := range brokenStores() {
		names := [][]byte{nil, []byte("a"), []byte(zeros), []byte(absent())}
		for _, o := range s.Objs[:min(len(s.Objs), 30)] {
			names = append(names, o.Name)
		}
		for _, name := range names {
			checkNothingFound(t, what, s, name)
			checkNoRoots(t, what, s, name)
		}
		checkNothingAdded(t, what, s)
		for _, r := range append(s.Reals[:len(s.Reals):len(s.Reals)], impl.Real{}, impl.Real{Drv: []byte(drvName(0)), Out: []byte("out")}) {
			if got, ok := impl.RealOf(s, r.Drv, r.Out); ok || len(got) != 0 {
				t.Errorf("%s: RealOf(%q, %q) = %q, %t", what, r.Drv, r.Out, got, ok)
			}
		}
		if got, gone := impl.Gc(s); !sameStore(got, impl.Store{}) || len(gone) != 0 {
			t.Errorf("%s: Gc = %.200v, %q", what, got, gone)
		}
		if got := impl.ObjNames(s); len(got) != 0 {
			t.Errorf("%s: ObjNames = %q", what, got)
		}
		for kind := -1; kind <= 4; kind++ {
			if got := impl.CountObjs(s, kind); got != -1 {
				t.Errorf("%s: CountObjs(%d) = %d", what, kind, got)
			}
		}
	}
}

func checkNothingFound(t *testing.T, what string, s impl.Store, name []byte) {
	t.Helper()
	if got, ok := impl.Find(s, name); ok || !sameObj(got, impl.Obj{}) {
		t.Errorf("%s: Find(%q) = %.200v, %t", what, name, got, ok)
	}
	for how, f := range map[string]func(impl.Store, []byte) [][]byte{"Closure": impl.Closure, "RefsOf": impl.RefsOf, "UsersOf": impl.UsersOf} {
		if got := f(s, name); len(got) != 0 {
			t.Errorf("%s: %s(%q) = %q", what, how, name, got)
		}
	}
}

func checkNoRoots(t *testing.T, what string, s impl.Store, name []byte) {
	t.Helper()
	if got, code := impl.AddRoot(s, name); code != impl.StForm || !sameStore(got, impl.Store{}) {
		t.Errorf("%s: AddRoot(%q) = %.200v, %d", what, name, got, code)
	}
	if got, code := impl.DropRoot(s, name); code != impl.StForm || !sameStore(got, impl.Store{}) {
		t.Errorf("%s: DropRoot(%q) = %.200v, %d", what, name, got, code)
	}
	if impl.IsRoot(s, name) {
		t.Errorf("%s: IsRoot(%q)", what, name)
	}
}

func checkNothingAdded(t *testing.T, what string, s impl.Store) {
	t.Helper()
	for _, data := range []string{"", "a", "a new text", strings.Repeat("x", 401)} {
		if got, name, code := impl.AddText(s, []byte(data)); code != impl.StForm || len(name) != 0 || !sameStore(got, impl.Store{}) {
			t.Errorf("%s: AddText(%q) = %.200v, %q, %d", what, data, got, name, code)
		}
	}
	for _, tree := range []impl.Tree{{}, file("a"), sample(), deep(5, file(""))} {
		if got, name, code := impl.AddTree(s, tree); code != impl.StForm || len(name) != 0 || !sameStore(got, impl.Store{}) {
			t.Errorf("%s: AddTree = %.200v, %q, %d", what, got, name, code)
		}
	}
}

// Elements behind the length of a slice are none of the store.
func TestStoresStayWithinLength(t *testing.T) {
	outs := outputs(4)
	long := made(rooted(storeOf(outs...), outs...), outs...)
	s := long
	s.Objs, s.Roots, s.Reals = nil, nil, nil
	s.Objs = append(s.Objs, long.Objs...)[:4]
	s.Roots, s.Reals = long.Roots[:1], long.Reals[:2]
	if !impl.StoreOk(s) || impl.IsRoot(s, long.Roots[1]) {
		t.Error("roots behind the length count")
	}
	if got, ok := impl.RealOf(s, long.Reals[2].Drv, long.Reals[2].Out); ok {
		t.Errorf("RealOf = %q", got)
	}
	got, code := impl.AddRoot(s, long.Roots[2])
	if want := [][]byte{long.Roots[0], long.Roots[2]}; code != impl.StWell || !sameTexts(got.Roots, want) || len(got.Reals) != 2 {
		t.Errorf("AddRoot = %v, %d", got, code)
	}
	if len(long.Roots) != 4 || !sameTexts(long.Roots, namesOf(outs...)) {
		t.Error("AddRoot writes behind the length")
	}
	few := impl.Store{Objs: long.Objs[:3]}
	if _, ok := impl.Find(few, long.Objs[3].Name); ok || len(impl.ObjNames(few)) != 3 {
		t.Error("objects behind the length count")
	}
}

func TestStoreMemory(t *testing.T) {
	stores := validStores()
	for what, s := range brokenStores() {
		for _, some := range []string{"circle of 2", "out of order", "twice", "an absent root", "text: no name", "25 objects"} {
			if strings.Contains(what, some) {
				stores["not valid: "+what] = s
			}
		}
	}
	for what, s := range stores {
		names := [][]byte{nil, []byte(absent())}
		for i, o := range s.Objs {
			if i%8 == 0 {
				names = append(names, o.Name)
			}
		}
		for _, name := range names {
			for how, f := range map[string]any{
				"Find": impl.Find, "Closure": impl.Closure, "AddRoot": impl.AddRoot, "DropRoot": impl.DropRoot, "RefsOf": impl.RefsOf, "UsersOf": impl.UsersOf, "IsRoot": impl.IsRoot, "AddText": impl.AddText,
			} {
				checkCall(t, what+": "+how, f, s, name)
			}
		}
		for _, tree := range []impl.Tree{{}, sample(), dir("a", file(string(names[len(names)-1]))), dir("a b", file("x"))} {
			checkCall(t, what+": AddTree", impl.AddTree, s, tree)
		}
		for _, r := range append(s.Reals, impl.Real{Drv: []byte(drvName(0)), Out: []byte("dev")}) {
			checkCall(t, what+": RealOf", impl.RealOf, s, r.Drv, r.Out)
		}
		checkCall(t, what+": StoreOk", impl.StoreOk, s)
		checkCall(t, what+": ObjNames", impl.ObjNames, s)
		checkCall(t, what+": CountObjs", impl.CountObjs, s, impl.ObText)
		checkCall(t, what+": Gc", impl.Gc, s)
		checkCall(t, what+": StoreCmp", impl.StoreCmp, s, fullStore())
		checkCall(t, what+": StoreCmp", impl.StoreCmp, fullStore(), s)
	}
}

// The parts of an argument may share memory with each other, but those of a result do not.
func TestStoresOfSharedMemory(t *testing.T) {
	low := textOf("low")
	out := outOf(nameOf(low), "out", program(nameOf(low)))
	top := treeOf(dir("a", link(nameOf(low)+nameOf(out))))
	out.From, out.Tree.Data, out.Refs = low.Name, low.Name, [][]byte{low.Name}
	top.Refs = namesOf(low, out)
	for i, name := range top.Refs {
		top.Refs[i] = low.Name
		if string(name) == nameOf(out) {
			top.Refs[i] = out.Name
		}
	}
	s := storeOf(low, out, top)
	s.Roots = top.Refs
	s.Reals = []impl.Real{{Drv: low.Name, Out: out.Out, Path: out.Name}}
	if !impl.StoreOk(s) {
		t.Fatal("StoreOk is false")
	}
	for what, results := range map[string][]any{
		"Find":     list(impl.Find(s, out.Name)),
		"Closure":  list(impl.Closure(s, top.Name)),
		"Gc":       list(impl.Gc(s)),
		"AddRoot":  list(impl.AddRoot(s, low.Name)),
		"DropRoot": list(impl.DropRoot(s, low.Name)),
		"AddText":  list(impl.AddText(s, low.Name)),
		"again":    list(impl.AddText(s, low.Tree.Data)),
		"AddTree":  list(impl.AddTree(s, top.Tree)),
		"a tree":   list(impl.AddTree(s, dir("a b", out.Tree, file(string(low.Name))))),
		"RefsOf":   list(impl.RefsOf(s, top.Name)),
		"UsersOf":  list(impl.UsersOf(s, low.Name)),
		"ObjNames": list(impl.ObjNames(s)),
		"RealOf":   list(impl.RealOf(s, low.Name, out.Out)),
	} {
		var values []reflect.Value
		for _, r := range results {
			values = append(values, reflect.ValueOf(r))
		}
		checkApart(t, what, regionsOf(values), regionsOf([]reflect.Value{reflect.ValueOf(s)}))
	}
}

func list(results ...any) []any { return results }
