package tests

import (
	"math"
	"math/rand"
	"slices"
	"testing"

	"loop.example/g00538/impl"
)

// The tests of promise 4, as far as it speaks of finding: the references of the
// objects of a closure are in it; the users of a name refer to it.

// checkTold compares all that is told of a valid store with the reference.
func checkTold(t *testing.T, what string, s impl.Store) {
	t.Helper()
	counts := map[int]int{}
	for i, o := range s.Objs {
		checkToldOf(t, what, s, o)
		counts[o.Kind]++
		if got := impl.ObjNames(s); len(got) != len(s.Objs) || string(got[i]) != nameOf(o) {
			t.Fatalf("%s: ObjNames = %q", what, got)
		}
	}
	for _, kind := range []int{0, 1, 2, -1, 3, 256, math.MinInt, math.MaxInt} {
		if got := impl.CountObjs(s, kind); got != counts[kind] {
			t.Fatalf("%s: CountObjs(%d) = %d", what, kind, got)
		}
	}
	for _, r := range s.Reals {
		if got, ok := impl.RealOf(s, r.Drv, r.Out); !ok || string(got) != string(r.Path) {
			t.Fatalf("%s: RealOf(%q, %q) = %q, %t", what, r.Drv, r.Out, got, ok)
		}
	}
	for _, name := range append(texts(noNames...), []byte(absent()), nil) {
		checkNothingFound(t, what, s, name)
		if impl.IsRoot(s, name) {
			t.Fatalf("%s: IsRoot(%q)", what, name)
		}
	}
}

func checkToldOf(t *testing.T, what string, s impl.Store, o impl.Obj) {
	t.Helper()
	if got, ok := impl.Find(s, o.Name); !ok || !sameObj(got, o) {
		t.Fatalf("%s: Find(%q) = %v, %t", what, o.Name, got, ok)
	}
	if got := impl.RefsOf(s, o.Name); !sameTexts(got, o.Refs) {
		t.Fatalf("%s: RefsOf(%q) = %q", what, o.Name, got)
	}
	closure := impl.Closure(s, o.Name)
	if !sameTexts(closure, texts(closureOf(s, nameOf(o))...)) {
		t.Fatalf("%s: Closure(%q) = %q", what, o.Name, closure)
	}
	var users []impl.Obj
	for _, other := range s.Objs {
		if hasText(other.Refs, nameOf(o)) {
			users = append(users, other)
		}
		for _, ref := range other.Refs {
			if hasText(closure, nameOf(other)) && !hasText(closure, string(ref)) {
				t.Fatalf("%s: Closure(%q) lacks %q", what, o.Name, ref)
			}
		}
	}
	if got := impl.UsersOf(s, o.Name); !sameTexts(got, namesOf(users...)) {
		t.Fatalf("%s: UsersOf(%q) = %q", what, o.Name, got)
	}
	if impl.IsRoot(s, o.Name) != hasText(s.Roots, nameOf(o)) {
		t.Fatalf("%s: IsRoot(%q) is wrong", what, o.Name)
	}
}

func hasText(l [][]byte, s string) bool {
	return slices.ContainsFunc(l, func(b []byte) bool { return string(b) == s })
}

func TestToldOfEveryStore(t *testing.T) {
	for what, s := range validStores() {
		checkTold(t, what, s)
	}
}

func TestToldOfRandomStores(t *testing.T) {
	random := rand.New(rand.NewSource(44))
	levels := 0
	for range 300 {
		s := randomStore(random)
		checkTold(t, "at random", s)
		for _, o := range s.Objs {
			if len(closureOf(s, nameOf(o))) > len(o.Refs)+1 {
				levels++
			}
		}
	}
	if levels < 300 {
		t.Fatal("too few closures over several levels:", levels)
	}
}

func TestClosure(t *testing.T) {
	c := chain(9)
	s := rooted(storeOf(append(numbered(3), c...)...), c[8])
	for i, o := range c {
		if got := impl.Closure(s, o.Name); !sameTexts(got, namesOf(c[:i+1]...)) {
			t.Errorf("Closure of %d objects = %q", i+1, got)
		}
	}
	d := diamond()
	s = storeOf(append(numbered(3), d...)...)
	for i, want := range [][][]byte{namesOf(d[0]), namesOf(d[:2]...), namesOf(d[0], d[2]), namesOf(d...)} {
		if got := impl.Closure(s, d[i].Name); !sameTexts(got, want) {
			t.Errorf("Closure of object %d of a diamond = %q", i, got)
		}
	}
	// What is mentioned is not in the closure unless it is referred to.
	a := textOf("a")
	b := treeOf(link(nameOf(a)))
	if got := impl.Closure(storeOf(a, b), b.Name); !sameTexts(got, namesOf(b)) {
		t.Errorf("Closure of a mention = %q", got)
	}
}

func TestUsersOf(t *testing.T) {
	d := diamond()
	s := storeOf(append(numbered(3), d...)...)
	for i, want := range [][][]byte{namesOf(d[1], d[2]), namesOf(d[3]), namesOf(d[3]), nil} {
		if got := impl.UsersOf(s, d[i].Name); !sameTexts(got, want) {
			t.Errorf("UsersOf object %d of a diamond = %q", i, got)
		}
	}
	// The users of what is absent: a mention is no reference.
	s = storeOf(textOf("a"), textOf("see "+absent()), treeOf(program(absent())))
	if got := impl.UsersOf(s, []byte(absent())); len(got) != 0 {
		t.Errorf("UsersOf = %q", got)
	}
}

func TestRealOf(t *testing.T) {
	outs := outputs(6)
	s := made(storeOf(outs...), outs[0], outs[1], outs[2], outs[5])
	for i, o := range outs {
		want := []string{nameOf(outs[0]), nameOf(outs[1]), nameOf(outs[2]), "", "", nameOf(outs[5])}[i]
		if got, ok := impl.RealOf(s, o.From, o.Out); ok != (want != "") || string(got) != want {
			t.Errorf("RealOf output %d = %q, %t", i, got, ok)
		}
	}
	drv := string(outs[0].From)
	for _, x := range [][2]string{{"", ""}, {drv, ""}, {"", "out"}, {drv, "ou"}, {drv, "outs"}, {drv, "a"}, {drv, "zz"}, {drv[:15], "out"}, {drv + "0", "out"}, {absent(), "out"}, {zeros, "dev"}, {"zzzzzzzzzzzzzzzz", "out"}, {nameOf(outs[0]), "dev"}} {
		if got, ok := impl.RealOf(s, []byte(x[0]), []byte(x[1])); ok || len(got) != 0 {
			t.Errorf("RealOf(%q, %q) = %q, %t", x[0], x[1], got, ok)
		}
	}
}
