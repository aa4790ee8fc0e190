package tests

import (
	"math/rand"
	"slices"
	"testing"

	"loop.example/g00538/impl"
)

// The tests of promise 5: Gc leaves exactly what roots refer to, unchanged; a
// second collection removes nothing; roots are added and removed, and nothing
// else changes.

// collected returns what the document says of Gc for a valid store.
func collected(s impl.Store) (impl.Store, []impl.Obj) {
	var roots []string
	for _, name := range s.Roots {
		roots = append(roots, string(name))
	}
	kept := closureOf(s, roots...)
	left := impl.Store{Roots: s.Roots}
	var gone []impl.Obj
	for _, o := range s.Objs {
		if slices.Contains(kept, nameOf(o)) {
			left.Objs = append(left.Objs, o)
		} else {
			gone = append(gone, o)
		}
	}
	for _, r := range s.Reals {
		if slices.Contains(kept, string(r.Path)) {
			left.Reals = append(left.Reals, r)
		}
	}
	return left, gone
}

// checkGc returns the number of removed objects.
func checkGc(t *testing.T, what string, s impl.Store) int {
	t.Helper()
	want, wantGone := collected(s)
	got, gone := impl.Gc(s)
	if !sameStore(got, want) || !sameTexts(gone, namesOf(wantGone...)) {
		t.Fatalf("%s: Gc(%v) = %v, %q", what, s, got, gone)
	}
	if !impl.StoreOk(got) {
		t.Fatalf("%s: Gc(%v) = %v, which is not valid", what, s, got)
	}
	if again, more := impl.Gc(got); !sameStore(again, got) || len(more) != 0 {
		t.Fatalf("%s: Gc(%v) again = %v, %q", what, got, again, more)
	}
	return len(gone)
}

// checkLeft fails if Gc of s does not leave exactly these objects and realisations of these outputs.
func checkLeft(t *testing.T, what string, s impl.Store, left []impl.Obj, outs ...impl.Obj) {
	t.Helper()
	checkGc(t, what, s)
	want := made(storeOf(left...), outs...)
	want.Roots = s.Roots
	if got, gone := impl.Gc(s); !sameStore(got, want) || len(gone) != len(s.Objs)-len(left) {
		t.Errorf("%s: Gc = %v, %q", what, got, gone)
	}
}

func TestGc(t *testing.T) {
	c, d, n, outs := chain(9), diamond(), numbered(3), outputs(4)
	all := slices.Concat(c, d, n, outs)
	s := made(storeOf(all...), append(outs, d[3], c[2], c[5], c[8])...)
	for _, x := range []struct {
		what  string
		roots []impl.Obj
		left  []impl.Obj
		outs  []impl.Obj
	}{
		{"no root", nil, nil, nil},
		{"every object", all, all, append(outs, d[3], c[2], c[5], c[8])},
		{"a root that refers to nothing", n[:1], n[:1], nil},
		{"the start of a chain", c[:1], c[:1], nil},
		{"the middle of a chain", c[4:5], c[:5], c[2:3]},
		{"an output of a chain", c[5:6], c[:6], []impl.Obj{c[2], c[5]}},
		{"the end of a chain", c[8:], c, []impl.Obj{c[2], c[5], c[8]}},
		{"the top of a diamond", d[3:], d, d[3:]},
		{"one side of a diamond", d[1:2], d[:2], nil},
		{"both sides of a diamond", d[1:3], d[:3], nil},
		{"an output", outs[1:2], outs[1:2], outs[1:2]},
		{"roots of which one refers to the other", []impl.Obj{c[1], c[3]}, c[:4], c[2:3]},
		{"all but outputs", slices.Concat(n, c[1:2], d[2:3]), slices.Concat(n, c[:2], d[:1], d[2:3]), nil},
	} {
		checkLeft(t, x.what, rooted(s, x.roots...), x.left, x.outs...)
		none := rooted(s, x.roots...)
		none.Reals = nil
		checkLeft(t, x.what+", nothing is made", none, x.left)
	}
}

// What is mentioned, but not referred to, does not remain; neither do users, nor the other outputs of a derivation.
func TestGcFollowsOnlyReferences(t *testing.T) {
	a := textOf("a")
	mention := textOf("see " + nameOf(a))
	user := treeOf(link(nameOf(mention)), nameOf(mention))
	dev, out := outOf(nameOf(a), "dev", file("")), outOf(nameOf(a), "out", file(""))
	s := made(storeOf(a, mention, user, dev, out), dev, out)
	checkLeft(t, "a mention", rooted(s, mention), []impl.Obj{mention})
	checkLeft(t, "one of two outputs", rooted(s, out), []impl.Obj{out}, out)
	checkLeft(t, "a user", rooted(s, user), []impl.Obj{mention, user})
}

func TestGcOfEveryStore(t *testing.T) {
	for what, s := range validStores() {
		checkGc(t, what, s)
		for i, o := range s.Objs {
			checkGc(t, what+", one root", rooted(s, o))
			checkGc(t, what+", roots to there", rooted(s, s.Objs[:i+1]...))
		}
	}
}

func TestGcOfRandomStores(t *testing.T) {
	random := rand.New(rand.NewSource(45))
	gone, left := 0, 0
	for range 500 {
		s := randomStore(random)
		n := checkGc(t, "at random", s)
		gone, left = gone+n, left+len(s.Objs)-n
	}
	if gone < 1000 || left < 1000 {
		t.Fatal("too few of one sort:", gone, left)
	}
}

// checkRoots adds and drops every name, and fails if anything but the roots changes.
func checkRoots(t *testing.T, what string, s impl.Store) {
	t.Helper()
	for _, o := range s.Objs {
		var without []impl.Obj
		for _, other := range s.Objs {
			if hasText(s.Roots, nameOf(other)) && nameOf(other) != nameOf(o) {
				without = append(without, other)
			}
		}
		more := rooted(s, append(without, o)...)
		got, code := impl.AddRoot(s, o.Name)
		if code != impl.StWell || !sameStore(got, more) || !impl.IsRoot(got, o.Name) {
			t.Fatalf("%s: AddRoot(%v, %q) = %v, %d", what, s, o.Name, got, code)
		}
		if again, code := impl.AddRoot(got, o.Name); code != impl.StWell || !sameStore(again, more) {
			t.Fatalf("%s: AddRoot(%q) again = %v, %d", what, o.Name, again, code)
		}
		fewer := rooted(s, without...)
		if got, code := impl.DropRoot(more, o.Name); code != impl.StWell || !sameStore(got, fewer) || impl.IsRoot(got, o.Name) {
			t.Fatalf("%s: DropRoot(%v, %q) = %v, %d", what, more, o.Name, got, code)
		}
		if got, code := impl.DropRoot(fewer, o.Name); code != impl.StNone || !sameStore(got, fewer) {
			t.Fatalf("%s: DropRoot(%q) of an object that is no root = %v, %d", what, o.Name, got, code)
		}
	}
	for _, name := range append(texts(noNames...), nil, []byte(absent())) {
		if got, code := impl.AddRoot(s, name); code != impl.StNone || !sameStore(got, s) {
			t.Fatalf("%s: AddRoot(%q) = %v, %d", what, name, got, code)
		}
		if got, code := impl.DropRoot(s, name); code != impl.StNone || !sameStore(got, s) {
			t.Fatalf("%s: DropRoot(%q) = %v, %d", what, name, got, code)
		}
	}
}

func TestRootsOfEveryStore(t *testing.T) {
	for what, s := range validStores() {
		checkRoots(t, what, s)
	}
}

func TestRootsOfRandomStores(t *testing.T) {
	random := rand.New(rand.NewSource(46))
	for range 60 {
		checkRoots(t, "at random", randomStore(random))
	}
}

// The derivation of an output and what is only mentioned are no objects.
func TestRootsThatAreNoObjects(t *testing.T) {
	outs := outputs(2)
	s := made(storeOf(append(outs, textOf("see "+absent()))...), outs...)
	for _, name := range [][]byte{outs[0].From, outs[0].Out, []byte(absent())} {
		if got, code := impl.AddRoot(s, name); code != impl.StNone || !sameStore(got, s) {
			t.Errorf("AddRoot(%q) = %v, %d", name, got, code)
		}
	}
}
