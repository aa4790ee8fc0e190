package tests

import (
	"bytes"
	"math/rand"
	"slices"
	"testing"

	"loop.example/g00538/impl"
)

// The tests of StoreCmp, by which promises 4 and 5 say that nothing else changes.

func checkCmp(t *testing.T, what string, a, b impl.Store) int {
	t.Helper()
	want := bytes.Compare(encodeStore(a), encodeStore(b))
	if got := impl.StoreCmp(a, b); got != want {
		t.Errorf("%s: StoreCmp = %d instead of %d", what, got, want)
	}
	if got := impl.StoreCmp(b, a); got != -want {
		t.Errorf("%s: StoreCmp in the other order = %d instead of %d", what, got, -want)
	}
	return want
}

func checkDiffer(t *testing.T, what string, a, b impl.Store) {
	t.Helper()
	if checkCmp(t, what, a, b) == 0 {
		t.Errorf("%s: the stores are equal", what)
	}
}

func TestStoreCmpOfEqualStores(t *testing.T) {
	others := validStores()
	for what, s := range validStores() {
		if got := impl.StoreCmp(s, s); got != 0 {
			t.Errorf("%s: StoreCmp with itself = %d", what, got)
		}
		if checkCmp(t, what, s, others[what]) != 0 {
			t.Errorf("%s: StoreCmp with a copy is not 0", what)
		}
	}
	if got := impl.StoreCmp(impl.Store{}, impl.Store{Objs: []impl.Obj{}, Roots: [][]byte{}, Reals: []impl.Real{}}); got != 0 {
		t.Errorf("StoreCmp of empty stores = %d", got)
	}
}

func TestStoreCmpOfAllStores(t *testing.T) {
	seen := map[int]int{}
	for what, a := range validStores() {
		for how, b := range validStores() {
			seen[checkCmp(t, what+" with "+how, a, b)]++
		}
	}
	if seen[-1] < 100 || seen[1] < 100 {
		t.Fatal("too few of one sort:", seen)
	}
}

// Stores that differ in one thing only.
func TestStoreCmpOfOneDifference(t *testing.T) {
	a, b := textOf("a"), textOf("b")
	outs := outputs(4)
	for n := range 24 {
		checkDiffer(t, "the number of objects", storeOf(numbered(n)...), storeOf(numbered(n+1)...))
	}
	data := nameOf(a) + nameOf(b)
	with := func(refs ...string) impl.Store { return storeOf(a, b, treeOf(program(data), refs...)) }
	checkDiffer(t, "one reference and none", with(), with(nameOf(a)))
	checkDiffer(t, "two references and one", with(nameOf(a)), with(nameOf(a), nameOf(b)))
	checkDiffer(t, "another reference", with(nameOf(a)), with(nameOf(b)))

	s := made(rooted(storeOf(append(outs, a, b)...), a), outs[:3]...)
	checkDiffer(t, "another root", s, rooted(s, b))
	checkDiffer(t, "no root", s, rooted(s))
	checkDiffer(t, "one more root", s, rooted(s, a, outs[0]))
	checkDiffer(t, "one realisation more", s, made(s, outs...))
	checkDiffer(t, "one realisation less", s, made(s, outs[:2]...))
	checkDiffer(t, "no realisation", s, made(s))
	checkDiffer(t, "another realisation", s, made(s, outs[0], outs[1], outs[3]))

	tree := func(t impl.Tree) impl.Store { return storeOf(a, outOf(drvName(0), "out", t)) }
	checkDiffer(t, "the Data of an output", tree(file("x")), tree(file("y")))
	checkDiffer(t, "the length of the Data of an output", tree(file("x")), tree(file("xx")))
	checkDiffer(t, "the Kind of an output's tree", tree(file("x")), tree(program("x")))
	checkDiffer(t, "the names of an output's tree", tree(dir("a", file("x"))), tree(dir("b", file("x"))))
	checkDiffer(t, "a text and a tree", storeOf(textOf("a")), storeOf(treeOf(file("a"))))
}

// The first difference decides: the number of objects, then these, then the number of roots, these, and realisations.
func TestStoreCmpOrder(t *testing.T) {
	l, outs := storeOf(numbered(3)...).Objs, storeOf(outputs(2)...).Objs
	some := storeOf(outs...)
	name := nameOf(l[0])
	for what, c := range map[string]struct{ less, more impl.Store }{
		"nothing and an object":           {impl.Store{}, storeOf(l[0])},
		"fewer objects, greater names":    {storeOf(l[2]), storeOf(l[0], l[1])},
		"fewer objects, more roots":       {rooted(storeOf(l[0], l[1]), l[0], l[1]), storeOf(l...)},
		"lesser names":                    {storeOf(l[0], l[1]), storeOf(l[0], l[2])},
		"lesser names, more roots":        {rooted(storeOf(l[0], l[1]), l[0], l[1]), storeOf(l[0], l[2])},
		"fewer roots, greater names":      {rooted(storeOf(l...), l[2]), rooted(storeOf(l...), l[0], l[1])},
		"fewer roots, more realisations":  {made(some, outs...), rooted(some, outs[0])},
		"lesser roots":                    {rooted(storeOf(l...), l[0], l[1]), rooted(storeOf(l...), l[0], l[2])},
		"lesser roots, more realisations": {made(rooted(some, outs[0]), outs...), rooted(some, outs[1])},
		"no realisation":                  {some, made(some, outs[0])},
		"one of two realisations, by dev": {made(some, outputs(2)[0]), made(some, outputs(2)...)},
		"realisations of dev and of out":  {made(some, outputs(2)[0]), made(some, outputs(2)[1])},
		"a lesser tree, more references":  {storeOf(l[0], outOf(zeros, "out", file("a"+name), name)), storeOf(l[0], outOf(zeros, "out", file("b"+name)))},
		"a shorter tree, a greater one":   {storeOf(outOf(zeros, "out", file("b"))), storeOf(outOf(zeros, "out", file("aa")))},
	} {
		if checkCmp(t, what, c.less, c.more) != -1 {
			t.Errorf("%s: the reference has another order", what)
		}
	}
}

func TestStoreCmpOfInvalidStores(t *testing.T) {
	stores := []impl.Store{{}, storeOf(numbered(24)...), fullStore()}
	for what, broken := range brokenStores() {
		for _, s := range append(stores, broken) {
			if got := impl.StoreCmp(s, broken); got != 0 {
				t.Errorf("%s: StoreCmp = %d", what, got)
			}
			if got := impl.StoreCmp(broken, s); got != 0 {
				t.Errorf("%s: StoreCmp in the other order = %d", what, got)
			}
		}
	}
}

func TestStoreCmpOfRandomStores(t *testing.T) {
	random := rand.New(rand.NewSource(47))
	seen := map[int]int{}
	for range 600 {
		a := randomStore(random)
		b := impl.Store{Objs: slices.Clone(a.Objs), Roots: slices.Clone(a.Roots), Reals: slices.Clone(a.Reals)}
		changeStore(random, &b)
		if validStore(b) {
			seen[checkCmp(t, "at random", a, b)]++
		} else if got := impl.StoreCmp(a, b); got != 0 {
			t.Fatalf("StoreCmp(%v, %v) = %d", a, b, got)
		}
	}
	if seen[0] < 20 || seen[-1] < 50 || seen[1] < 50 {
		t.Fatal("too few of one sort:", seen)
	}
}
