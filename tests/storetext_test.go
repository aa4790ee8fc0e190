package tests

import (
	"math/rand"
	"strings"
	"testing"

	"loop.example/g00538/impl"
)

// The tests of StoreText, which tells what commands leave.

func checkStoreText(t *testing.T, what string, s impl.Store) {
	t.Helper()
	got := checkCall(t, what+": StoreText", impl.StoreText, s)[0].([]byte)
	if want := storeText(s); string(got) != want {
		t.Fatalf("%s: StoreText(%v) = %q instead of %q", what, s, got, want)
	}
	if n := strings.Count(string(got), "\n"); n != len(s.Objs)+len(s.Roots)+len(s.Reals) {
		t.Fatalf("%s: StoreText(%v) has %d lines", what, s, n)
	}
}

func TestStoreText(t *testing.T) {
	a, tree, out := textOf("a"), treeOf(sample()), outOf(drvName(0), "lib", dir(""))
	for what, x := range map[string]struct {
		s    impl.Store
		want string
	}{
		"nothing":       {impl.Store{}, ""},
		"a text":        {storeOf(a), "text " + nameOf(a) + "\n"},
		"an empty text": {storeOf(textOf("")), "text " + nameOf(textOf("")) + "\n"},
		"a tree":        {storeOf(tree), "tree " + nameOf(tree) + "\n"},
		"a file":        {storeOf(treeOf(file("a"))), "tree " + nameOf(treeOf(file("a"))) + "\n"},
		"an output":     {storeOf(out), "output " + nameOf(out) + "\n"},
		"a root":        {rooted(storeOf(a), a), "text " + nameOf(a) + "\nroot " + nameOf(a) + "\n"},
		"what is made":  {made(storeOf(out), out), "output " + nameOf(out) + "\nmade " + drvName(0) + " lib " + nameOf(out) + "\n"},
		"all of it":     {made(rooted(storeOf(out), out), out), "output " + nameOf(out) + "\nroot " + nameOf(out) + "\nmade " + drvName(0) + " lib " + nameOf(out) + "\n"},
	} {
		if got := string(impl.StoreText(x.s)); got != x.want {
			t.Errorf("%s: StoreText = %q instead of %q", what, got, x.want)
		}
		checkStoreText(t, what, x.s)
	}
}

// First all objects, then all roots, and then all realisations, each in their order.
func TestStoreTextInOrder(t *testing.T) {
	c, outs := chain(6), outputs(4)
	s := made(rooted(storeOf(append(outs, c...)...), c[0], c[4], outs[3], outs[0]), c[2], outs[1], outs[2], outs[3])
	var objs, roots, reals string
	for _, o := range s.Objs {
		objs += map[int]string{impl.ObText: "text ", impl.ObTree: "tree ", impl.ObOut: "output "}[o.Kind] + nameOf(o) + "\n"
	}
	for _, name := range s.Roots {
		roots += "root " + string(name) + "\n"
	}
	for _, r := range s.Reals {
		reals += "made " + string(r.Drv) + " " + string(r.Out) + " " + string(r.Path) + "\n"
	}
	if got := string(impl.StoreText(s)); got != objs+roots+reals {
		t.Errorf("StoreText = %q", got)
	}
	if len(s.Roots) != 4 || len(s.Reals) != 4 || strings.Count(objs, "text") != 2 || strings.Count(objs, "tree") != 2 || strings.Count(objs, "output") != 6 {
		t.Errorf("too few of one sort: %v", s)
	}
	s.Roots = nil
	if got := string(impl.StoreText(s)); got != objs+reals {
		t.Errorf("without roots: StoreText = %q", got)
	}
	s.Reals = nil
	if got := string(impl.StoreText(s)); got != objs {
		t.Errorf("only objects: StoreText = %q", got)
	}
	s = rooted(s, c[5])
	if got := string(impl.StoreText(s)); got != objs+"root "+nameOf(c[5])+"\n" {
		t.Errorf("without realisations: StoreText = %q", got)
	}
}

func TestStoreTextOfEveryStore(t *testing.T) {
	for what, s := range validStores() {
		checkStoreText(t, what, s)
	}
	random := rand.New(rand.NewSource(107))
	for range 200 {
		checkStoreText(t, "at random", randomStore(random))
	}
}

func TestStoreTextOfInvalidStores(t *testing.T) {
	for what, s := range brokenStores() {
		if got := impl.StoreText(s); len(got) != 0 {
			t.Errorf("%s: StoreText = %q", what, got)
		}
	}
}

// What is behind the length of a list is not told.
func TestStoreTextStaysWithinLength(t *testing.T) {
	outs := outputs(6)
	s := made(rooted(storeOf(outs...), outs...), outs...)
	s.Objs, s.Roots, s.Reals = s.Objs[:3], nil, nil
	if got := string(impl.StoreText(s)); got != storeText(s) || strings.Count(got, "\n") != 3 {
		t.Errorf("StoreText of %d objects = %q", len(s.Objs), got)
	}
	s.Roots = namesOf(s.Objs...)[:1]
	if got := string(impl.StoreText(s)); strings.Count(got, "root") != 1 {
		t.Errorf("StoreText of one root = %q", got)
	}
}

// The lines before and after each command of a script.
func TestStoreTextOfScripts(t *testing.T) {
	random := rand.New(rand.NewSource(108))
	for i := range 20 {
		j := journalOf(randomBuild(random).store)
		l, want := randomScript(random, j, 10)
		for k, c := range l {
			j, _ = impl.Do(j, c)
			head, _ := impl.Head(j)
			if got := string(impl.StoreText(head)); got != storeText(want[k].head) {
				t.Errorf("script %d, command %d: StoreText = %q", i, k, got)
			}
		}
	}
}
