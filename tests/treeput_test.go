package tests

import (
	"bytes"
	"math/rand"
	"strings"
	"testing"

	"loop.example/g00538/impl"
)

// path makes a path of names that are separated by slashes.
func path(s string) [][]byte { return words(strings.ReplaceAll(s, "/", " ")) }

func checkAt(t *testing.T, tree impl.Tree, p [][]byte, want impl.Tree) {
	t.Helper()
	if got, ok := impl.TreeAt(tree, p); !ok || !same(got, want) {
		t.Errorf("TreeAt(%q) = %v, %t", p, got, ok)
	}
}

func checkNotAt(t *testing.T, tree impl.Tree, p [][]byte) {
	t.Helper()
	if got, ok := impl.TreeAt(tree, p); ok || !zero(got) {
		t.Errorf("TreeAt(%q) = %v, %t", p, got, ok)
	}
}

func TestTreeAt(t *testing.T) {
	tree := sample()
	for p, want := range map[string]impl.Tree{
		"": tree, "a": tree.Kids[0], "a/bin": program("#!sh"), "a/c": dir("deep", file("yz")), "a/c/deep": file("yz"),
		"b-1": file("x"), "lib.so": link("/a/c"), "z": dir(""),
	} {
		checkAt(t, tree, path(p), want)
	}
	for _, p := range []string{
		"b", "c", "bin", "deep", "aa", "lib", "lib.so.1", "zz", "0", "-", "a/b", "a/deep", "a/c/dee", "a/c/deep/x", "a/c/deep/deep", "a/a", "a/bin/x", "b-1/x", "b-1/b-1", "lib.so/a", "lib.so/deep", "z/a", "z/z", "a/c/deep/a/b/c/d/e/f",
	} {
		checkNotAt(t, tree, path(p))
	}
	for _, p := range [][][]byte{{nil}, {[]byte("")}, {[]byte("a/c")}, {[]byte("/a")}, {[]byte(".")}, {[]byte("A")}, {[]byte("a"), nil}, {nil, []byte("a")}, {[]byte("..")}, {[]byte("a"), []byte("..")}} {
		checkNotAt(t, tree, p)
	}
}

func TestTreeAtOfEveryKind(t *testing.T) {
	for what, tree := range validTrees() {
		if got, ok := impl.TreeAt(tree, nil); !ok || !same(got, tree) {
			t.Errorf("%s: TreeAt of the empty path = %v, %t", what, got, ok)
		}
		if got, ok := impl.TreeAt(tree, [][]byte{}); !ok || !same(got, tree) {
			t.Errorf("%s: TreeAt of an empty path = %v, %t", what, got, ok)
		}
		for i, name := range tree.Names {
			checkAt(t, tree, [][]byte{name}, tree.Kids[i])
		}
		checkNotAt(t, tree, path("no"))
		checkNotAt(t, tree, make([][]byte, 1000))
	}
	for _, tree := range []impl.Tree{file("a"), program("a"), link("a")} {
		checkNotAt(t, tree, path("a"))
	}
}

func TestTreeAtOfInvalidTrees(t *testing.T) {
	for what, tree := range brokenTrees() {
		for _, p := range []string{"", "a", "k0", "b"} {
			if got, ok := impl.TreeAt(tree, path(p)); ok || !zero(got) {
				t.Errorf("%s: TreeAt(%q) = %v, %t", what, p, got, ok)
			}
		}
	}
}

func TestTreePut(t *testing.T) {
	for _, c := range []struct {
		tree impl.Tree
		name string
		kid  impl.Tree
		want impl.Tree
	}{
		{dir(""), "a", file("x"), dir("a", file("x"))},
		{dir(""), "long.est", dir(""), dir("long.est", dir(""))},
		{dir("b d", file("1"), file("2")), "a", file("x"), dir("a b d", file("x"), file("1"), file("2"))},
		{dir("b d", file("1"), file("2")), "c", link("x"), dir("b c d", file("1"), link("x"), file("2"))},
		{dir("b d", file("1"), file("2")), "e", program("x"), dir("b d e", file("1"), file("2"), program("x"))},
		{dir("b d", file("1"), file("2")), "b", dir(""), dir("b d", dir(""), file("2"))},
		{dir("b d", file("1"), file("2")), "d", file("x"), dir("b d", file("1"), file("x"))},
		{dir("b d", file("1"), dir("x", file("2"))), "d", file(""), dir("b d", file("1"), file(""))},
		{dir("aa b", file("1"), file("2")), "a", file("x"), dir("a aa b", file("x"), file("1"), file("2"))},
		{dir("aa b", file("1"), file("2")), "aaa", file("x"), dir("aa aaa b", file("1"), file("x"), file("2"))},
		{dir("a.b", file("1")), "a-b", file("x"), dir("a-b a.b", file("x"), file("1"))},
		{dir("a", file("1")), "-", file("x"), dir("- a", file("x"), file("1"))},
		{dir("a", file("1")), "9", file("x"), dir("9 a", file("x"), file("1"))},
	} {
		if got, ok := impl.TreePut(c.tree, []byte(c.name), c.kid); !ok || !same(got, c.want) {
			t.Errorf("TreePut(%v, %q, %v) = %v, %t", c.tree, c.name, c.kid, got, ok)
		}
	}
}

// A result may equal each limit; where it would exceed one, TreePut returns t and false.
func TestTreePutAtLimits(t *testing.T) {
	full := wide(6, file("x"))
	for _, c := range []struct {
		what string
		tree impl.Tree
		name string
		kid  impl.Tree
		ok   bool
	}{
		{"a sixth kid", wide(5, file("x")), "z", file(""), true},
		{"a seventh kid", full, "z", file(""), false},
		{"a seventh kid in front", full, "a", file(""), false},
		{"a seventh kid in the middle", full, "k3a", file(""), false},
		{"a replaced kid of six", full, "k3", dir(""), true},
		{"depth 4", dir(""), "a", deep(3, file("")), true},
		{"depth 5", dir(""), "a", deep(4, file("")), false},
		{"depth 5 of directories", dir("b", file("")), "b", deep(4, dir("")), false},
		{"40 nodes", dir("a", crowd(38)), "b", file(""), true},
		{"41 nodes", dir("a", crowd(39)), "b", file(""), false},
		{"40 nodes and one replaced", dir("a b", crowd(38), file("")), "b", dir(""), true},
		{"41 nodes, one replaced", dir("a b", crowd(38), file("")), "b", dir("c", file("")), false},
		{"40 nodes in the kid", dir(""), "a", crowd(39), true},
		{"41 nodes by the kid", dir(""), "a", crowd(40), false},
		{"40 nodes replaced by 2", dir("a", crowd(39)), "a", file(""), true},
		{"80 nodes", crowd(40), "k0", crowd(40), false},
	} {
		got, ok := impl.TreePut(c.tree, []byte(c.name), c.kid)
		if ok != c.ok || !ok && !same(got, c.tree) {
			t.Errorf("%s: TreePut = %v, %t", c.what, got, ok)
		}
		if kid, _ := impl.TreeAt(got, path(c.name)); ok && !same(kid, c.kid) {
			t.Errorf("%s: the kid is %v", c.what, kid)
		}
	}
}

func TestTreePutOfInvalidArguments(t *testing.T) {
	check := func(what string, tree impl.Tree, name []byte, kid impl.Tree) {
		t.Helper()
		if got, ok := impl.TreePut(tree, name, kid); ok || !zero(got) {
			t.Errorf("%s: TreePut = %v, %t", what, got, ok)
		}
	}
	full := wide(6, file("x"))
	for what, broken := range brokenTrees() {
		check(what, broken, []byte("a"), file(""))
		check(what, broken, []byte("k0"), file(""))
		check(what, broken, nil, broken)
		check(what+" as a kid", dir(""), []byte("a"), broken)
		check(what+" as a kid that replaces", dir("a", file("")), []byte("a"), broken)
		check(what+" as a seventh kid", full, []byte("a"), broken)
	}
	for _, s := range noEntries {
		check("name "+s, dir("a", file("x")), []byte(s), file(""))
		check("name "+s+" as a seventh", full, []byte(s), file(""))
	}
	check("no name", dir(""), nil, file(""))
	for _, tree := range []impl.Tree{{}, file("a"), program("a"), link("a")} {
		check("not a directory", tree, []byte("a"), file(""))
		check("neither a directory nor a name", tree, nil, file(""))
	}
}

// What is put into a directory is found there, and everything else remains.
func TestPutKidsAreFound(t *testing.T) {
	random := rand.New(rand.NewSource(9))
	puts, refused := 0, 0
	for range 3000 {
		tree, kid := randomTree(random, 4), randomTree(random, 3)
		if tree.Kind != impl.KdDir || !valid(tree) || !valid(kid) {
			continue
		}
		for _, s := range []string{"-", "a", "a.b", "b", "c", "z9", "zz"} {
			got, ok := impl.TreePut(tree, []byte(s), kid)
			if !ok {
				refused++
				checkRefused(t, tree, s, kid, got)
				continue
			}
			puts++
			checkPut(t, tree, s, kid, got)
		}
	}
	if puts < 100 || refused < 100 {
		t.Fatal("too few of one sort:", puts, refused)
	}
}

func checkPut(t *testing.T, tree impl.Tree, name string, kid, got impl.Tree) {
	t.Helper()
	if !valid(got) || !impl.TreeOk(got) {
		t.Fatalf("TreePut(%v, %q, %v) = %v, which is not valid", tree, name, kid, got)
	}
	checkAt(t, got, path(name), kid)
	more := 1
	for i, other := range tree.Names {
		if string(other) == name {
			more = 0
		} else {
			checkAt(t, got, [][]byte{other}, tree.Kids[i])
		}
	}
	if len(got.Names) != len(tree.Names)+more || len(got.Kids) != len(got.Names) {
		t.Fatalf("TreePut(%v, %q, %v) = %v", tree, name, kid, got)
	}
}

// checkRefused fails if kid could have been put into tree, or got is not tree.
func checkRefused(t *testing.T, tree impl.Tree, name string, kid, got impl.Tree) {
	t.Helper()
	nodes, kids := nodesOf(tree)+nodesOf(kid), len(tree.Kids)+1
	for i, other := range tree.Names {
		if string(other) == name {
			nodes, kids = nodes-nodesOf(tree.Kids[i]), kids-1
		}
	}
	if nodes <= 40 && kids <= 6 && depthOf(kid) <= 3 || !same(got, tree) {
		t.Fatalf("TreePut(%v, %q, %v) = %v, false", tree, name, kid, got)
	}
}

func TestTreeMemoryOfPaths(t *testing.T) {
	for what, tree := range validTrees() {
		checkCall(t, what+": TreeAt of nothing", impl.TreeAt, tree, [][]byte(nil))
		checkCall(t, what+": TreeAt", impl.TreeAt, tree, path("a/c"))
		checkCall(t, what+": TreeAt", impl.TreeAt, tree, path("k0"))
		for _, name := range []string{"", "a", "b", "k0", "zz", ".x"} {
			checkCall(t, what+": TreePut", impl.TreePut, tree, []byte(name), sample())
			checkCall(t, what+": TreePut into it", impl.TreePut, sample(), []byte(name), tree)
		}
	}
	checkCall(t, "TreePut of no tree", impl.TreePut, dir("a b", file("x")), []byte("a"), file(""))
	checkCall(t, "TreeAt of no tree", impl.TreeAt, dir("a b", file("x")), path("a"))
}

// The arguments may share memory with each other.
func TestTreePutOfItsOwnParts(t *testing.T) {
	tree := sample()
	before, _ := impl.TreeBytes(tree)
	got, ok := impl.TreePut(tree, tree.Names[1], tree.Kids[0].Kids[1])
	if !ok || !same(got.Kids[1], tree.Kids[0].Kids[1]) {
		t.Fatalf("TreePut = %v, %t", got, ok)
	}
	flip(got.Names[1])
	flip(got.Kids[1].Names[0])
	flip(got.Kids[1].Kids[0].Data)
	if after, _ := impl.TreeBytes(tree); !bytes.Equal(before, after) {
		t.Error("the tree changes with the result")
	}
}
