package tests

import (
	"bytes"
	"math"
	"math/rand"
	"strings"
	"testing"

	"loop.example/g00538/impl"
)

// The tests of promises 1 and 2, as far as they speak of chapter 2: what is
// valid, and what is told of a tree. Its encoding is in treecode_test.go, paths
// and TreePut in treeput_test.go.

func TestTreeLimits(t *testing.T) {
	limits := []int{impl.MaxKids, impl.MaxNodes, impl.MaxDeep, impl.MaxName, impl.KdFile, impl.KdRun, impl.KdDir, impl.KdLink}
	for i, want := range []int{6, 40, 4, 8, 0, 1, 2, 3} {
		if limits[i] != want {
			t.Errorf("constant %d is %d", i, limits[i])
		}
	}
}

func TestEntryOk(t *testing.T) {
	for _, s := range []string{"a", "z", "0", "9", "-", "-a", "a.", "a..", "a.b", "a-b", "--------", "-.-.-.-.", "aaaaaaaa", "lib.so.1", "0123456", "89"} {
		if !impl.EntryOk(guarded([]byte(s))) {
			t.Errorf("EntryOk(%q) is false", s)
		}
	}
	for _, s := range noEntries {
		if impl.EntryOk(guarded([]byte(s))) {
			t.Errorf("EntryOk(%q) is true", s)
		}
	}
	if impl.EntryOk(nil) {
		t.Error("EntryOk(nil) is true")
	}
	for size := range 40 {
		if ok := impl.EntryOk(bytes.Repeat([]byte("a"), size)); ok != (size >= 1 && size <= 8) {
			t.Errorf("EntryOk of %d characters: %t", size, ok)
		}
	}
}

func TestEntryOkOfEachByte(t *testing.T) {
	for c := range 256 {
		in := c >= 'a' && c <= 'z' || c >= '0' && c <= '9' || c == '-' || c == '.'
		if ok := impl.EntryOk([]byte{byte(c)}); ok != (in && c != '.') {
			t.Errorf("EntryOk of the byte %d: %t", c, ok)
		}
		for i := 1; i < 8; i++ {
			b := []byte("abcdefgh")
			b[i] = byte(c)
			if ok := impl.EntryOk(b); ok != in {
				t.Errorf("EntryOk(%q): %t", b, ok)
			}
		}
	}
}

func TestTreeOk(t *testing.T) {
	for what, tree := range validTrees() {
		if !impl.TreeOk(tree) || !valid(tree) {
			t.Errorf("%s: TreeOk is false", what)
		}
	}
	for what, tree := range brokenTrees() {
		if impl.TreeOk(tree) {
			t.Errorf("%s: TreeOk is true", what)
		}
	}
}

func TestTreeOkOfEachNumber(t *testing.T) {
	for n := range 12 {
		if ok := impl.TreeOk(wide(n, link("x"))); ok != (n <= 6) {
			t.Errorf("TreeOk of %d kids: %t", n, ok)
		}
		if ok := impl.TreeOk(deep(n+1, program("x"))); ok != (n+1 <= 4) {
			t.Errorf("TreeOk of depth %d: %t", n+1, ok)
		}
	}
	for n := 8; n <= 43; n++ {
		if ok := impl.TreeOk(crowd(n)); ok != (n <= 40) {
			t.Errorf("TreeOk of %d nodes: %t", n, ok)
		}
	}
	for _, kind := range []int{impl.KdFile, impl.KdRun, impl.KdLink} {
		for size := 395; size < 405; size++ {
			if ok := impl.TreeOk(dir("a", impl.Tree{Kind: kind, Data: pattern(size)})); ok != (size <= 400) {
				t.Errorf("TreeOk of %d bytes of Data: %t", size, ok)
			}
		}
	}
}

func TestTreeOkOfRandomTrees(t *testing.T) {
	random := rand.New(rand.NewSource(5))
	seen := map[bool]int{}
	for range 3000 {
		tree := randomTree(random, 5)
		want := valid(tree)
		seen[want]++
		if ok := impl.TreeOk(tree); ok != want {
			t.Fatalf("TreeOk(%v) is %t", tree, ok)
		}
	}
	if seen[true] < 100 || seen[false] < 100 {
		t.Fatal("too few trees of one sort:", seen)
	}
}

func TestTreeOkStaysWithinLength(t *testing.T) {
	tree := dir("a b", file("x"), impl.Tree{Kind: 9})
	tree.Names, tree.Kids = tree.Names[:1], tree.Kids[:1]
	if !impl.TreeOk(tree) || impl.TreeSize(tree) != 2 {
		t.Error("kids behind the length count")
	}
	tree.Kids = tree.Kids[:2]
	if impl.TreeOk(tree) {
		t.Error("names behind the length count")
	}
}

func TestTreeData(t *testing.T) {
	for _, c := range []struct {
		tree impl.Tree
		want string
	}{
		{impl.Tree{}, ""}, {file("abc"), "abc"}, {program("#!sh"), "#!sh"}, {link("to"), "to"}, {dir(""), ""},
		{dir("a b", file("x"), link("y")), "xy"},
		{dir("a b c", dir("z", file("1")), dir(""), dir("a b", program("2"), file("3"))), "123"},
		{sample(), "#!shyzx/a/c"},
	} {
		if got := impl.TreeData(c.tree); string(got) != c.want {
			t.Errorf("TreeData(%v) = %q", c.tree, got)
		}
	}
	if got := impl.TreeData(validTrees()["largest"]); !bytes.Equal(got, bytes.Repeat(pattern(400), 33)) {
		t.Errorf("TreeData of the largest tree has %d bytes", len(got))
	}
}

func TestTreeText(t *testing.T) {
	for _, c := range []struct {
		tree impl.Tree
		want string
	}{
		{impl.Tree{}, "file \n"}, {file("abc"), "file \n"}, {program(""), "run \n"}, {link("to"), "link \n"}, {dir(""), "dir \n"},
		{dir("a b", file("x"), link("y")), "dir \nfile /a\nlink /b\n"},
		{deep(4, program("")), "dir \ndir /d\ndir /d/d\nrun /d/d/d\n"},
		{
			sample(),
			"dir \ndir /a\nrun /a/bin\ndir /a/c\nfile /a/c/deep\nfile /b-1\nlink /lib.so\ndir /z\n",
		},
		{
			dir("a b", dir("c", dir("d", file("1"))), dir("e", dir(""))),
			"dir \ndir /a\ndir /a/c\nfile /a/c/d\ndir /b\ndir /b/e\n",
		},
	} {
		if got := impl.TreeText(c.tree); string(got) != c.want {
			t.Errorf("TreeText(%v) = %q", c.tree, got)
		}
	}
}

func TestTreeNumbers(t *testing.T) {
	for _, c := range []struct {
		tree                           impl.Tree
		size, depth                    int
		files, programs, dirs, symbols int
	}{
		{impl.Tree{}, 1, 0, 1, 0, 0, 0},
		{program("x"), 1, 0, 0, 1, 0, 0},
		{link("x"), 1, 0, 0, 0, 0, 1},
		{dir(""), 1, 0, 0, 0, 1, 0},
		{dir("a", file("")), 2, 1, 1, 0, 1, 0},
		{wide(6, link("")), 7, 1, 0, 0, 1, 6},
		{deep(4, program("")), 4, 3, 0, 1, 3, 0},
		{deep(4, dir("")), 4, 3, 0, 0, 4, 0},
		{crowd(40), 40, 2, 33, 0, 7, 0},
		{sample(), 8, 3, 2, 1, 4, 1},
		{dir("a b c", deep(2, file("")), deep(3, file("")), file("")), 7, 3, 3, 0, 4, 0},
	} {
		if got := impl.TreeSize(c.tree); got != c.size {
			t.Errorf("TreeSize(%v) = %d", c.tree, got)
		}
		if got := impl.TreeDepth(c.tree); got != c.depth {
			t.Errorf("TreeDepth(%v) = %d", c.tree, got)
		}
		for kind, want := range []int{c.files, c.programs, c.dirs, c.symbols} {
			if got := impl.CountKind(c.tree, kind); got != want {
				t.Errorf("CountKind(%v, %d) = %d", c.tree, kind, got)
			}
		}
	}
}

func TestCountKindOfNoKind(t *testing.T) {
	for _, kind := range []int{-1, 4, 255, 256, 258, math.MinInt, math.MaxInt} {
		if got := impl.CountKind(sample(), kind); got != 0 {
			t.Errorf("CountKind(%d) = %d", kind, got)
		}
	}
}

// The nodes of all kinds are all nodes.
func TestNodesOfAllKinds(t *testing.T) {
	random := rand.New(rand.NewSource(6))
	for range 2000 {
		tree := randomTree(random, 4)
		if !valid(tree) {
			continue
		}
		sum := 0
		for kind := range 4 {
			sum += impl.CountKind(tree, kind)
		}
		lines := strings.Count(string(impl.TreeText(tree)), "\n")
		if size := impl.TreeSize(tree); size != nodesOf(tree) || sum != size || lines != size {
			t.Fatalf("%v: TreeSize %d, all kinds %d, lines %d", tree, size, sum, lines)
		}
		if depth := impl.TreeDepth(tree); depth != depthOf(tree)-1 {
			t.Fatalf("TreeDepth(%v) = %d", tree, depth)
		}
	}
}

func TestTreeNames(t *testing.T) {
	for _, names := range []string{"", "a", "a b-1 lib.so z"} {
		tree := wide(len(words(names)), file(""))
		tree.Names = words(names)
		if got := bytes.Join(impl.TreeNames(tree), []byte(" ")); string(got) != names {
			t.Errorf("TreeNames = %q instead of %q", got, names)
		}
	}
	for _, tree := range []impl.Tree{{}, file("x"), program("x"), link("x")} {
		if got := impl.TreeNames(tree); len(got) != 0 {
			t.Errorf("TreeNames(%v) = %q", tree, got)
		}
	}
}

func TestTellingOfInvalidTrees(t *testing.T) {
	for what, tree := range brokenTrees() {
		checkAbsent(t, what+": TreeData", impl.TreeData(tree))
		checkAbsent(t, what+": TreeText", impl.TreeText(tree))
		if l := impl.TreeNames(tree); len(l) != 0 {
			t.Errorf("%s: TreeNames = %q", what, l)
		}
		if n := impl.TreeSize(tree); n != -1 {
			t.Errorf("%s: TreeSize = %d", what, n)
		}
		if n := impl.TreeDepth(tree); n != -1 {
			t.Errorf("%s: TreeDepth = %d", what, n)
		}
		for kind := -1; kind <= 4; kind++ {
			if n := impl.CountKind(tree, kind); n != -1 {
				t.Errorf("%s: CountKind(%d) = %d", what, kind, n)
			}
		}
	}
}

func TestTreeMemoryOfTelling(t *testing.T) {
	trees := validTrees()
	trees["more names"] = dir("a b", file("x"))
	trees["fewer names"] = dir("a", file("x"), file("y"))
	trees["not a kind"] = impl.Tree{Kind: 4, Data: []byte("x")}
	for what, tree := range trees {
		checkCall(t, what+": TreeOk", impl.TreeOk, tree)
		checkCall(t, what+": TreeData", impl.TreeData, tree)
		checkCall(t, what+": TreeText", impl.TreeText, tree)
		checkCall(t, what+": TreeNames", impl.TreeNames, tree)
		checkCall(t, what+": TreeSize", impl.TreeSize, tree)
		checkCall(t, what+": TreeDepth", impl.TreeDepth, tree)
		checkCall(t, what+": CountKind", impl.CountKind, tree, impl.KdFile)
	}
	checkCall(t, "EntryOk", impl.EntryOk, []byte("a.b"))
	checkCall(t, "EntryOk of none", impl.EntryOk, []byte(".b"))
}
