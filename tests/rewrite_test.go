package tests

import (
	"math/rand"
	"strings"
	"testing"

	"loop.example/g00538/impl"
)

// The tests of promise 3: rewriting preserves the length and replaces the one name by the other.

func checkRewrite(t *testing.T, b, from, to, want string) {
	t.Helper()
	if got, ok := impl.Rewrite([]byte(b), []byte(from), []byte(to)); !ok || string(got) != want {
		t.Errorf("Rewrite(%q, %q, %q) = %q, %t", b, from, to, got, ok)
	}
}

func TestRewrite(t *testing.T) {
	a, b := named("a"), named("b")
	checkRewrite(t, "", a, b, "")
	checkRewrite(t, a, a, b, b)
	checkRewrite(t, "see "+a+"!", a, b, "see "+b+"!")
	checkRewrite(t, a+"!", a, b, b+"!")
	checkRewrite(t, "!"+a, a, b, "!"+b)
	checkRewrite(t, a+a+a, a, b, b+b+b)
	checkRewrite(t, a+b+a, a, b, b+b+b)
	checkRewrite(t, a+b+a, b, a, a+a+a)
	checkRewrite(t, b, a, b, b)
	checkRewrite(t, "\x00"+a+"\xff\n", a, b, "\x00"+b+"\xff\n")
	// not whole
	checkRewrite(t, a[:15], a, b, a[:15])
	checkRewrite(t, a[1:], a, b, a[1:])
	checkRewrite(t, a+a[:15], a, b, b+a[:15])
	checkRewrite(t, a[:8]+" "+a[8:], a, b, a[:8]+" "+a[8:])
	checkRewrite(t, a[:15]+"1"+lastz, lastz, a, a[:15]+"1"+a)
	// one name for itself
	for _, s := range []string{"", a, a + a, "see " + a + "!", zeros + zeros[:7], b} {
		checkRewrite(t, s, a, a, s)
		checkRewrite(t, s, zeros, zeros, s)
	}
	checkRewrite(t, strings.Repeat(a+"-", 3000), a, b, strings.Repeat(b+"-", 3000))
}

// From left to right: an occurrence that overlaps a replaced one is none any more.
func TestRewriteOfOverlappingOccurrences(t *testing.T) {
	a := named("a")
	checkRewrite(t, zeros+"0", zeros, a, a+"0")
	checkRewrite(t, zeros+zeros[:15], zeros, a, a+zeros[:15])
	checkRewrite(t, zeros+zeros, zeros, a, a+a)
	checkRewrite(t, "1"+zeros+zeros+"00", zeros, a, "1"+a+a+"00")
	checkRewrite(t, swing+"01", swing, a, a+"01")
	checkRewrite(t, "1"+swing+"010", swing, a, "1"+a+"010")
	checkRewrite(t, "1"+swing+"010", swung, a, a+"1010")
	checkRewrite(t, round+"120120", round, a, a+"120120")
}

// Replaced bytes are not examined again, neither alone nor with those around them.
func TestRewriteDoesNotExamineReplacedBytes(t *testing.T) {
	// The replaced bytes, together with those behind them, those before them, or both, would be an occurrence.
	checkRewrite(t, head1+zeros[1:], head1, last1, last1+zeros[1:])
	checkRewrite(t, "1"+head1, head1, last1, "1"+last1)
	checkRewrite(t, "1"+head1+zeros[1:], head1, last1, "1"+last1+zeros[1:])
	checkRewrite(t, zeros+"0", zeros, head1, head1+"0")
	checkRewrite(t, last1+zeros[:15], zeros, last1, last1+zeros[:15])
	checkRewrite(t, swing+"1", swing, swung, swung+"1")
	checkRewrite(t, "0"+swing, swing, swung, "0"+swung)
	checkRewrite(t, "0"+swing+swing+"1", swing, swung, "0"+swung+swung+"1")
	checkRewrite(t, zeros[:15]+head1+zeros[:15], zeros, head1, last1+head1+zeros[:14])
	for _, from := range overlapping() {
		for _, to := range overlapping() {
			for cut := range 17 {
				b := to[16-cut:] + from + to[:cut] + from
				checkRewrite(t, b, from, to, strings.Join(inPieces(b, from), to))
			}
		}
	}
}

func TestRewriteOfNoNames(t *testing.T) {
	for _, s := range noNames {
		for _, b := range []string{"", "x", s, zeros, steep + s} {
			for _, c := range [][2]string{{s, steep}, {steep, s}, {s, s}, {"", s}, {s, ""}} {
				if got, ok := impl.Rewrite([]byte(b), []byte(c[0]), []byte(c[1])); ok || len(got) != 0 {
					t.Errorf("Rewrite(%q, %q, %q) = %q, %t", b, c[0], c[1], got, ok)
				}
			}
		}
	}
}

func TestRewriteOfRandomBytes(t *testing.T) {
	random := rand.New(rand.NewSource(32))
	replaced := 0
	for range 4000 {
		names := overlapping()
		from, to := names[random.Intn(len(names))], names[random.Intn(len(names))]
		b := randomText(random, []string{from, to, from}, random.Intn(8))
		got, ok := impl.Rewrite([]byte(b), []byte(from), []byte(to))
		pieces := inPieces(b, from)
		if !ok || len(got) != len(b) || string(got) != strings.Join(pieces, to) {
			t.Fatalf("Rewrite(%q, %q, %q) = %q, %t", b, from, to, got, ok)
		}
		replaced += len(pieces) - 1
	}
	if replaced < 1000 {
		t.Fatal("too few occurrences:", replaced)
	}
}

func TestTreeRewrite(t *testing.T) {
	a, b := named("a"), named("b")
	for what, c := range map[string]struct{ tree, want impl.Tree }{
		"zero value": {impl.Tree{}, impl.Tree{}},
		"file":       {file("see " + a), file("see " + b)},
		"program":    {program(a + a), program(b + b)},
		"link":       {link("/" + a + "/x"), link("/" + b + "/x")},
		"directory":  {dir(""), dir("")},
		"no name":    {dir("a b", file(a[:15]), link(a[1:])), dir("a b", file(a[:15]), link(a[1:]))},
		"several nodes": {
			dir("a b c d", file(a), program("x"+a), link(b), file("")),
			dir("a b c d", file(b), program("x"+b), link(b), file("")),
		},
		"several depths": {
			dir("a b", file(a), dir("c d e", dir("f", file(a+"-"+a)), link(a), dir(""))),
			dir("a b", file(b), dir("c d e", dir("f", file(b+"-"+b)), link(b), dir(""))),
		},
		"deepest": {deep(4, file(a)), deep(4, file(b))},
		"across two nodes": {
			dir("a b", file("x"+a[:8]), file(a[8:]+"x")),
			dir("a b", file("x"+a[:8]), file(a[8:]+"x")),
		},
		"across two depths": {
			dir("a b", dir("c", file(a[:15])), file(a[15:]+a)),
			dir("a b", dir("c", file(a[:15])), file(a[15:]+b)),
		},
		"in names": {
			dir("00000000 a0000000", dir("a0000000", file("")), link(a)),
			dir("00000000 a0000000", dir("a0000000", file("")), link(b)),
		},
		"longest": {
			file(strings.Repeat(a, 25)), file(strings.Repeat(b, 25)),
		},
	} {
		got, ok := impl.TreeRewrite(c.tree, []byte(a), []byte(b))
		if !ok || !same(got, c.want) {
			t.Errorf("%s: TreeRewrite = %v, %t", what, got, ok)
		}
	}
	// The name stands in the Names of two kids one after the other.
	tree := dir("0a0a0a0a b0b0b0b0", file("0a0a0a0ab0b0b0b0"), file("0a0a0a0a"))
	want := dir("0a0a0a0a b0b0b0b0", file(b), file("0a0a0a0a"))
	if got, ok := impl.TreeRewrite(tree, []byte("0a0a0a0ab0b0b0b0"), []byte(b)); !ok || !same(got, want) {
		t.Errorf("TreeRewrite = %v, %t", got, ok)
	}
}

func TestTreeRewriteOfEveryTree(t *testing.T) {
	for what, tree := range validTrees() {
		got, ok := impl.TreeRewrite(tree, []byte(steep), []byte(zeros))
		if !ok || !same(got, tree) {
			t.Errorf("%s: TreeRewrite = %v, %t", what, got, ok)
		}
	}
}

func TestTreeRewriteOfInvalidArguments(t *testing.T) {
	check := func(what string, tree impl.Tree, from, to string) {
		t.Helper()
		if got, ok := impl.TreeRewrite(tree, []byte(from), []byte(to)); ok || !zero(got) {
			t.Errorf("%s: TreeRewrite(%q, %q) = %v, %t", what, from, to, got, ok)
		}
	}
	for what, tree := range brokenTrees() {
		check(what, tree, steep, zeros)
		check(what, tree, zeros, zeros)
		check(what, tree, "", zeros)
	}
	for _, s := range noNames {
		for _, tree := range []impl.Tree{{}, file(s), dir(""), dir("a", file(zeros))} {
			check("from is no name", tree, s, zeros)
			check("to is no name", tree, zeros, s)
			check("neither is a name", tree, s, s)
		}
	}
}

// withData returns t with texts of names as the Data of the nodes that may have any.
func withData(random *rand.Rand, t impl.Tree, names []string) impl.Tree {
	if t.Kind != impl.KdDir {
		t.Data = []byte(randomText(random, names, random.Intn(5)))
	}
	for i, kid := range t.Kids {
		t.Kids[i] = withData(random, kid, names)
	}
	return t
}

func TestTreeRewriteOfRandomTrees(t *testing.T) {
	random := rand.New(rand.NewSource(33))
	changed := 0
	for range 2000 {
		names := overlapping()
		from, to := names[random.Intn(len(names))], names[random.Intn(len(names))]
		tree := withData(random, randomTree(random, 4), []string{from, to})
		if !valid(tree) {
			continue
		}
		got, ok := impl.TreeRewrite(tree, []byte(from), []byte(to))
		if !ok || !valid(got) || !rewritten(tree, got, from, to) {
			t.Fatalf("TreeRewrite(%v, %q, %q) = %v, %t", tree, from, to, got, ok)
		}
		if !same(tree, got) {
			changed++
		}
	}
	if changed < 200 {
		t.Fatal("too few trees have changed:", changed)
	}
}

// rewritten compares node by node.
func rewritten(a, b impl.Tree, from, to string) bool {
	if a.Kind != b.Kind || !sameTexts(a.Names, b.Names) || len(a.Kids) != len(b.Kids) {
		return false
	}
	for i := range a.Kids {
		if !rewritten(a.Kids[i], b.Kids[i], from, to) {
			return false
		}
	}
	return string(b.Data) == strings.Join(inPieces(string(a.Data), from), to)
}

func TestRewriteMemory(t *testing.T) {
	for _, c := range [][3]string{{"", steep, zeros}, {"x", steep, zeros}, {steep, steep, zeros}, {steep + "-" + steep, steep, zeros}, {zeros, zeros, zeros}, {zeros, zeros, "e"}, {"x", "", ""}} {
		checkCall(t, "Rewrite", impl.Rewrite, []byte(c[0]), []byte(c[1]), []byte(c[2]))
		tree := dir("a b", file(c[0]), dir("c", link(c[0])))
		checkCall(t, "TreeRewrite", impl.TreeRewrite, tree, []byte(c[1]), []byte(c[2]))
	}
	for what, tree := range validTrees() {
		checkCall(t, what+": TreeRewrite", impl.TreeRewrite, tree, []byte(steep), []byte(zeros))
	}
	checkCall(t, "TreeRewrite of no tree", impl.TreeRewrite, dir("a b", file(zeros)), []byte(zeros), []byte(steep))
}

// Nodes of the tree may share memory with each other; those of the result do not.
func TestTreeRewriteOfSharedNodes(t *testing.T) {
	tree := wide(3, dir("a", file("see "+steep)))
	got, ok := impl.TreeRewrite(tree, []byte(steep), []byte(zeros))
	if !ok || !same(got, wide(3, dir("a", file("see "+zeros)))) {
		t.Fatalf("TreeRewrite = %v, %t", got, ok)
	}
	flip(got.Kids[0].Kids[0].Data)
	flip(got.Kids[0].Names[0])
	if !same(got.Kids[1], dir("a", file("see "+zeros))) || !same(tree, wide(3, dir("a", file("see "+steep)))) {
		t.Error("another node changes with one of the result")
	}
}
