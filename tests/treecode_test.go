package tests

import (
	"bytes"
	"math/rand"
	"strings"
	"testing"

	"loop.example/g00538/impl"
)

func checkNoTree(t *testing.T, b []byte) {
	t.Helper()
	if tree, ok := impl.TreeRead(b); ok || !zero(tree) {
		t.Errorf("TreeRead(%.40q) = %v, %t", b, tree, ok)
	}
}

// checkRead fails if TreeRead returns anything but a valid tree whose encoding
// is b, or the zero value and false, and reports which of them it returned.
func checkRead(t *testing.T, b []byte) bool {
	t.Helper()
	tree, ok := impl.TreeRead(b)
	if ok && (!valid(tree) || !bytes.Equal(encode(tree), b)) || !ok && !zero(tree) {
		t.Fatalf("TreeRead(%.40q) = %v, %t", b, tree, ok)
	}
	return ok
}

func checkRecovered(t *testing.T, what string, tree impl.Tree) {
	t.Helper()
	b, ok := impl.TreeBytes(tree)
	if !ok || !bytes.Equal(b, encode(tree)) {
		t.Fatalf("%s: TreeBytes = %.40q, %t", what, b, ok)
	}
	if got, ok := impl.TreeRead(guarded(b)); !ok || !same(got, tree) {
		t.Fatalf("%s: TreeRead(TreeBytes) = %v, %t", what, got, ok)
	}
}

func TestTreeBytes(t *testing.T) {
	long := strings.Repeat("q", 300)
	for _, c := range []struct {
		tree impl.Tree
		want string
	}{
		{impl.Tree{}, "\x00\x00"}, {file("ab"), "\x00\x02ab"}, {program("c"), "\x01\x01c"}, {link("/"), "\x03\x01/"},
		{file(long), "\x00\xac\x02" + long},
		{dir(""), "\x02\x00"},
		{dir("x", dir("")), "\x02\x01\x01x\x02\x00"},
		{dir("a b-1", dir("long.est", program("#!")), link("a")), "\x02\x02\x01a\x02\x01\x08long.est\x01\x02#!\x03b-1\x03\x01a"},
	} {
		if got, ok := impl.TreeBytes(c.tree); !ok || string(got) != c.want {
			t.Errorf("TreeBytes(%v) = %q, %t", c.tree, got, ok)
		}
		if got, ok := impl.TreeRead([]byte(c.want)); !ok || !same(got, c.tree) {
			t.Errorf("TreeRead(%q) = %v, %t", c.want, got, ok)
		}
	}
}

func TestTreeBytesOfInvalidTrees(t *testing.T) {
	for what, tree := range brokenTrees() {
		if b, ok := impl.TreeBytes(tree); ok || len(b) != 0 {
			t.Errorf("%s: TreeBytes = %.40q, %t", what, b, ok)
		}
	}
}

func TestTreesAreRecovered(t *testing.T) {
	for what, tree := range validTrees() {
		checkRecovered(t, what, tree)
	}
	random := rand.New(rand.NewSource(7))
	for range 2000 {
		if tree := randomTree(random, 4); valid(tree) {
			checkRecovered(t, "a random tree", tree)
		}
	}
}

// What an invalid tree would be encoded as is not an encoding.
func TestTreeReadRejectsInvalidTrees(t *testing.T) {
	for _, tree := range []impl.Tree{
		{Kind: 4}, {Kind: 255}, dir("a", impl.Tree{Kind: 4}),
		file(strings.Repeat("q", 401)), dir("a", link(strings.Repeat("q", 401))), program(strings.Repeat("q", 1000)),
		wide(7, file("")), wide(255, file("")), dir("a", dir("b", wide(7, file("")))),
		crowd(41), wide(6, wide(6, wide(6, file("")))),
		deep(5, file("")), deep(5, dir("")), deep(500, file("")), deep(6000, file("")),
		dir("a a", file("1"), file("2")), dir("b a", file("1"), file("2")), dir("a c b", file("1"), file("2"), file("3")),
	} {
		checkNoTree(t, encode(tree))
	}
	for _, s := range noEntries {
		d := impl.Tree{Kind: impl.KdDir, Names: [][]byte{[]byte(s)}, Kids: []impl.Tree{file("")}}
		checkNoTree(t, encode(d))
		checkNoTree(t, encode(dir("a", d)))
	}
}

func TestTreeReadRejects(t *testing.T) {
	q := strings.Repeat("q", 500)
	for _, s := range []string{
		"", "\x00", "\x01", "\x02", "\x03",
		// unknown kinds
		"\x04", "\x04\x00", "\x04\x01x", "\x05\x00", "\x80\x00", "\xff\x00", "\x02\x01\x01a\x04\x00", "d\x00", "0\x00",
		// shortened and lengthened
		"\x00\x01", "\x00\x02x", "\x00\x00\x00", "\x00\x01xy", "\x02\x00\x00", "\x02\x01", "\x02\x01\x01", "\x02\x01\x01a", "\x02\x01\x01a\x00",
		"\x02\x02\x01a\x00\x00", "\x02\x00\x01a\x00\x00", "\x02\x01\x01a\x00\x00\x01b\x00\x00", "\x00\x00\x02\x00", "\x02\x00\x02\x00",
		// lengths with more bytes than needed
		"\x00\x80\x00", "\x00\x81\x00x", "\x01\x82\x00xy", "\x03\x80\x80\x00", "\x02\x01\x81\x00a\x00\x00", "\x02\x80\x00", "\x02\x81\x00\x01a\x00\x00", "\x02\x01\x01a\x00\x81\x00x", "\x80\x00\x00",
		// more than MaxText bytes of Data, and more than MaxName of a name
		"\x00\x91\x03" + q[:401], "\x00\xf4\x03" + q, "\x02\x01\x01a\x01\x91\x03" + q[:401], "\x02\x01\x09" + q[:9] + "\x00\x00", "\x02\x01\x90\x03" + q[:400] + "\x00\x00",
		// the numbers of kids that no directory has
		"\x02\x07", "\x02\xff", "\x02\x06\x01a\x00\x00", "\x02\x07\x011\x00\x00\x012\x00\x00\x013\x00\x00\x014\x00\x00\x015\x00\x00\x016\x00\x00\x017\x00\x00",
		// names that are equal, descending, or no entries
		"\x02\x02\x01a\x00\x00\x01a\x00\x00", "\x02\x02\x01b\x00\x00\x01a\x00\x00", "\x02\x01\x00\x00\x00", "\x02\x01\x01.\x00\x00", "\x02\x01\x01A\x00\x00", "\x02\x01\x02a/\x00\x00",
	} {
		checkNoTree(t, []byte(s))
	}
	checkNoTree(t, nil)
}

func TestTreeReadRejectsManyBytes(t *testing.T) {
	for _, size := range []int{20000, 49999, 50000, 50001, 50002, 100000, 1000000} {
		for _, b := range [][]byte{{0}, {1}, {2, 6}, {2, 1, 1, 'a'}, {2, 255}, {2, 1, 0}, {255}} {
			checkNoTree(t, bytes.Repeat(b, size/len(b)+1)[:size])
		}
		whole := make([]byte, size)
		copy(whole, encode(sample()))
		checkNoTree(t, whole)
	}
}

// Bytes that are almost an encoding are the encoding of another tree or of none.
func TestTreeReadOfChangedBytes(t *testing.T) {
	for _, tree := range []impl.Tree{file("abc"), longest(impl.KdLink), dir(""), sample(), wide(6, dir("")), crowd(40), deep(4, file("x"))} {
		b := encode(tree)
		for i := range b {
			checkNoTree(t, b[:i])
			for c := range 256 {
				changed := bytes.Clone(b)
				changed[i] = byte(c)
				checkRead(t, changed)
			}
			checkRead(t, append(bytes.Clone(b[:i]), b[i+1:]...))
			checkRead(t, append(append(bytes.Clone(b[:i]), b[i]), b[i:]...))
		}
		for c := range 256 {
			checkNoTree(t, append(bytes.Clone(b), byte(c)))
		}
	}
}

func TestTreeReadOfLengthsWithMoreBytes(t *testing.T) {
	for _, s := range []string{"", "x", strings.Repeat("y", 127), strings.Repeat("z", 128), strings.Repeat("z", 400)} {
		b := impl.PutNum([]byte{impl.KdFile}, len(s))
		longer := append(bytes.Clone(b), 0)
		longer[len(b)-1] |= 128
		if _, ok := impl.TreeRead(append(b, s...)); !ok {
			t.Errorf("%d bytes of Data are not read", len(s))
		}
		checkNoTree(t, append(longer, s...))
	}
}

// All short strings of the bytes that encodings consist of.
func TestTreeReadOfShortStrings(t *testing.T) {
	accepted := 0
	var try func(b []byte, left int)
	try = func(b []byte, left int) {
		if checkRead(t, b) {
			accepted++
		}
		for _, c := range []byte("\x00\x01\x02\x03\x04ab.") {
			if left > 0 {
				try(append(bytes.Clone(b), c), left-1)
			}
		}
	}
	try(nil, 6)
	if want := shortEncodings(6); accepted != want {
		t.Errorf("%d strings are encodings instead of %d", accepted, want)
	}
}

// shortEncodings counts the trees whose Data and names consist of the bytes of
// TestTreeReadOfShortStrings and whose encodings have at most that length.
func shortEncodings(length int) int {
	const others = 3
	total := 1 // the empty directory
	power := 1
	for size := 0; size+2 <= length && size <= 4; size++ {
		total += others * power
		power *= 8
	}
	// A directory with one kid: 3 bytes, 1 or 2 of a name (a, b; or one of these and one of a, b, a dot), and the kid.
	for name, count := range map[int]int{1: 2, 2: 6} {
		if length-3-name >= 2 {
			total += count * shortEncodings(length-3-name)
		}
	}
	return total
}

func TestTreeReadOfRandomBytes(t *testing.T) {
	random := rand.New(rand.NewSource(8))
	accepted := 0
	for range 60000 {
		b := make([]byte, random.Intn(24))
		for i := range b {
			b[i] = "\x00\x00\x01\x01\x02\x02\x03abz"[random.Intn(10)]
		}
		if checkRead(t, b) {
			accepted++
		}
	}
	if accepted == 0 {
		t.Error("no tree was read")
	}
}

func TestTreeMemoryOfEncodings(t *testing.T) {
	for what, tree := range validTrees() {
		checkCall(t, what+": TreeBytes", impl.TreeBytes, tree)
		checkCall(t, what+": TreeRead", impl.TreeRead, encode(tree))
		checkCall(t, what+": TreeRead of less", impl.TreeRead, encode(tree)[1:])
		checkCall(t, what+": TreeRead of more", impl.TreeRead, append(encode(tree), 0))
	}
	checkCall(t, "TreeBytes of no tree", impl.TreeBytes, dir("a b", file("x")))
	b := encode(sample())
	if tree, ok := impl.TreeRead(b[: len(b)-1 : len(b)]); ok || !zero(tree) {
		t.Error("TreeRead reads behind the length")
	}
}
