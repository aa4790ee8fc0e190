package tests

import (
	"bytes"
	"math"
	"math/rand"
	"slices"
	"strconv"
	"strings"

	"loop.example/g00538/impl"
)

// The trees with which the tests of chapter 2 work, and what the document says
// of them, written once more in the plainest way.

func file(data string) impl.Tree { return impl.Tree{Kind: impl.KdFile, Data: []byte(data)} }

func program(data string) impl.Tree { return impl.Tree{Kind: impl.KdRun, Data: []byte(data)} }

func link(data string) impl.Tree { return impl.Tree{Kind: impl.KdLink, Data: []byte(data)} }

// dir makes a directory of names, separated by blanks, and as many kids.
func dir(names string, kids ...impl.Tree) impl.Tree {
	return impl.Tree{Kind: impl.KdDir, Names: words(names), Kids: kids}
}

func words(s string) [][]byte {
	var l [][]byte
	for _, w := range strings.Fields(s) {
		l = append(l, []byte(w))
	}
	return l
}

// wide makes a directory of n kids that are all equal.
func wide(n int, kid impl.Tree) impl.Tree {
	d := impl.Tree{Kind: impl.KdDir}
	for i := range n {
		d.Names = append(d.Names, []byte("k"+strconv.Itoa(i)))
		d.Kids = append(d.Kids, kid)
	}
	return d
}

// deep makes a tree of that depth: directories, and below them t.
func deep(depth int, t impl.Tree) impl.Tree {
	for range depth - 1 {
		t = dir("d", t)
	}
	return t
}

// crowd makes a tree of n nodes, 8 to 43, of depth 3.
func crowd(n int) impl.Tree {
	d := wide(6, dir(""))
	n -= 7
	for i := range d.Kids {
		d.Kids[i] = wide(min(n, 6), file(strconv.Itoa(i)))
		n -= len(d.Kids[i].Kids)
	}
	return d
}

func sample() impl.Tree {
	return dir("a b-1 lib.so z",
		dir("bin c", program("#!sh"), dir("deep", file("yz"))),
		file("x"),
		link("/a/c"),
		dir(""))
}

func longest(kind int) impl.Tree { return impl.Tree{Kind: kind, Data: pattern(impl.MaxText)} }

func validTrees() map[string]impl.Tree {
	return map[string]impl.Tree{
		"zero value":        {},
		"empty slices":      {Kind: impl.KdDir, Data: []byte{}, Names: [][]byte{}, Kids: []impl.Tree{}},
		"empty kids":        {Kind: impl.KdFile, Data: []byte("x"), Names: [][]byte{}, Kids: []impl.Tree{}},
		"file":              file("some bytes\x00\xff\n"),
		"program":           program("#!sh"),
		"link":              link("a/b"),
		"empty program":     program(""),
		"empty link":        link(""),
		"empty directory":   dir(""),
		"sample":            sample(),
		"longest file":      longest(impl.KdFile),
		"longest program":   longest(impl.KdRun),
		"longest link":      longest(impl.KdLink),
		"most kids":         wide(6, file("x")),
		"most nodes":        crowd(40),
		"fewer nodes":       crowd(39),
		"deepest file":      deep(4, file("x")),
		"deepest directory": deep(4, dir("")),
		"widest at depth 4": deep(3, wide(6, file(""))),
		"longest names":     dir("aaaaaaaa zzzzzzzz", file("1"), file("2")),
		"shortest names":    dir("- 0 9 a z", file("1"), file("2"), file("3"), file("4"), file("5")),
		"dots in names":     dir("-. a.. a.b a.b-c", file("1"), dir(""), link("3"), program("4")),
		"a prefix":          dir("a aa aaa ab", file("1"), file("2"), file("3"), file("4")),
		"128 bytes":         file(strings.Repeat("q", 128)),
		"largest": func() impl.Tree {
			t := crowd(40)
			for _, d := range t.Kids {
				for i := range d.Kids {
					d.Kids[i] = longest(impl.KdFile)
				}
			}
			return t
		}(),
	}
}

var noEntries = []string{"", ".", ".a", "..", ".aaaaaaa", "aaaaaaaaa", "A", "Z", "aB", "a/b", "/", "a b", " ", "_", "a_", "a\x00", "\x00", "a\n", "`", "{", "é", "\xff", "a\xe1", ":", ",", "a+b"}

// invalidTrees are not valid at the top; brokenTrees adds those that are not valid further down.
func invalidTrees() map[string]impl.Tree {
	m := map[string]impl.Tree{
		"data in a directory":            {Kind: impl.KdDir, Data: []byte("x")},
		"data in a directory with kids":  {Kind: impl.KdDir, Data: []byte("x"), Names: words("a"), Kids: []impl.Tree{file("")}},
		"more names":                     dir("a b", file("")),
		"more names than none":           dir("a"),
		"fewer names":                    dir("a", file(""), file("")),
		"fewer names, none":              dir("", file("")),
		"equal names":                    dir("a a", file("1"), file("2")),
		"equal names further on":         dir("a b b", file("1"), file("2"), file("3")),
		"descending names":               dir("b a", file("1"), file("2")),
		"descending names further on":    dir("a c b", file("1"), file("2"), file("3")),
		"a prefix behind":                dir("aa a", file("1"), file("2")),
		"too many kids":                  wide(7, file("")),
		"far too many kids":              wide(1000, file("")),
		"too many nodes":                 crowd(41),
		"far too many nodes":             wide(6, wide(6, wide(6, file("")))),
		"too deep, a file":               deep(5, file("")),
		"too deep, a directory":          deep(5, dir("")),
		"far too deep":                   deep(500, file("")),
		"cyclic":                         cyclic(1),
		"cyclic and wide":                cyclic(6),
		"cyclic, and its names are none": {Kind: impl.KdDir, Kids: cyclic(1).Kids},
	}
	for _, kind := range []int{-1, -2, 4, 5, 255, 256, 256 + impl.KdDir, 1 << 32, math.MinInt, math.MaxInt} {
		m["kind "+strconv.Itoa(kind)] = impl.Tree{Kind: kind}
		m["kind with data "+strconv.Itoa(kind)] = impl.Tree{Kind: kind, Data: []byte("x")}
		m["kind with kids "+strconv.Itoa(kind)] = impl.Tree{Kind: kind, Names: words("a"), Kids: []impl.Tree{file("")}}
	}
	for _, kind := range []int{impl.KdFile, impl.KdRun, impl.KdLink} {
		k := strconv.Itoa(kind)
		m["too much data "+k] = impl.Tree{Kind: kind, Data: pattern(impl.MaxText + 1)}
		m["far too much data "+k] = impl.Tree{Kind: kind, Data: pattern(50001)}
		m["names without kids "+k] = impl.Tree{Kind: kind, Names: words("a")}
		m["kids without names "+k] = impl.Tree{Kind: kind, Kids: []impl.Tree{file("")}}
		m["names and kids "+k] = impl.Tree{Kind: kind, Data: []byte("x"), Names: words("a"), Kids: []impl.Tree{file("")}}
		m["an empty name "+k] = impl.Tree{Kind: kind, Names: [][]byte{nil}}
	}
	for _, s := range noEntries {
		m["name "+strconv.Quote(s)] = impl.Tree{Kind: impl.KdDir, Names: [][]byte{[]byte(s)}, Kids: []impl.Tree{file("")}}
		m["second name "+strconv.Quote(s)] = impl.Tree{Kind: impl.KdDir, Names: [][]byte{[]byte("-"), []byte(s)}, Kids: []impl.Tree{file(""), file("")}}
	}
	return m
}

// cyclic makes a directory whose n kids are it itself.
func cyclic(n int) impl.Tree {
	t := wide(n, impl.Tree{})
	for i := range t.Kids {
		t.Kids[i] = t
	}
	return t
}

func brokenTrees() map[string]impl.Tree {
	m := invalidTrees()
	for what, t := range invalidTrees() {
		m[what+", below"] = dir("a b", file("x"), t)
		m[what+", further below"] = dir("a", dir("b c", t, link("y")))
	}
	return m
}

// valid repeats what the document says of TreeOk, for a tree that is not cyclic.
func valid(t impl.Tree) bool {
	return nodesOf(t) <= 40 && depthOf(t) <= 4 && validParts(t)
}

func validParts(t impl.Tree) bool {
	for i, kid := range t.Kids {
		if t.Kind != 2 || len(t.Names) != len(t.Kids) || len(t.Kids) > 6 || !isEntry(t.Names[i]) || !validParts(kid) {
			return false
		}
		if i > 0 && string(t.Names[i-1]) >= string(t.Names[i]) {
			return false
		}
	}
	if t.Kind == 2 {
		return len(t.Data) == 0 && len(t.Names) == len(t.Kids)
	}
	return t.Kind >= 0 && t.Kind <= 3 && len(t.Data) <= 400 && len(t.Names) == 0
}

func isEntry(b []byte) bool {
	return len(b) >= 1 && len(b) <= 8 && b[0] != '.' && strings.Trim(string(b), "abcdefghijklmnopqrstuvwxyz0123456789.-") == ""
}

func nodesOf(t impl.Tree) int {
	n := 1
	for _, kid := range t.Kids {
		n += nodesOf(kid)
	}
	return n
}

func depthOf(t impl.Tree) int {
	n := 0
	for _, kid := range t.Kids {
		n = max(n, depthOf(kid))
	}
	return n + 1
}

// encode takes any tree with as many names as kids: what it makes of one that is not valid is almost an encoding.
func encode(t impl.Tree) []byte { return encodeNumbered(t, impl.PutNum) }

// encodeNumbered is encode, but puts numbers as put does.
func encodeNumbered(t impl.Tree, put func(b []byte, n int) []byte) []byte {
	if t.Kind != impl.KdDir {
		return append(put([]byte{byte(t.Kind)}, len(t.Data)), t.Data...)
	}
	b := []byte{byte(t.Kind), byte(len(t.Kids))}
	for i, kid := range t.Kids {
		b = slices.Concat(put(b, len(t.Names[i])), t.Names[i], encodeNumbered(kid, put))
	}
	return b
}

func same(a, b impl.Tree) bool {
	return a.Kind == b.Kind && bytes.Equal(a.Data, b.Data) && slices.EqualFunc(a.Names, b.Names, bytes.Equal) && slices.EqualFunc(a.Kids, b.Kids, same)
}

func zero(t impl.Tree) bool {
	return t.Kind == 0 && len(t.Data) == 0 && len(t.Names) == 0 && len(t.Kids) == 0
}

// randomTree makes a tree of at most that depth. It has valid nodes, but may have too many of them.
func randomTree(random *rand.Rand, depth int) impl.Tree {
	// Directories are more frequent: the upper numbers stand for them too.
	if kind := random.Intn(5); kind < 4 && kind != impl.KdDir {
		return impl.Tree{Kind: kind, Data: pattern(random.Intn(6))}
	}
	d := dir("")
	if depth == 1 {
		return d
	}
	for _, name := range randomNames(random) {
		d.Names = append(d.Names, name)
		d.Kids = append(d.Kids, randomTree(random, depth-1))
	}
	return d
}

func randomNames(random *rand.Rand) [][]byte {
	var l [][]byte
	for _, s := range []string{"-", "a", "a-b", "a.b", "aa", "b", "long.est", "z9"} {
		if random.Intn(8) < 3 && len(l) < 6 {
			l = append(l, []byte(s))
		}
	}
	return l
}
