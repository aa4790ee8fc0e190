package tests

import (
	"bytes"
	"crypto/sha256"
	"math/rand"
	"slices"
	"strconv"
	"strings"

	"loop.example/g00538/impl"
)

// The objects and stores with which the tests of chapter 4 work, and what the
// document says of them, written once more in the plainest way.

// nameFor is NameOf, made with the standard library.
func nameFor(kind byte, b string) string {
	sum := sha256.Sum256(append([]byte{kind}, b...))
	return standard32.EncodeToString(sum[:10])
}

func sorted(l []string) []string {
	l = slices.Clone(l)
	slices.Sort(l)
	return slices.Compact(l)
}

func nameOf(o impl.Obj) string { return string(o.Name) }

// textOf, treeOf and outOf make objects; refs may have any order.
func textOf(data string, refs ...string) impl.Obj {
	return impl.Obj{Name: []byte(nameFor('t', data)), Kind: impl.ObText, Tree: file(data), Refs: texts(sorted(refs)...)}
}

func treeOf(t impl.Tree, refs ...string) impl.Obj {
	return impl.Obj{Name: []byte(nameFor('f', string(encode(t)))), Kind: impl.ObTree, Tree: t, Refs: texts(sorted(refs)...)}
}

func outOf(drv, out string, t impl.Tree, refs ...string) impl.Obj {
	name := nameFor('o', drv+string(rune(len(out)))+out)
	return impl.Obj{Name: []byte(name), Kind: impl.ObOut, Tree: t, Refs: texts(sorted(refs)...), From: []byte(drv), Out: []byte(out)}
}

// storeOf makes a store of objects in any order.
func storeOf(objs ...impl.Obj) impl.Store {
	objs = slices.Clone(objs)
	slices.SortFunc(objs, func(a, b impl.Obj) int { return bytes.Compare(a.Name, b.Name) })
	return impl.Store{Objs: objs}
}

func namesOf(objs ...impl.Obj) [][]byte {
	var l []string
	for _, o := range objs {
		l = append(l, nameOf(o))
	}
	return texts(sorted(l)...)
}

// rooted returns s with these as its roots.
func rooted(s impl.Store, objs ...impl.Obj) impl.Store {
	s.Roots = namesOf(objs...)
	return s
}

// made returns s with realisations of these outputs.
func made(s impl.Store, outs ...impl.Obj) impl.Store {
	s.Reals = nil
	for _, o := range outs {
		s.Reals = append(s.Reals, impl.Real{Drv: bytes.Clone(o.From), Out: bytes.Clone(o.Out), Path: bytes.Clone(o.Name)})
	}
	slices.SortFunc(s.Reals, byOutput)
	return s
}

func byOutput(a, b impl.Real) int {
	if c := bytes.Compare(a.Drv, b.Drv); c != 0 {
		return c
	}
	return bytes.Compare(a.Out, b.Out)
}

// numbered makes n texts that mention nothing.
func numbered(n int) []impl.Obj {
	var l []impl.Obj
	for i := range n {
		l = append(l, textOf("text "+strconv.Itoa(i)))
	}
	return l
}

// drvName is a name that no object has.
func drvName(i int) string { return nameFor('t', "a derivation "+strconv.Itoa(i)) }

func absent() string { return nameFor('t', "what no store has") }

// outputs makes n outputs, of which every two have the same derivation.
func outputs(n int) []impl.Obj {
	var l []impl.Obj
	for i := range n {
		l = append(l, outOf(drvName(i/2), []string{"dev", "out"}[i%2], dir("n", file(strconv.Itoa(i)))))
	}
	return l
}

// chain makes objects of all Kinds, each of which refers to the one before it.
func chain(n int) []impl.Obj {
	l := []impl.Obj{textOf("the end")}
	for i := 1; i < n; i++ {
		before := nameOf(l[i-1])
		switch i % 3 {
		case 0:
			l = append(l, textOf("see "+before, before))
		case 1:
			l = append(l, treeOf(dir("a b", link(before), file("x")), before))
		case 2:
			l = append(l, outOf(drvName(100+i), "out", dir("bin", program("#!"+before)), before))
		}
	}
	return l
}

// diamond makes four objects: the last refers to the two in the middle, and these to the first.
func diamond() []impl.Obj {
	low := textOf("low")
	left, right := textOf("left of "+nameOf(low), nameOf(low)), treeOf(program("right of "+nameOf(low)), nameOf(low))
	top := outOf(drvName(0), "top", dir("l r", link(nameOf(left)), link(nameOf(right))), nameOf(left), nameOf(right))
	return []impl.Obj{low, left, right, top}
}

// overlap returns two texts and data in which as many bytes as possible belong to both of their names.
func overlap() (impl.Obj, impl.Obj, string) {
	l := numbered(100)
	for size := 15; size > 0; size-- {
		for _, a := range l {
			for _, b := range l {
				if nameOf(a) != nameOf(b) && nameOf(a)[16-size:] == nameOf(b)[:size] {
					return a, b, nameOf(a) + nameOf(b)[size:]
				}
			}
		}
	}
	panic("no names overlap")
}

// fullStore has MaxObjs objects: a chain, outputs, and a text that refers to all of these.
func fullStore() impl.Store {
	l, outs := chain(13), outputs(10)
	all := append(slices.Clone(l), outs...)
	data := string(bytes.Join(namesOf(all...), nil))
	last := textOf(data)
	last.Refs = namesOf(all...)
	return made(rooted(storeOf(append(all, last)...), l[3], l[7], outs[4], last), outs[0], outs[1], outs[4], outs[7])
}

func validStores() map[string]impl.Store {
	a, b := textOf("a"), textOf("b")
	c, outs, four := chain(7), outputs(6), diamond()
	x, y, both := overlap()
	self := outOf(drvName(1), "self", impl.Tree{})
	self.Tree = file("I am " + nameOf(self))
	return map[string]impl.Store{
		"zero value":              {},
		"empty slices":            {Objs: []impl.Obj{}, Roots: [][]byte{}, Reals: []impl.Real{}},
		"a text":                  storeOf(a),
		"an empty text":           storeOf(textOf("")),
		"the longest text":        storeOf(textOf(string(pattern(400)))),
		"two texts":               storeOf(a, b),
		"a root":                  rooted(storeOf(a, b), b),
		"only roots":              rooted(storeOf(a, b), a, b),
		"trees of all Kinds":      storeOf(treeOf(file("a")), treeOf(program("a")), treeOf(link("a")), treeOf(dir("a", file("a")))),
		"a text and a tree of it": storeOf(a, treeOf(a.Tree)),
		"the largest tree":        storeOf(treeOf(validTrees()["largest"])),
		"an output":               storeOf(outs[0]),
		"an output that is made":  made(storeOf(outs[0]), outs[0]),
		"outputs, some made":      made(rooted(storeOf(outs...), outs[2]), outs[0], outs[2], outs[3]),
		"an output of a text":     made(storeOf(a, outOf(nameOf(a), "out", file("x"))), outOf(nameOf(a), "out", file("x"))),
		"a chain":                 storeOf(c...),
		"a chain with a root":     made(rooted(storeOf(c...), c[4]), c[2], c[5]),
		"a diamond":               rooted(storeOf(four...), four[1]),
		"overlapping names":       storeOf(x, y, textOf(both, nameOf(x), nameOf(y))),
		"fewer references":        storeOf(a, b, textOf(nameOf(a)+nameOf(b), nameOf(b))),
		"a mention of no object":  storeOf(a, textOf(absent())),
		"a mention of itself":     made(storeOf(self), self),
		"24 texts":                storeOf(numbered(24)...),
		"24 roots":                rooted(storeOf(numbered(24)...), numbered(24)...),
		"24 realisations":         made(storeOf(outputs(24)...), outputs(24)...),
		"23 texts":                storeOf(numbered(23)...),
		"full":                    fullStore(),
	}
}

// The reference.

func dataOf(t impl.Tree) string {
	data := string(t.Data)
	for _, kid := range t.Kids {
		data += dataOf(kid)
	}
	return data
}

func validObj(o impl.Obj) bool {
	if o.Kind < 0 || o.Kind > 2 || !valid(o.Tree) || !isSorted(o.Refs) || len(o.Refs) > 24 {
		return false
	}
	for _, name := range o.Refs {
		if !strings.Contains(dataOf(o.Tree), string(name)) {
			return false
		}
	}
	if o.Kind == 2 {
		return isName(string(o.From)) && isEntry(o.Out) && nameOf(o) == nameOf(outOf(string(o.From), string(o.Out), o.Tree))
	}
	if len(o.From)+len(o.Out) > 0 {
		return false
	}
	if o.Kind == 0 {
		return o.Tree.Kind == 0 && nameOf(o) == nameOf(textOf(string(o.Tree.Data)))
	}
	return nameOf(o) == nameOf(treeOf(o.Tree))
}

func objOf(s impl.Store, name string) (impl.Obj, bool) {
	for _, o := range s.Objs {
		if nameOf(o) == name {
			return o, true
		}
	}
	return impl.Obj{}, false
}

// closureOf returns the names of those objects of s, and of all to which they refer, ascending.
func closureOf(s impl.Store, names ...string) []string {
	var l []string
	for _, name := range names {
		if _, ok := objOf(s, name); ok {
			l = append(l, name)
		}
	}
	l = sorted(l)
	for {
		more := slices.Clone(l)
		for _, name := range l {
			o, _ := objOf(s, name)
			more = append(more, strs(o.Refs)...)
		}
		if more = sorted(more); len(more) == len(l) {
			return more
		}
		l = more
	}
}

func validStore(s impl.Store) bool {
	if len(s.Objs) > 24 || len(s.Reals) > 24 || !isSorted(s.Roots) {
		return false
	}
	names := map[string]bool{}
	for i, o := range s.Objs {
		if !validObj(o) || i > 0 && nameOf(s.Objs[i-1]) >= nameOf(o) {
			return false
		}
		names[nameOf(o)] = true
	}
	for _, o := range s.Objs {
		for _, ref := range o.Refs {
			if !names[string(ref)] || slices.Contains(closureOf(s, string(ref)), nameOf(o)) {
				return false
			}
		}
	}
	for _, name := range s.Roots {
		if !names[string(name)] {
			return false
		}
	}
	for i, r := range s.Reals {
		o, _ := objOf(s, string(r.Path))
		if o.Kind != 2 || string(o.From) != string(r.Drv) || string(o.Out) != string(r.Out) || i > 0 && byOutput(s.Reals[i-1], r) >= 0 {
			return false
		}
	}
	return true
}

func encodeObj(o impl.Obj) []byte { return encodeObjNumbered(o, impl.PutNum) }

// encodeObjNumbered is encodeObj, but puts numbers as put does.
func encodeObjNumbered(o impl.Obj, put func(b []byte, n int) []byte) []byte {
	b := slices.Concat(o.Name, []byte{byte(o.Kind)}, encodeNumbered(o.Tree, put))
	b = append(put(b, len(o.From)), o.From...)
	b = append(put(b, len(o.Out)), o.Out...)
	return append(put(b, len(o.Refs)), bytes.Join(o.Refs, nil)...)
}

func encodeStore(s impl.Store) []byte {
	b := impl.PutNum(nil, len(s.Objs))
	for _, o := range s.Objs {
		b = append(b, encodeObj(o)...)
	}
	b = append(impl.PutNum(b, len(s.Roots)), bytes.Join(s.Roots, nil)...)
	for _, r := range s.Reals {
		b = slices.Concat(b, r.Drv, []byte{byte(len(r.Out))}, r.Out, r.Path)
	}
	return b
}

func sameObj(a, b impl.Obj) bool {
	return bytes.Equal(a.Name, b.Name) && a.Kind == b.Kind && same(a.Tree, b.Tree) && sameTexts(a.Refs, b.Refs) && bytes.Equal(a.From, b.From) && bytes.Equal(a.Out, b.Out)
}

func sameReal(a, b impl.Real) bool {
	return byOutput(a, b) == 0 && bytes.Equal(a.Path, b.Path)
}

func sameStore(a, b impl.Store) bool {
	return slices.EqualFunc(a.Objs, b.Objs, sameObj) && sameTexts(a.Roots, b.Roots) && slices.EqualFunc(a.Reals, b.Reals, sameReal)
}

// randomStore makes a valid store of up to 24 objects of all Kinds, with references, roots and realisations.
func randomStore(random *rand.Rand) impl.Store {
	var objs, roots, outs []impl.Obj
	for i := range random.Intn(25) {
		o := randomObj(random, objs, i)
		objs = append(objs, o)
		if random.Intn(6) == 0 {
			roots = append(roots, o)
		}
		if o.Kind == impl.ObOut && random.Intn(3) > 0 {
			outs = append(outs, o)
		}
	}
	return made(rooted(storeOf(objs...), roots...), outs...)
}

// randomObj makes an object that mentions some of l and refers to most of these; i makes it different from others.
func randomObj(random *rand.Rand, l []impl.Obj, i int) impl.Obj {
	data, refs := randomMentions(random, l, strconv.Itoa(i))
	switch random.Intn(3) {
	case 0:
		return textOf(data, refs...)
	case 1:
		return treeOf(randomSplit(random, data), refs...)
	}
	return outOf(drvName(i/2), []string{"dev", "out"}[i%2], randomSplit(random, data), refs...)
}

func randomMentions(random *rand.Rand, l []impl.Obj, data string) (string, []string) {
	var refs []string
	for range random.Intn(4) {
		if len(l) == 0 {
			break
		}
		name := nameOf(l[random.Intn(len(l))])
		switch random.Intn(8) {
		case 0:
			data += name[:random.Intn(16)]
		case 1:
			data += name + "-"
		default:
			data += name
			refs = append(refs, name)
		}
	}
	return data, refs
}

// randomSplit makes a tree whose TreeData is data.
func randomSplit(random *rand.Rand, data string) impl.Tree {
	at := random.Intn(len(data) + 1)
	switch random.Intn(4) {
	case 0:
		return program(data)
	case 1:
		return dir("a b", file(data[:at]), link(data[at:]))
	case 2:
		return dir("a b c", dir("x", file(data[:at])), dir(""), dir("y z", program(""), program(data[at:])))
	}
	return link(data)
}
