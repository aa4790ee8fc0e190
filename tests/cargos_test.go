package tests

import (
	"bytes"
	"encoding/binary"
	"math/rand"
	"slices"
	"strconv"
	"strings"

	"loop.example/g00538/impl"
)

// The exports with which the tests of chapter 9 work, and what the document
// says of them, written once more in the plainest way.

// packed gives objects the form of an export, whether or not they are one.
func packed(objs ...impl.Obj) []byte {
	b := []byte{'X', byte(len(objs))}
	for _, o := range objs {
		b = append(b, encodeObj(o)...)
	}
	return b
}

// needed returns, in dependency order, the objects of a valid store that have these names and all that they need.
func needed(s impl.Store, names ...string) []impl.Obj {
	var l []impl.Obj
	for _, other := range closureOf(s, names...) {
		o, _ := objOf(s, other)
		l = append(l, o)
	}
	return dependent(l)
}

// exported returns what the document says of Export.
func exported(s impl.Store, name string) ([]byte, bool) {
	if _, exists := objOf(s, name); !exists || !validStore(s) {
		return nil, false
	}
	return packed(needed(s, name)...), true
}

// isCargo reports whether objs, in this order, are those of an export.
func isCargo(objs []impl.Obj) bool {
	s := storeOf(objs...)
	if !validStore(s) {
		return false
	}
	return slices.ContainsFunc(objs, func(o impl.Obj) bool {
		return slices.EqualFunc(needed(s, nameOf(o)), objs, sameObj)
	})
}

// guess reads objects as if its bytes were encodings, so that what it returns
// is what they encode, or anything at all.
type guess struct{ b []byte }

func (g *guess) take(n int) []byte {
	n = max(0, min(n, len(g.b)))
	part := bytes.Clone(g.b[:n])
	g.b = g.b[n:]
	return part
}

func (g *guess) one() int { return int(append(g.take(1), 0)[0]) }

func (g *guess) num() int {
	n, size := binary.Uvarint(g.b)
	g.take(max(size, 1))
	return int(min(n, 1<<31))
}

func (g *guess) tree(depth int) impl.Tree {
	t := impl.Tree{Kind: g.one()}
	if t.Kind != impl.KdDir {
		t.Data = g.take(g.num())
		return t
	}
	for range min(g.one(), 7) {
		if depth > 0 {
			t.Names = append(t.Names, g.take(g.num()))
			t.Kids = append(t.Kids, g.tree(depth-1))
		}
	}
	return t
}

func (g *guess) obj() impl.Obj {
	o := impl.Obj{Name: g.take(16), Kind: g.one(), Tree: g.tree(4)}
	o.From = g.take(g.num())
	o.Out = g.take(g.num())
	for range min(g.num(), 30) {
		o.Refs = append(o.Refs, g.take(16))
	}
	return o
}

// readObj returns what the document says of ObjRead.
func readObj(b []byte) (impl.Obj, bool) {
	g := guess{b}
	if o := g.obj(); len(b) <= 50000 && bytes.Equal(encodeObj(o), b) && validObj(o) {
		return o, true
	}
	return impl.Obj{}, false
}

// readCargo returns what the document says of Cargo.
func readCargo(b []byte) ([]impl.Obj, bool) {
	g := guess{b}
	g.one()
	var l []impl.Obj
	for range min(g.one(), 30) {
		l = append(l, g.obj())
	}
	if len(b) <= 500000 && bytes.Equal(packed(l...), b) && isCargo(l) {
		return l, true
	}
	return nil, false
}

// imported returns what the document says of Import.
func imported(s impl.Store, b []byte) (impl.Store, int) {
	if !validStore(s) {
		return impl.Store{}, impl.StForm
	}
	l, ok := readCargo(b)
	if !ok {
		return s, impl.StForm
	}
	more := s
	for _, o := range l {
		other, exists := objOf(more, nameOf(o))
		if exists && !sameObj(other, o) {
			return s, impl.StNone
		}
		if !exists {
			more.Objs = storeOf(append(more.Objs[:len(more.Objs):len(more.Objs)], o)...).Objs
		}
		if len(more.Objs) > 24 {
			return s, impl.StFull
		}
	}
	return more, impl.StWell
}

// heavy makes 24 outputs that are as large as possible, each of which refers to all before it.
func heavy() []impl.Obj {
	var l []impl.Obj
	var names []string
	for i := range 24 {
		data := strings.Join(names, "")
		data += strings.Repeat(string(rune('a'+i)), 33*400-len(data))
		t := crowd(40)
		for _, d := range t.Kids {
			for k := range d.Kids {
				d.Kids[k] = link(data[:400])
				data = data[400:]
			}
		}
		l = append(l, outOf(drvName(i), "longname", t, names...))
		names = append(names, nameOf(l[i]))
	}
	return l
}

// topped adds to l a text that refers to all of it.
func topped(l []impl.Obj) []impl.Obj {
	names := strs(namesOf(l...))
	return append(slices.Clone(l), textOf("all of "+strings.Join(names, ""), names...))
}

// arranged makes the objects of an order, and one that needs all of them, in dependency order.
func arranged(x order) []impl.Obj {
	l := topped(linked(x.refs...))
	var all []impl.Obj
	for _, i := range x.taken {
		all = append(all, l[i])
	}
	return append(all, l[len(l)-1])
}

// star makes n objects, one of which needs all others, in dependency order.
func star(n int) []impl.Obj {
	return topped(storeOf(numbered(n - 1)...).Objs)
}

// validCargos are the objects of exports, in order.
func validCargos() map[string][]impl.Obj {
	m := map[string][]impl.Obj{"heavy": heavy()}
	for what, s := range validStores() {
		for _, o := range s.Objs {
			m[what+": "+nameOf(o)] = needed(s, nameOf(o))
		}
	}
	for what, o := range validObjs() {
		if len(o.Refs) == 0 {
			m["alone: "+what] = []impl.Obj{o}
		}
	}
	for what, x := range orders() {
		m["an order: "+what] = arranged(x)
	}
	for n := 1; n <= 24; n++ {
		m["a chain of "+strconv.Itoa(n)] = chain(n)
		m["a star of "+strconv.Itoa(n)] = star(n)
	}
	return m
}

// brokenCargos are objects that no export consists of, in that order.
func brokenCargos() map[string][]impl.Obj {
	c, d, a := chain(5), diamond(), textOf("a")
	m := map[string][]impl.Obj{"nothing": nil, "two texts": numbered(2), "24 texts": numbered(24), "25 texts": numbered(25), "a star of 25": star(25)}
	for _, n := range []int{25, 26, 30, 255} {
		m["a chain of "+strconv.Itoa(n)] = chain(n)
	}
	addBrokenLengths(m, "a text", []impl.Obj{a})
	addBrokenLengths(m, "a tree of a text", c[:2])
	addBrokenLengths(m, "a chain", c)
	addBrokenLengths(m, "a diamond", needed(storeOf(d...), nameOf(d[3])))
	addBrokenLengths(m, "a star", star(4))
	for i := range c {
		other, fewer := slices.Clone(c), slices.Clone(c)
		other[i].Name, fewer[i].Refs = []byte(absent()), nil
		m["another name of "+strconv.Itoa(i)] = other
		if i > 0 {
			m["no references of "+strconv.Itoa(i)] = fewer
		}
	}
	for n := 1; n <= 6; n++ {
		l, which := circle(n), "a circle of "+strconv.Itoa(n)
		m[which] = l
		m[which+", reversed"] = reversed(l)
		m[which+" and one that needs it"] = append(slices.Clone(l), textOf(nameOf(l[0]), nameOf(l[0])))
		m[which+" behind what it does not need"] = append([]impl.Obj{a}, l...)
	}
	for what, o := range brokenObjs() {
		if !encodable(o) {
			continue
		}
		// Some are encoded without what is wrong with them.
		if _, ok := readObj(encodeObj(o)); !ok {
			m["not valid: "+what] = []impl.Obj{o}
			m["not valid, behind others: "+what] = append(numbered(2), a, o)
		}
	}
	return m
}

// addBrokenLengths adds what is left when there is one object more or less in an export.
func addBrokenLengths(m map[string][]impl.Obj, what string, l []impl.Obj) {
	for i := range len(l) + 1 {
		at := what + ", at " + strconv.Itoa(i)
		m[at+" another one"] = slices.Insert(slices.Clone(l), i, textOf("other"))
		for k, o := range l {
			m[at+" once more "+strconv.Itoa(k)] = slices.Insert(slices.Clone(l), i, o)
		}
		// Behind one object alone, what needs it makes another export of both.
		if len(l) > 1 {
			m[at+" one that needs some"] = slices.Insert(slices.Clone(l), i, textOf("of "+nameOf(l[0]), nameOf(l[0])))
		}
		if i < len(l)-1 {
			m[at+" one less"] = slices.Delete(slices.Clone(l), i, i+1)
		}
	}
	if len(l) > 1 {
		m[what+", reversed"] = reversed(l)
		m[what+", its end first"] = append([]impl.Obj{l[len(l)-1]}, l[:len(l)-1]...)
	}
	m[what+", all twice"] = append(slices.Clone(l), l...)
}

func reversed(l []impl.Obj) []impl.Obj {
	l = slices.Clone(l)
	slices.Reverse(l)
	return l
}

// encodable reports whether encode can be called for the tree of o; it looks no deeper than any test tree goes.
func encodable(o impl.Obj) bool {
	var enough func(t impl.Tree, depth int) bool
	enough = func(t impl.Tree, depth int) bool {
		if depth > 600 || len(t.Names) < len(t.Kids) && t.Kind == impl.KdDir {
			return false
		}
		for _, kid := range t.Kids {
			if !enough(kid, depth+1) {
				return false
			}
		}
		return true
	}
	return enough(o.Tree, 0)
}

// permutations returns all orders of l.
func permutations(l []impl.Obj) [][]impl.Obj {
	if len(l) == 0 {
		return [][]impl.Obj{nil}
	}
	var all [][]impl.Obj
	for i, o := range l {
		for _, rest := range permutations(slices.Delete(slices.Clone(l), i, i+1)) {
			all = append(all, append([]impl.Obj{o}, rest...))
		}
	}
	return all
}

// edited returns b after one or more changes at random, some of which take over a part of other.
func edited(random *rand.Rand, b, other []byte) []byte {
	b = bytes.Clone(b)
	for range 1 + random.Intn(2) {
		at, to := random.Intn(len(b)+1), random.Intn(len(other)+1)
		switch random.Intn(6) {
		case 0:
			b = slices.Insert(b, at, byte(random.Intn(256)))
		case 1:
			b = b[:at]
		case 2:
			b = slices.Delete(b, max(0, at-1), at)
		case 3:
			b = slices.Concat(b[:at], other[to:min(to+16, len(other))], b[at:])
		case 4:
			b = slices.Concat(b[:at], other[to:])
		case 5:
			if at < len(b) {
				b[at] = "\x00\x01\x02\x03\x10\x1821az"[random.Intn(10)]
			}
		}
	}
	return b
}
