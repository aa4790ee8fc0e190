package tests

import (
	"bytes"
	"iter"
	"math/rand"
	"slices"
	"strconv"
	"strings"
	"testing"

	"loop.example/g00538/impl"
)

// The tests of promise 10: Changes lead from one store to the other, through valid stores.

// checkChanges fails if Changes does not return what the document says, or if it does not lead from a to b.
func checkChanges(t *testing.T, what string, a, b impl.Store) ([]impl.Reg, bool) {
	t.Helper()
	regs, ok := impl.Changes(a, b)
	want, wantOk := changesOf(a, b)
	if ok != wantOk || !sameRegs(regs, want) {
		t.Fatalf("%s: Changes(%v, %v) = %v, %t instead of %v, %t", what, a, b, regs, ok, want, wantOk)
	}
	if ok {
		checkLeads(t, what, a, b, regs)
	}
	return regs, ok
}

// checkLeads fails if the records do not lead from a to b, through valid stores.
func checkLeads(t *testing.T, what string, a, b impl.Store, regs []impl.Reg) {
	t.Helper()
	s := a
	for i, r := range regs {
		next, ok := impl.Apply(s, r)
		if !ok || !impl.RegOk(r) || !impl.StoreOk(next) {
			t.Fatalf("%s: record %d cannot be applied: %v", what, i, r)
		}
		if again, ok := impl.Apply(next, r); !ok || !sameStore(again, next) {
			t.Fatalf("%s: record %d has another effect when applied again: %v", what, i, r)
		}
		s = next
	}
	if impl.StoreCmp(s, b) != 0 || !sameStore(s, b) {
		t.Fatalf("%s: the records lead to %v instead of %v", what, s, b)
	}
}

// checkListed fails if Changes does not return exactly these records.
func checkListed(t *testing.T, what string, a, b impl.Store, regs ...impl.Reg) {
	t.Helper()
	if got, ok := checkChanges(t, what, a, b); !ok || !sameRegs(got, regs) {
		t.Errorf("%s: Changes = %v, %t", what, got, ok)
	}
}

// checkNoChanges fails if Changes does not return nil and false.
func checkNoChanges(t *testing.T, what string, a, b impl.Store) {
	t.Helper()
	if got, ok := impl.Changes(a, b); ok || got != nil {
		t.Errorf("%s: Changes = %v, %t", what, got, ok)
	}
}

func TestChanges(t *testing.T) {
	c, outs := chain(4), outputs(2)
	text, tree, out := objReg(c[0]), objReg(c[1]), objReg(c[2])
	s := made(rooted(storeOf(c[:3]...), c[0]), c[2])
	root, unroot := nameReg(impl.RgRoot, nameOf(c[0])), nameReg(impl.RgUnroot, nameOf(c[0]))
	real, unreal := madeReg(impl.RgReal, c[2]), madeReg(impl.RgUnreal, c[2])
	gone := func(o impl.Obj) impl.Reg { return nameReg(impl.RgGone, nameOf(o)) }
	checkListed(t, "nothing", impl.Store{}, impl.Store{})
	checkListed(t, "the same", s, s)
	checkListed(t, "empty slices", impl.Store{}, impl.Store{Objs: []impl.Obj{}, Roots: [][]byte{}, Reals: []impl.Real{}})
	checkListed(t, "from nothing", impl.Store{}, s, text, tree, out, real, root)
	checkListed(t, "to nothing", s, impl.Store{}, unroot, unreal, gone(c[2]), gone(c[1]), gone(c[0]))
	checkListed(t, "one object more", s, made(rooted(storeOf(c...), c[0]), c[2]), objReg(c[3]))
	checkListed(t, "another root", s, rooted(s, c[2]), nameReg(impl.RgRoot, nameOf(c[2])), unroot)
	checkListed(t, "no root", s, rooted(s), unroot)
	checkListed(t, "no realisation", s, made(s), unreal)
	checkListed(t, "a realisation", made(s), s, real)
	checkListed(t, "all is different", s, made(rooted(storeOf(outs[0]), outs[0]), outs[0]),
		objReg(outs[0]), madeReg(impl.RgReal, outs[0]), nameReg(impl.RgRoot, nameOf(outs[0])), unroot, unreal, gone(c[2]), gone(c[1]), gone(c[0]))
	l := storeOf(outs...).Objs
	checkListed(t, "a root remains", s, rooted(storeOf(append(c[:1:1], outs...)...), c[0]), objReg(l[0]), objReg(l[1]), unreal, gone(c[2]), gone(c[1]))
}

// The records of one item are in order, and those of the items are, too.
func TestChangesOfManyOfEachItem(t *testing.T) {
	l := outputs(24)
	a, b := made(rooted(storeOf(l[:12]...), l[:12]...), l[:12]...), made(rooted(storeOf(l[12:]...), l[12:]...), l[12:]...)
	regs, ok := checkChanges(t, "12 of each", a, b)
	if !ok || len(regs) != 72 {
		t.Fatalf("Changes = %v, %t", regs, ok)
	}
	for item, kind := range []int{impl.RgObj, impl.RgReal, impl.RgRoot, impl.RgUnroot, impl.RgUnreal, impl.RgGone} {
		part := regs[12*item : 12*item+12]
		for i, r := range part {
			if r.Kind != kind {
				t.Fatalf("record %d has Kind %d", 12*item+i, r.Kind)
			}
		}
		inOrder := slices.IsSortedFunc(part, func(r, other impl.Reg) int {
			return bytes.Compare(keyOf(r), keyOf(other))
		})
		if kind == impl.RgGone {
			// None refers to another one: their dependency order is the order by name.
			slices.Reverse(part)
			inOrder = slices.IsSortedFunc(part, func(r, other impl.Reg) int { return bytes.Compare(r.Name, other.Name) })
		}
		if !inOrder {
			t.Errorf("the records of Kind %d are not in order: %v", kind, part)
		}
	}
}

// keyOf returns that by which the records of one item are in order.
func keyOf(r impl.Reg) []byte {
	return slices.Concat(r.Obj.Name, r.Real.Drv, r.Real.Out, r.Name)
}

// linked makes outputs, ascending by name, each of which refers to those at these places.
func linked(refs ...[]int) []impl.Obj {
	l := storeOf(outputs(len(refs))...).Objs
	for i, places := range refs {
		var names []string
		for _, place := range places {
			names = append(names, nameOf(l[place]))
		}
		l[i].Tree, l[i].Refs = dir("n", file(strings.Join(names, "-"))), texts(sorted(names)...)
	}
	return l
}

// order tells which objects refer to which, by their places in the order of their names, and their dependency order.
type order struct {
	refs  [][]int
	taken []int
}

func orders() map[string]order {
	return map[string]order{
		"no references":                      {[][]int{{}, {}, {}, {}}, []int{0, 1, 2, 3}},
		"each to the one before":             {[][]int{{}, {0}, {1}, {2}}, []int{0, 1, 2, 3}},
		"each to the one behind":             {[][]int{{1}, {2}, {3}, {}}, []int{3, 2, 1, 0}},
		"the first to the last":              {[][]int{{3}, {}, {1}, {}}, []int{1, 2, 3, 0}},
		"the first to the second":            {[][]int{{1}, {}, {}, {}}, []int{1, 2, 3, 0}},
		"the second to the third":            {[][]int{{}, {2}, {}, {}}, []int{0, 2, 3, 1}},
		"two wait for the last":              {[][]int{{3}, {3}, {}, {}}, []int{2, 3, 0, 1}},
		"the first waits for one that waits": {[][]int{{1}, {3}, {}, {}}, []int{2, 3, 1, 0}},
		"the second waits for one that does": {[][]int{{3}, {0}, {}, {}}, []int{2, 3, 0, 1}},
		"all but the last":                   {[][]int{{1, 2, 3}, {2, 3}, {3}, {}}, []int{3, 2, 1, 0}},
		"a diamond":                          {[][]int{{1, 2}, {3}, {3}, {}}, []int{3, 1, 2, 0}},
		"a diamond, the other way":           {[][]int{{2}, {}, {1}, {0, 2}}, []int{1, 2, 0, 3}},
		"one of two is taken":                {[][]int{{1, 4}, {}, {0}, {1}, {}}, []int{1, 3, 4, 0, 2}},
		"three traversals":                   {[][]int{{2}, {}, {4}, {2}, {}, {3}}, []int{1, 4, 2, 3, 5, 0}},
	}
}

// The dependency order comes from repeated traversals: what is taken counts at once, and none is begun before its end.
func TestChangesInDependencyOrder(t *testing.T) {
	for what, x := range orders() {
		l := linked(x.refs...)
		var more, gone []impl.Reg
		for _, i := range x.taken {
			more, gone = append(more, objReg(l[i])), append(gone, nameReg(impl.RgGone, nameOf(l[i])))
		}
		slices.Reverse(gone)
		checkListed(t, what, impl.Store{}, storeOf(l...), more...)
		checkListed(t, what+", to nothing", storeOf(l...), impl.Store{}, gone...)
		other := rooted(storeOf(numbered(2)...), numbered(1)...)
		with := rooted(storeOf(append(numbered(2), l...)...), numbered(1)...)
		checkListed(t, what+", beside others", other, with, more...)
		checkListed(t, what+", to others", with, other, gone...)
	}
}

// foursomes produces four objects in every way in which they can refer to each other without a circle.
func foursomes() iter.Seq2[int, []impl.Obj] {
	return func(yield func(int, []impl.Obj) bool) {
		for code := range 1 << 12 {
			refs := make([][]int, 4)
			bit := 0
			for i := range refs {
				for k := range refs {
					if i != k {
						if code>>bit&1 > 0 {
							refs[i] = append(refs[i], k)
						}
						bit++
					}
				}
			}
			l := linked(refs...)
			if impl.StoreOk(storeOf(l...)) && !yield(code, l) {
				return
			}
		}
	}
}

// Every way in which four objects can refer to each other, and each part of these that may be there before.
func TestChangesOfAllSmallStores(t *testing.T) {
	count := 0
	for code, l := range foursomes() {
		count++
		checkChanges(t, "all", impl.Store{}, storeOf(l...))
		checkChanges(t, "all are gone", storeOf(l...), impl.Store{})
		part := without(l, l[code%4])
		checkChanges(t, "some are there", storeOf(part...), storeOf(l...))
		checkChanges(t, "some are gone", storeOf(l...), storeOf(part...))
	}
	if count != 543 {
		t.Errorf("%d ways instead of 543", count)
	}
}

func TestChangesBetweenAllStores(t *testing.T) {
	stores := validStores()
	c, d := chain(7), diamond()
	stores["another part of a chain"] = made(rooted(storeOf(c[:5]...), c[2]), c[2])
	stores["a diamond without its top"] = rooted(storeOf(d[:3]...), d[:3]...)
	stores["a diamond and a chain"] = made(rooted(storeOf(append(d, c...)...), d[3], c[6]), d[3], c[5])
	stores["other outputs"] = made(rooted(storeOf(append(outputs(3), c[0])...), c[0]), outputs(3)...)
	seen := map[bool]int{}
	for what, a := range stores {
		for which, b := range stores {
			_, ok := checkChanges(t, what+" to "+which, a, b)
			seen[ok]++
		}
	}
	if seen[true] < 200 || seen[false] < 50 {
		t.Fatal("too few of one sort:", seen)
	}
}

func TestChangesBetweenRandomStores(t *testing.T) {
	random := rand.New(rand.NewSource(83))
	kinds, seen := map[int]int{}, map[bool]int{}
	for range 250 {
		a := randomStore(random)
		b := randomVariant(random, a)
		if !validStore(b) {
			t.Fatalf("the variant %v is not valid", b)
		}
		regs, ok := checkChanges(t, "at random", a, b)
		seen[ok]++
		for _, r := range regs {
			kinds[r.Kind]++
		}
		checkChanges(t, "at random, back", b, a)
	}
	if seen[true] < 100 || seen[false] < 10 || len(kinds) != 6 || slices.Min([]int{kinds[0], kinds[1], kinds[2], kinds[3], kinds[4], kinds[5]}) < 50 {
		t.Fatal("too few of one sort:", seen, kinds)
	}
}

// An object with the same name that is not equal in both.
func TestChangesOfUnequalObjects(t *testing.T) {
	a, b := textOf("a"), textOf("b")
	data := nameOf(a) + nameOf(b)
	text := func(refs ...string) impl.Store { return rooted(storeOf(a, b, textOf(data, refs...)), a) }
	tree := func(refs ...string) impl.Store { return storeOf(a, b, treeOf(dir("x", link(data)), refs...)) }
	out := func(t impl.Tree, refs ...string) impl.Store {
		o := outOf(drvName(0), "out", t, refs...)
		return made(storeOf(a, b, o), o)
	}
	for what, x := range map[string][2]impl.Store{
		"one reference and none":      {text(nameOf(a)), text()},
		"another reference":           {text(nameOf(a)), text(nameOf(b))},
		"one reference and two":       {text(nameOf(a)), text(nameOf(a), nameOf(b))},
		"the references of a tree":    {tree(), tree(nameOf(b))},
		"the tree of an output":       {out(file("x")), out(file("y"))},
		"the Kind of its tree":        {out(file("x")), out(program("x"))},
		"the names of its tree":       {out(dir("a", file("x"))), out(dir("b", file("x")))},
		"the references of an out":    {out(file(data), nameOf(a)), out(file(data))},
		"the tree and the references": {out(file(data), nameOf(a)), out(file("x"))},
	} {
		for _, more := range [][]impl.Obj{nil, numbered(3)} {
			one, other := x[0], x[1]
			other.Objs = storeOf(append(slices.Clone(other.Objs), more...)...).Objs
			checkChanges(t, what, one, other)
			checkNoChanges(t, what, one, other)
			checkNoChanges(t, what+", exchanged", other, one)
			checkListed(t, what+", the same", one, one)
		}
	}
}

// On the way from a to b, there are the objects of both.
func TestChangesAtLimits(t *testing.T) {
	for _, kind := range []string{"texts", "outputs"} {
		l := numbered(30)
		if kind == "outputs" {
			l = outputs(30)
		}
		for common := 0; common <= 4; common++ {
			for more := 8; more <= 12; more++ {
				a, b := storeOf(l[:12]...), storeOf(l[12-common:12+more]...)
				if kind == "outputs" {
					a, b = made(rooted(a, l[:12]...), l[:12]...), made(rooted(b, l[12:12+more]...), l[12-common:12+more]...)
				}
				if _, ok := checkChanges(t, kind, a, b); !ok {
					t.Errorf("%d %s and %d others: Changes is false", 12, kind, more)
				}
			}
		}
		for n := 10; n <= 14; n++ {
			a, b := storeOf(l[:14]...), storeOf(l[14:14+n]...)
			if kind == "outputs" {
				a, b = made(a, l[:14]...), made(b, l[14:14+n]...)
			}
			if _, ok := checkChanges(t, kind, a, b); ok != (14+n <= 24) {
				t.Errorf("14 %s and %d others: %t", kind, n, ok)
			}
			if _, ok := checkChanges(t, kind, b, a); ok != (14+n <= 24) {
				t.Errorf("%d %s and 14 others: %t", n, kind, ok)
			}
		}
	}
	full := storeOf(numbered(24)...)
	checkNoChanges(t, "24 objects and another one", full, storeOf(textOf("a")))
	checkNoChanges(t, "one of 24 is another one", full, storeOf(append(numbered(23), textOf("a"))...))
	checkListed(t, "one of 24 is gone", full, storeOf(numbered(23)...), nameReg(impl.RgGone, nameOf(numbered(24)[23])))
	checkListed(t, "24 objects, one more root", full, rooted(full, numbered(1)...), nameReg(impl.RgRoot, nameOf(numbered(1)[0])))
	for n := range 25 {
		regs, ok := checkChanges(t, strconv.Itoa(n)+" objects", impl.Store{}, made(rooted(storeOf(outputs(n)...), outputs(n)...), outputs(n)...))
		if !ok || len(regs) != 3*n {
			t.Errorf("%d objects: %d records, %t", n, len(regs), ok)
		}
	}
}

func TestChangesOfInvalidStores(t *testing.T) {
	stores := []impl.Store{{}, storeOf(numbered(24)...), fullStore()}
	for what, broken := range brokenStores() {
		for _, s := range append(stores, broken) {
			checkNoChanges(t, what+", first", broken, s)
			checkNoChanges(t, what+", second", s, broken)
		}
	}
}

// The name of an output follows from Drv and Out: a realisation of it that has another Path makes the store invalid.
func TestChangesOfAnotherPath(t *testing.T) {
	outs := outputs(4)
	a := made(storeOf(outs...), outs...)
	for i := range outs {
		for k := range outs {
			b := made(storeOf(outs...), outs...)
			b.Reals[i].Path = a.Reals[k].Path
			if i == k {
				checkListed(t, "the same Path", a, b)
				continue
			}
			checkNoChanges(t, "another Path", a, b)
			checkNoChanges(t, "another Path, exchanged", b, a)
		}
	}
}

func TestChangesMemory(t *testing.T) {
	random := rand.New(rand.NewSource(84))
	stores := []impl.Store{{}, fullStore(), filledJournal().Base, headOf(filledJournal())}
	for range 12 {
		stores = append(stores, randomStore(random), randomVariant(random, stores[len(stores)-1]))
	}
	stores = append(stores, brokenStores()["25 objects"], brokenStores()["a circle of 2"])
	for i, a := range stores {
		for k, b := range stores {
			if (i+k)%3 == 0 {
				checkCall(t, "Changes", impl.Changes, a, b)
			}
		}
	}
}
