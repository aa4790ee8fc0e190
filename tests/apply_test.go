package tests

import (
	"math/rand"
	"slices"
	"strconv"
	"testing"

	"loop.example/g00538/impl"
)

// The tests of promise 10, as far as it speaks of single records: one that
// cannot be applied changes nothing, and applying one twice has the effect of
// applying it once.

// checkApply fails if Apply does not return what the document says.
func checkApply(t *testing.T, what string, s impl.Store, r impl.Reg) (impl.Store, bool) {
	t.Helper()
	results := checkCall(t, what+": Apply", impl.Apply, s, r)
	got, ok := results[0].(impl.Store), results[1].(bool)
	want, wantOk := applied(s, r)
	if ok != wantOk || !sameStore(got, want) {
		t.Fatalf("%s: Apply(%v, %v) = %v, %t instead of %v, %t", what, s, r, got, ok, want, wantOk)
	}
	if !ok {
		return got, false
	}
	if !impl.StoreOk(got) {
		t.Fatalf("%s: Apply(%v, %v) = %v, which is not valid", what, s, r, got)
	}
	if again, ok := impl.Apply(got, r); !ok || !sameStore(again, got) {
		t.Fatalf("%s: Apply(%v, %v) again = %v, %t", what, got, r, again, ok)
	}
	return got, true
}

// checkEffect fails if Apply does not return that store and true.
func checkEffect(t *testing.T, what string, s impl.Store, r impl.Reg, want impl.Store) {
	t.Helper()
	if got, ok := checkApply(t, what, s, r); !ok || !sameStore(got, want) {
		t.Errorf("%s: Apply = %v, %t", what, got, ok)
	}
}

// checkNoEffect fails if Apply does not return the same store and true.
func checkNoEffect(t *testing.T, what string, s impl.Store, r impl.Reg) {
	t.Helper()
	checkEffect(t, what, s, r, s)
}

// checkMisfit fails if Apply does not return the same store and false.
func checkMisfit(t *testing.T, what string, s impl.Store, r impl.Reg) {
	t.Helper()
	if got, ok := checkApply(t, what, s, r); ok || !sameStore(got, s) {
		t.Errorf("%s: Apply = %v, %t", what, got, ok)
	}
}

func TestApplyObj(t *testing.T) {
	c, outs, four := chain(4), outputs(4), diamond()
	s := made(rooted(storeOf(append(outs, c[:2]...)...), c[1]), outs[0], outs[3])
	with := func(o impl.Obj) impl.Store {
		more := storeOf(append(slices.Clone(s.Objs), o)...)
		more.Roots, more.Reals = s.Roots, s.Reals
		return more
	}
	for what, o := range map[string]impl.Obj{
		"a text":                        textOf("a"),
		"a tree":                        treeOf(sample()),
		"an output":                     outOf(drvName(0), "a", sample()),
		"one that refers to an object":  c[2],
		"one with fewer references":     changed(c[2], func(o *impl.Obj) { o.Refs = nil }),
		"one that refers to an output":  textOf(nameOf(outs[0]), nameOf(outs[0])),
		"one that refers to two":        textOf(nameOf(outs[0])+nameOf(c[0]), nameOf(c[0]), nameOf(outs[0])),
		"one that mentions what is not": textOf(absent()),
		"an output that mentions itself": changed(outOf(drvName(0), "self", dir("")), func(o *impl.Obj) {
			o.Tree = link(string(o.Name))
		}),
	} {
		checkEffect(t, what, s, objReg(o), with(o))
	}
	self := changed(outOf(drvName(0), "self", dir("")), func(o *impl.Obj) { o.Tree, o.Refs = link(string(o.Name)), [][]byte{o.Name} })
	checkMisfit(t, "an output that refers to itself", s, objReg(self))
	checkMisfit(t, "one that refers to what is not", s, objReg(textOf(absent(), absent())))
	checkMisfit(t, "one that refers to what is not there yet", s, objReg(c[3]))
	checkMisfit(t, "one of whose references one is not there", s, objReg(textOf(nameOf(c[0])+absent(), nameOf(c[0]), absent())))
	checkMisfit(t, "one of two is not there", storeOf(four[:2]...), objReg(four[3]))
	checkMisfit(t, "the other of two is not there", storeOf(four[0], four[2]), objReg(four[3]))
	checkEffect(t, "both are there", storeOf(four[:3]...), objReg(four[3]), storeOf(four...))
}

// An object that exists remains as it is, whatever the record says of it.
func TestApplyObjThatExists(t *testing.T) {
	a, b := textOf("a"), textOf("b")
	data := nameOf(a) + nameOf(b) + absent()
	text := textOf(data, nameOf(a))
	out := outOf(drvName(0), "out", dir("n", file(data)), nameOf(a))
	s := made(rooted(storeOf(a, b, text, out), out), out)
	refs := map[string][]string{"none": nil, "the same": {nameOf(a)}, "another": {nameOf(b)}, "one more": {nameOf(a), nameOf(b)}, "one that is absent": {absent()}}
	for _, full := range []bool{false, true} {
		if full {
			s = storeOf(append(s.Objs, numbered(20)...)...)
		}
		for what, l := range refs {
			checkNoEffect(t, "a text, references: "+what, s, objReg(textOf(data, l...)))
			checkNoEffect(t, "an output, references: "+what, s, objReg(outOf(drvName(0), "out", dir("n", file(data)), l...)))
			checkNoEffect(t, "an output with another tree, references: "+what, s, objReg(outOf(drvName(0), "out", link(data), l...)))
		}
		checkNoEffect(t, "an output that refers to itself", s, objReg(outOf(drvName(0), "out", link(nameOf(out)), nameOf(out))))
		for _, o := range s.Objs {
			checkNoEffect(t, "the same", s, objReg(o))
		}
	}
}

func TestApplyAtLimits(t *testing.T) {
	for n := 21; n <= 24; n++ {
		l := outputs(n)
		s := made(rooted(storeOf(l...), l[1], l[20]), l...)
		for _, o := range []impl.Obj{textOf("new"), treeOf(sample()), outOf(zeros, "new", file(nameOf(l[0])), nameOf(l[0]))} {
			if got, ok := checkApply(t, "a new object", s, objReg(o)); ok != (n < 24) || len(got.Objs) != min(n+1, 24) {
				t.Errorf("a new object beside %d: %d, %t", n, len(got.Objs), ok)
			}
		}
		for _, o := range l {
			checkNoEffect(t, "an object that exists", s, objReg(o))
			checkNoEffect(t, "a realisation that exists", s, madeReg(impl.RgReal, o))
			fewer := made(s, slices.DeleteFunc(slices.Clone(l), func(other impl.Obj) bool { return nameOf(o) == nameOf(other) })...)
			checkEffect(t, "one realisation less", s, madeReg(impl.RgUnreal, o), fewer)
			checkEffect(t, "one realisation more", fewer, madeReg(impl.RgReal, o), s)
		}
		more := outputs(25)[24]
		checkMisfit(t, "a realisation more than there are outputs", s, madeReg(impl.RgReal, more))
		for what, r := range map[string]impl.Real{
			"another Path":  {Drv: l[4].From, Out: l[4].Out, Path: l[5].Name},
			"an absent one": {Drv: l[4].From, Out: l[4].Out, Path: []byte(absent())},
		} {
			checkMisfit(t, "replacing by "+what, s, impl.Reg{Kind: impl.RgReal, Real: r})
		}
	}
	full := storeOf(numbered(24)...)
	checkMisfit(t, "without room, and lacking a reference", full, objReg(textOf(absent(), absent())))
	checkEffect(t, "24 roots", rooted(full, numbered(23)...), nameReg(impl.RgRoot, nameOf(numbered(24)[23])), rooted(full, numbered(24)...))
}

func TestApplyReal(t *testing.T) {
	outs := outputs(6)
	text, tree := textOf("a"), treeOf(file("a"))
	s := made(rooted(storeOf(append(outs, text, tree)...), outs[5]), outs[0], outs[3], outs[5])
	for i, o := range outs {
		was := map[int]bool{0: true, 3: true, 5: true}
		was[i] = true
		var l []impl.Obj
		for k := range outs {
			if was[k] {
				l = append(l, outs[k])
			}
		}
		checkEffect(t, "output "+strconv.Itoa(i), s, madeReg(impl.RgReal, o), made(s, l...))
	}
	real := func(drv, out, path []byte) impl.Reg {
		return impl.Reg{Kind: impl.RgReal, Real: impl.Real{Drv: drv, Out: out, Path: path}}
	}
	for i, o := range outs {
		for what, r := range map[string]impl.Reg{
			"an absent Path":             real(o.From, o.Out, []byte(absent())),
			"a text":                     real(o.From, o.Out, text.Name),
			"a tree":                     real(o.From, o.Out, tree.Name),
			"the other output of Drv":    real(o.From, o.Out, outs[i^1].Name),
			"an output of another Drv":   real(o.From, o.Out, outs[(i+2)%6].Name),
			"another Drv":                real(outs[(i+2)%6].From, o.Out, o.Name),
			"an absent Drv":              real([]byte(zeros), o.Out, o.Name),
			"another Out":                real(o.From, outs[i^1].Out, o.Name),
			"an absent Out":              real(o.From, []byte("none"), o.Name),
			"another Drv and Out":        real(outs[(i+3)%6].From, outs[i^1].Out, o.Name),
			"what is not in the store":   madeReg(impl.RgReal, outOf(drvName(5), "out", file(""))),
			"the derivation as its Path": real(o.From, o.Out, o.From),
		} {
			checkMisfit(t, "output "+strconv.Itoa(i)+", "+what, s, r)
			r.Kind = impl.RgUnreal
			checkApply(t, "output "+strconv.Itoa(i)+", "+what, s, r)
		}
	}
}

// What counts of an RgUnreal is Drv and Out: there may be no such Path.
func TestApplyUnreal(t *testing.T) {
	outs := outputs(6)
	all := made(rooted(storeOf(append(outs, textOf("a"))...), outs[1]), outs...)
	for i, o := range outs {
		left := made(all, append(slices.Clone(outs[:i]), outs[i+1:]...)...)
		checkEffect(t, "what is made", all, madeReg(impl.RgUnreal, o), left)
		checkNoEffect(t, "what is not made", left, madeReg(impl.RgUnreal, o))
		for _, path := range []string{absent(), zeros, nameOf(textOf("a")), nameOf(outs[i^1])} {
			r := madeReg(impl.RgUnreal, o)
			r.Real.Path = []byte(path)
			checkEffect(t, "another Path", all, r, left)
			checkNoEffect(t, "another Path of what is not made", left, r)
		}
		for _, r := range []impl.Real{{Drv: []byte(zeros), Out: o.Out, Path: o.Name}, {Drv: o.From, Out: []byte("none"), Path: o.Name}, {Drv: o.From, Out: []byte("ou"), Path: o.Name}} {
			checkNoEffect(t, "another Drv or Out", all, impl.Reg{Kind: impl.RgUnreal, Real: r})
		}
	}
	checkNoEffect(t, "nothing is made", impl.Store{}, madeReg(impl.RgUnreal, outs[0]))
}

func TestApplyRoots(t *testing.T) {
	c := chain(6)
	for n := range len(c) + 1 {
		s := made(rooted(storeOf(c...), c[:n]...), c[2])
		for i, o := range c {
			more := rooted(s, append(slices.Clone(c[:n]), o)...)
			fewer := rooted(s, slices.DeleteFunc(slices.Clone(c[:n]), func(other impl.Obj) bool { return nameOf(o) == nameOf(other) })...)
			what := "root " + strconv.Itoa(i) + " beside " + strconv.Itoa(n)
			checkEffect(t, what, s, nameReg(impl.RgRoot, nameOf(o)), more)
			checkEffect(t, "not "+what, s, nameReg(impl.RgUnroot, nameOf(o)), fewer)
		}
		for _, name := range []string{absent(), zeros, string(c[2].From)} {
			checkMisfit(t, "a root that is no object", s, nameReg(impl.RgRoot, name))
			checkNoEffect(t, "not a root that is no object", s, nameReg(impl.RgUnroot, name))
		}
	}
}

func TestApplyGone(t *testing.T) {
	c, d, outs := chain(4), diamond(), outputs(3)
	all := slices.Concat(c, d, outs)
	s := made(rooted(storeOf(all...), outs[0]), outs[1])
	gone := func(o impl.Obj) impl.Store {
		left := storeOf(without(all, o)...)
		left.Roots, left.Reals = s.Roots, s.Reals
		return left
	}
	checkEffect(t, "the end of a chain", s, nameReg(impl.RgGone, nameOf(c[3])), gone(c[3]))
	checkEffect(t, "the top of a diamond", s, nameReg(impl.RgGone, nameOf(d[3])), gone(d[3]))
	checkEffect(t, "an output", s, nameReg(impl.RgGone, nameOf(outs[2])), gone(outs[2]))
	for i, o := range slices.Concat(c[:3], d[:3]) {
		checkMisfit(t, "what is referred to, "+strconv.Itoa(i), s, nameReg(impl.RgGone, nameOf(o)))
	}
	checkMisfit(t, "a root", s, nameReg(impl.RgGone, nameOf(outs[0])))
	checkMisfit(t, "what is made", s, nameReg(impl.RgGone, nameOf(outs[1])))
	for _, name := range []string{absent(), zeros, string(outs[1].From)} {
		checkNoEffect(t, "no object", s, nameReg(impl.RgGone, name))
	}
	// A mention is no reference, and one root, realisation or user is enough.
	a := textOf("a")
	mention := textOf("see " + nameOf(a))
	checkEffect(t, "what is mentioned", storeOf(a, mention), nameReg(impl.RgGone, nameOf(a)), storeOf(mention))
	l, outputs := numbered(24), outputs(24)
	for i := range 24 {
		checkMisfit(t, "one root of 24", rooted(storeOf(l...), l[i]), nameReg(impl.RgGone, nameOf(l[i])))
		checkMisfit(t, "one realisation", made(storeOf(outputs...), outputs[i]), nameReg(impl.RgGone, nameOf(outputs[i])))
	}
	for i := range 23 {
		user := treeOf(link(nameOf(l[i])), nameOf(l[i]))
		checkMisfit(t, "one user", storeOf(append(l[:23:23], user)...), nameReg(impl.RgGone, nameOf(l[i])))
	}
}

// Every record that follows from a store, to that store and to others.
func TestApplyToEveryStore(t *testing.T) {
	for what, s := range validStores() {
		for i, o := range s.Objs {
			if i%5 > 0 && len(s.Objs) > 9 {
				continue
			}
			for kind := impl.RgRoot; kind <= impl.RgGone; kind++ {
				if kind != impl.RgUnreal {
					checkApply(t, what, s, nameReg(kind, nameOf(o)))
				}
			}
			if o.Kind == impl.ObOut {
				checkApply(t, what, s, madeReg(impl.RgReal, o))
				checkApply(t, what, s, madeReg(impl.RgUnreal, o))
			}
		}
		for _, r := range eachReg() {
			checkApply(t, what, s, r)
		}
	}
}

func TestApplyOfEveryObject(t *testing.T) {
	s := storeOf(append(numbered(2), textOf("a"))...)
	for what, o := range validObjs() {
		checkApply(t, what, s, objReg(o))
		checkApply(t, what, impl.Store{}, objReg(o))
	}
}

func TestApplyRandomRecords(t *testing.T) {
	random := rand.New(rand.NewSource(82))
	seen := map[[2]int]int{}
	for range 60 {
		s := randomStore(random)
		for range 25 {
			r := randomReg(random, s)
			more, ok := checkApply(t, "at random", s, r)
			if s = more; ok {
				seen[[2]int{r.Kind, 1}]++
			} else {
				seen[[2]int{r.Kind, 0}]++
			}
		}
	}
	for _, kind := range []int{impl.RgObj, impl.RgReal, impl.RgRoot, impl.RgGone} {
		if seen[[2]int{kind, 0}] < 20 || seen[[2]int{kind, 1}] < 20 {
			t.Fatal("too few of one sort:", seen)
		}
	}
}

// The zero value and false, if the store or the record is not valid, whatever else applies.
func TestApplyOfInvalidArguments(t *testing.T) {
	for what, s := range brokenStores() {
		for _, r := range append(eachReg(), impl.Reg{}, nameReg(impl.RgGone, absent()), nameReg(impl.RgRoot, absent()), nameReg(9, zeros), madeReg(impl.RgReal, outputs(1)[0])) {
			if got, ok := impl.Apply(s, r); ok || !sameStore(got, impl.Store{}) {
				t.Errorf("%s: Apply of %v = %.200v, %t", what, r, got, ok)
			}
		}
	}
	stores := map[string]impl.Store{"empty": {}, "some": made(rooted(storeOf(chain(4)...), chain(1)...), chain(3)[2]), "full": fullStore()}
	for what, r := range brokenRegs() {
		for which, s := range stores {
			if got, ok := impl.Apply(s, r); ok || !sameStore(got, impl.Store{}) {
				t.Errorf("%s, %s: Apply = %.200v, %t", what, which, got, ok)
			}
		}
	}
}
