package tests

import (
	"bytes"
	"math/rand"
	"slices"
	"strconv"
	"strings"

	"loop.example/g00538/impl"
)

// The records and journals with which the tests of chapter 8 work, and what the
// document says of them, written once more in the plainest way.

func objReg(o impl.Obj) impl.Reg { return impl.Reg{Kind: impl.RgObj, Obj: o} }

// madeReg is a record of that Kind of the realisation of an output.
func madeReg(kind int, o impl.Obj) impl.Reg {
	return impl.Reg{Kind: kind, Real: impl.Real{Drv: o.From, Out: o.Out, Path: o.Name}}
}

func nameReg(kind int, name string) impl.Reg { return impl.Reg{Kind: kind, Name: []byte(name)} }

// journalOf makes a journal of which nothing is safe.
func journalOf(base impl.Store, regs ...impl.Reg) impl.Journal {
	return impl.Journal{Base: base, Regs: regs}
}

func safe(j impl.Journal, n int) impl.Journal {
	j.Safe = n
	return j
}

// eachReg has one valid record of each Kind, and more of those with an object; in this order, all of them can be applied to the empty store.
func eachReg() []impl.Reg {
	c := chain(4)
	return []impl.Reg{
		objReg(c[0]), objReg(c[1]), objReg(c[2]), objReg(c[3]),
		madeReg(impl.RgReal, c[2]), nameReg(impl.RgRoot, nameOf(c[3])), nameReg(impl.RgUnroot, nameOf(c[3])), madeReg(impl.RgUnreal, c[2]), nameReg(impl.RgGone, nameOf(c[3])),
	}
}

func validRegs() map[string]impl.Reg {
	m := map[string]impl.Reg{}
	for i, r := range eachReg() {
		m["record "+strconv.Itoa(i)] = r
	}
	for what, o := range validObjs() {
		m["an object: "+what] = objReg(o)
	}
	for kind := impl.RgReal; kind <= impl.RgGone; kind++ {
		which := "Kind " + strconv.Itoa(kind) + ", "
		for _, name := range overlapping() {
			if kind == impl.RgReal || kind == impl.RgUnreal {
				m[which+"Drv "+name] = impl.Reg{Kind: kind, Real: impl.Real{Drv: []byte(name), Out: []byte("out"), Path: []byte(zeros)}}
				m[which+"Path "+name] = impl.Reg{Kind: kind, Real: impl.Real{Drv: []byte(name), Out: []byte("-.z"), Path: []byte(name)}}
			} else {
				m[which+name] = nameReg(kind, name)
			}
		}
	}
	for what, r := range inOrder(m) {
		if strings.HasPrefix(what, "record") {
			m[what+", empty slices"] = emptied(r)
		}
	}
	return m
}

// emptied returns r in which what is nil is an empty slice.
func emptied(r impl.Reg) impl.Reg {
	for _, b := range []*[]byte{&r.Obj.Name, &r.Obj.Tree.Data, &r.Obj.From, &r.Obj.Out, &r.Real.Drv, &r.Real.Out, &r.Real.Path, &r.Name} {
		if *b == nil {
			*b = []byte{}
		}
	}
	if r.Obj.Refs == nil {
		r.Obj.Refs = [][]byte{}
	}
	if r.Obj.Tree.Names == nil {
		r.Obj.Tree.Names, r.Obj.Tree.Kids = [][]byte{}, []impl.Tree{}
	}
	return r
}

// brokenRegs are records that are not valid, each in one way.
func brokenRegs() map[string]impl.Reg {
	m := map[string]impl.Reg{"the zero value": {}}
	for what, o := range brokenObjs() {
		m["an object: "+what] = objReg(o)
	}
	for kind := impl.RgReal; kind <= impl.RgGone; kind++ {
		m["only Kind "+strconv.Itoa(kind)] = impl.Reg{Kind: kind}
		if kind == impl.RgReal || kind == impl.RgUnreal {
			addBrokenRealRegs(m, kind)
			continue
		}
		for _, s := range noNames {
			m["Kind "+strconv.Itoa(kind)+", Name "+strconv.Quote(s)] = nameReg(kind, s)
		}
	}
	for i, r := range eachReg() {
		for what, change := range strayRegFields(r.Kind) {
			with := r
			change(&with)
			m["record "+strconv.Itoa(i)+", "+what] = with
		}
		for _, kind := range []int{-1, 6, 7, 255, 256, 257, -256, 1 << 32} {
			with := r
			with.Kind = kind
			m["record "+strconv.Itoa(i)+", Kind "+strconv.Itoa(kind)] = with
		}
	}
	return m
}

func addBrokenRealRegs(m map[string]impl.Reg, kind int) {
	good := madeReg(kind, outputs(1)[0])
	which := "Kind " + strconv.Itoa(kind) + ", "
	for _, s := range noNames {
		drv, path := good, good
		drv.Real.Drv, path.Real.Path = []byte(s), []byte(s)
		m[which+"Drv "+strconv.Quote(s)], m[which+"Path "+strconv.Quote(s)] = drv, path
	}
	for _, s := range noEntries {
		out := good
		out.Real.Out = []byte(s)
		m[which+"Out "+strconv.Quote(s)] = out
	}
	exchanged := good
	exchanged.Real.Drv, exchanged.Real.Out = good.Real.Out, good.Real.Drv
	m[which+"Drv and Out exchanged"] = exchanged
}

// strayRegFields fill a field that must be zero in a record of that Kind.
func strayRegFields(kind int) map[string]func(r *impl.Reg) {
	m := map[string]func(r *impl.Reg){}
	if kind <= impl.RgReal || kind == impl.RgUnreal {
		m["Name"] = func(r *impl.Reg) { r.Name = []byte(zeros) }
		m["Name that is none"] = func(r *impl.Reg) { r.Name = []byte{0} }
	}
	if kind != impl.RgReal && kind != impl.RgUnreal {
		m["Drv"] = func(r *impl.Reg) { r.Real.Drv = []byte(zeros) }
		m["Out"] = func(r *impl.Reg) { r.Real.Out = []byte("out") }
		m["Path"] = func(r *impl.Reg) { r.Real.Path = []byte(zeros) }
		m["Real"] = func(r *impl.Reg) { r.Real = madeReg(0, outputs(1)[0]).Real }
	}
	if kind != impl.RgObj {
		m["Obj"] = func(r *impl.Reg) { r.Obj = chain(3)[2] }
		m["the name of an object"] = func(r *impl.Reg) { r.Obj.Name = []byte(zeros) }
		m["one byte as name"] = func(r *impl.Reg) { r.Obj.Name = []byte{0} }
		m["the Kind of a tree"] = func(r *impl.Reg) { r.Obj.Kind = impl.ObTree }
		m["the Kind of an output"] = func(r *impl.Reg) { r.Obj.Kind = impl.ObOut }
		m["a negative Kind"] = func(r *impl.Reg) { r.Obj.Kind = -1 }
		m["Refs"] = func(r *impl.Reg) { r.Obj.Refs = texts(zeros) }
		m["an empty reference"] = func(r *impl.Reg) { r.Obj.Refs = [][]byte{nil} }
		m["From"] = func(r *impl.Reg) { r.Obj.From = []byte(zeros) }
		m["the Out of an object"] = func(r *impl.Reg) { r.Obj.Out = []byte("out") }
		m["From and Out"] = func(r *impl.Reg) { r.Obj.From, r.Obj.Out = []byte(zeros), []byte("out") }
		m["Data"] = func(r *impl.Reg) { r.Obj.Tree.Data = []byte("x") }
		m["a Kind of its tree"] = func(r *impl.Reg) { r.Obj.Tree.Kind = impl.KdRun }
		m["a directory"] = func(r *impl.Reg) { r.Obj.Tree = dir("") }
		m["a negative Kind of its tree"] = func(r *impl.Reg) { r.Obj.Tree.Kind = -1 }
		m["Names"] = func(r *impl.Reg) { r.Obj.Tree.Names = words("a") }
		m["an empty name of a kid"] = func(r *impl.Reg) { r.Obj.Tree.Names = [][]byte{nil} }
		m["Kids"] = func(r *impl.Reg) { r.Obj.Tree.Kids = []impl.Tree{{}} }
		m["a cyclic tree"] = func(r *impl.Reg) { r.Obj.Tree = cyclic(1) }
		m["a text without its name"] = func(r *impl.Reg) { r.Obj.Tree = file("a") }
	}
	return m
}

// filledJournal has records of all Kinds above a store in which there is something, and some of them are safe.
func filledJournal() impl.Journal {
	outs, user := outputs(3), textOf("uses "+nameOf(numbered(1)[0]), nameOf(numbered(1)[0]))
	base := made(rooted(storeOf(append(append(numbered(2), user), outs...)...), outs[0]), outs[1])
	return safe(journalOf(base, eachReg()...), 5)
}

// toggling makes n records by which a text is a root and is no root, in turn.
func toggling(o impl.Obj, n int) []impl.Reg {
	var l []impl.Reg
	for i := range n {
		l = append(l, nameReg([]int{impl.RgRoot, impl.RgUnroot}[i%2], nameOf(o)))
	}
	return l
}

func validJournals() map[string]impl.Journal {
	a := textOf("a")
	each, fill := eachReg(), filledJournal()
	m := map[string]impl.Journal{
		"the zero value":         {},
		"empty slices":           {Base: impl.Store{Objs: []impl.Obj{}, Roots: [][]byte{}, Reals: []impl.Real{}}, Regs: []impl.Reg{}},
		"all Kinds":              fill,
		"200 records":            journalOf(storeOf(a), toggling(a, 200)...),
		"199 records":            safe(journalOf(storeOf(a), toggling(a, 199)...), 199),
		"200 records, all safe":  safe(journalOf(storeOf(a), toggling(a, 200)...), 200),
		"the same record twice":  journalOf(impl.Store{}, slices.Repeat([]impl.Reg{objReg(a)}, 2)...),
		"the same record, often": safe(journalOf(impl.Store{}, slices.Repeat([]impl.Reg{objReg(a)}, 60)...), 7),
		"objects that replace":   journalOf(storeOf(numbered(24)...), nameReg(impl.RgGone, nameOf(numbered(1)[0])), objReg(a)),
		"one object too many":    journalOf(storeOf(numbered(23)...), objReg(a), nameReg(impl.RgGone, nameOf(a)), objReg(textOf("b"))),
		"empty lists in records": journalOf(impl.Store{}, emptied(each[0]), emptied(each[1]), emptied(nameReg(impl.RgRoot, nameOf(chain(1)[0])))),
	}
	for n := range len(fill.Regs) + 1 {
		m["safe: "+strconv.Itoa(n)] = safe(fill, n)
		m["records: "+strconv.Itoa(n)] = safe(journalOf(impl.Store{}, each[:n]...), n/2)
	}
	for what, s := range validStores() {
		m["a base: "+what] = journalOf(s)
		regs := recordsFor(s)
		m["records for: "+what] = safe(journalOf(impl.Store{}, regs...), len(regs)/2)
	}
	return m
}

// recordsFor makes records that lead from the empty store to s.
func recordsFor(s impl.Store) []impl.Reg {
	l, _ := changesOf(impl.Store{}, s)
	return l
}

// brokenJournals are journals that are not valid, each in one way.
func brokenJournals() map[string]impl.Journal {
	m := map[string]impl.Journal{}
	for what, s := range brokenStores() {
		m["a base: "+what] = journalOf(s)
	}
	fill, n := filledJournal(), 0
	for what, r := range inOrder(brokenRegs()) {
		// They are too many to be tried at each place.
		at := []int{0, len(fill.Regs) / 2, len(fill.Regs)}[n%3]
		m["a record: "+what] = journalOf(fill.Base, slices.Insert(slices.Clone(fill.Regs), at, r)...)
		n++
	}
	for what, r := range misfits() {
		for at := range len(fill.Regs) + 1 {
			m["record "+strconv.Itoa(at)+": "+what] = safe(journalOf(fill.Base, slices.Insert(slices.Clone(fill.Regs), at, r)...), at%3)
		}
	}
	for i := 1; i <= 5; i++ {
		m["record "+strconv.Itoa(i)+" alone"] = journalOf(impl.Store{}, eachReg()[i])
	}
	for _, safeOnes := range []int{-1 << 63, -1 << 32, -2, -1, 10, 11, 256, 1 << 32, 1<<63 - 1} {
		m["safe: "+strconv.Itoa(safeOnes)] = safe(fill, safeOnes)
	}
	m["one safe, no records"] = safe(journalOf(fill.Base), 1)
	m["-1 safe, no records"] = safe(journalOf(fill.Base), -1)
	a := textOf("a")
	for _, n := range []int{201, 202, 256, 400} {
		m[strconv.Itoa(n)+" records"] = journalOf(storeOf(a), toggling(a, n)...)
		m[strconv.Itoa(n)+" records, all safe"] = safe(journalOf(storeOf(a), toggling(a, n)...), n)
		m[strconv.Itoa(n)+" records, 200 safe"] = safe(journalOf(storeOf(a), toggling(a, n)...), 200)
	}
	return m
}

// misfits are valid records that cannot be applied anywhere in filledJournal.
func misfits() map[string]impl.Reg {
	outs, self := outputs(4), outOf(drvName(9), "self", impl.Tree{})
	self.Tree, self.Refs = link(nameOf(self)), texts(nameOf(self))
	return map[string]impl.Reg{
		"an object that lacks one":        objReg(textOf("of "+absent(), absent())),
		"an object that refers to itself": objReg(self),
		"a realisation of no object":      madeReg(impl.RgReal, outs[3]),
		"a realisation of a text":         {Kind: impl.RgReal, Real: impl.Real{Drv: outs[0].From, Out: outs[0].Out, Path: numbered(1)[0].Name}},
		"a root that is no object":        nameReg(impl.RgRoot, absent()),
		"a root is gone":                  nameReg(impl.RgGone, nameOf(outs[0])),
		"what is made is gone":            nameReg(impl.RgGone, nameOf(outs[1])),
		"what is referred to is gone":     nameReg(impl.RgGone, nameOf(numbered(1)[0])),
	}
}

// The reference.

func sameReg(a, b impl.Reg) bool {
	return a.Kind == b.Kind && sameObj(a.Obj, b.Obj) && sameReal(a.Real, b.Real) && bytes.Equal(a.Name, b.Name)
}

func sameRegs(a, b []impl.Reg) bool { return slices.EqualFunc(a, b, sameReg) }

func sameJournal(a, b impl.Journal) bool {
	return sameStore(a.Base, b.Base) && sameRegs(a.Regs, b.Regs) && a.Safe == b.Safe
}

func validReg(r impl.Reg) bool {
	noObj, noReal, noName := sameObj(r.Obj, impl.Obj{}), sameReal(r.Real, impl.Real{}), len(r.Name) == 0
	switch r.Kind {
	case 0:
		return validObj(r.Obj) && noReal && noName
	case 1, 4:
		return noObj && isName(string(r.Real.Drv)) && isEntry(r.Real.Out) && isName(string(r.Real.Path)) && noName
	case 2, 3, 5:
		return noObj && noReal && isName(string(r.Name))
	}
	return false
}

// applied returns what the document says of Apply.
func applied(s impl.Store, r impl.Reg) (impl.Store, bool) {
	if !validStore(s) || !validReg(r) {
		return impl.Store{}, false
	}
	if _, exists := objOf(s, nameOf(r.Obj)); r.Kind == impl.RgObj && !exists && len(s.Objs) >= 24 {
		return s, false
	}
	more := effectOf(s, r)
	if !validStore(more) {
		return s, false
	}
	return more, true
}

// effectOf returns what becomes of s, valid or not.
func effectOf(s impl.Store, r impl.Reg) impl.Store {
	objs := map[string]impl.Obj{}
	for _, o := range s.Objs {
		objs[nameOf(o)] = o
	}
	roots, reals := strs(s.Roots), []impl.Real{}
	for _, other := range s.Reals {
		if (r.Kind != impl.RgReal && r.Kind != impl.RgUnreal) || byOutput(other, r.Real) != 0 {
			reals = append(reals, other)
		}
	}
	switch r.Kind {
	case impl.RgObj:
		if _, exists := objs[nameOf(r.Obj)]; !exists {
			objs[nameOf(r.Obj)] = r.Obj
		}
	case impl.RgReal:
		reals = append(reals, r.Real)
	case impl.RgRoot:
		roots = append(roots, string(r.Name))
	case impl.RgUnroot:
		roots = slices.DeleteFunc(roots, func(name string) bool { return name == string(r.Name) })
	case impl.RgGone:
		delete(objs, string(r.Name))
	}
	var left []impl.Obj
	for _, o := range objs {
		left = append(left, o)
	}
	more := storeOf(left...)
	more.Roots, more.Reals = texts(sorted(roots)...), reals
	slices.SortFunc(more.Reals, byOutput)
	return more
}

// appliedAll applies records until one cannot be applied.
func appliedAll(s impl.Store, regs []impl.Reg) (impl.Store, bool) {
	for _, r := range regs {
		more, ok := applied(s, r)
		if !ok {
			return s, false
		}
		s = more
	}
	return s, true
}

// changesOf returns what the document says of Changes for valid stores.
func changesOf(a, b impl.Store) ([]impl.Reg, bool) {
	var regs []impl.Reg
	for _, o := range dependent(onlyObjs(b, a)) {
		regs = append(regs, objReg(o))
	}
	for _, r := range onlyReals(b, a) {
		regs = append(regs, impl.Reg{Kind: impl.RgReal, Real: r})
	}
	for _, name := range b.Roots {
		if !hasText(a.Roots, string(name)) {
			regs = append(regs, nameReg(impl.RgRoot, string(name)))
		}
	}
	for _, name := range a.Roots {
		if !hasText(b.Roots, string(name)) {
			regs = append(regs, nameReg(impl.RgUnroot, string(name)))
		}
	}
	for _, r := range onlyReals(a, b) {
		regs = append(regs, impl.Reg{Kind: impl.RgUnreal, Real: r})
	}
	gone := dependent(onlyObjs(a, b))
	slices.Reverse(gone)
	for _, o := range gone {
		regs = append(regs, nameReg(impl.RgGone, nameOf(o)))
	}
	for _, o := range a.Objs {
		if other, both := objOf(b, nameOf(o)); both && !sameObj(o, other) {
			return nil, false
		}
	}
	if end, ok := appliedAll(a, regs); !ok || !sameStore(end, b) {
		return nil, false
	}
	return regs, true
}

// onlyObjs returns the objects that a has and b has not, in order.
func onlyObjs(a, b impl.Store) []impl.Obj {
	var l []impl.Obj
	for _, o := range a.Objs {
		if _, both := objOf(b, nameOf(o)); !both {
			l = append(l, o)
		}
	}
	return l
}

func onlyReals(a, b impl.Store) []impl.Real {
	var l []impl.Real
	for _, r := range a.Reals {
		if !slices.ContainsFunc(b.Reals, func(other impl.Real) bool { return sameReal(r, other) }) {
			l = append(l, r)
		}
	}
	return l
}

// dependent returns objects, given by name, in the dependency order of the document.
func dependent(list []impl.Obj) []impl.Obj {
	var taken []impl.Obj
	for len(taken) < len(list) {
		for _, o := range list {
			if mayBeTaken(o, list, taken) {
				taken = append(taken, o)
			}
		}
	}
	return taken
}

func mayBeTaken(o impl.Obj, list, taken []impl.Obj) bool {
	isIn := func(l []impl.Obj, name []byte) bool {
		return slices.ContainsFunc(l, func(other impl.Obj) bool { return bytes.Equal(other.Name, name) })
	}
	for _, ref := range o.Refs {
		if isIn(list, ref) && !isIn(taken, ref) {
			return false
		}
	}
	return !isIn(taken, o.Name)
}

func validJournal(j impl.Journal) bool {
	if !validStore(j.Base) || len(j.Regs) > 200 || j.Safe < 0 || j.Safe > len(j.Regs) {
		return false
	}
	_, ok := appliedAll(j.Base, j.Regs)
	return ok
}

// headOf returns the head of a valid journal.
func headOf(j impl.Journal) impl.Store {
	s, _ := appliedAll(j.Base, j.Regs)
	return s
}

// committed returns what the document says of Commit for a valid journal and a valid store.
func committed(j impl.Journal, s impl.Store) (impl.Journal, bool) {
	return committedFrom(j, headOf(j), s)
}

// committedFrom is committed for a journal with that head.
func committedFrom(j impl.Journal, head, s impl.Store) (impl.Journal, bool) {
	regs, ok := changesOf(head, s)
	if !ok || len(j.Regs)+len(regs) > 200 {
		return j, false
	}
	j.Regs = slices.Concat(j.Regs, regs)
	return safe(j, len(j.Regs)), true
}

// crashed returns what the document says of Crash for a valid journal.
func crashed(j impl.Journal, keep int) impl.Journal {
	n := j.Safe
	for n < len(j.Regs) && keep > 0 {
		n, keep = n+1, keep-1
	}
	j.Regs = j.Regs[:n]
	return safe(j, n)
}

// Random stores and journals.

// randomVariant makes a valid store that has much in common with s.
func randomVariant(random *rand.Rand, s impl.Store) impl.Store {
	objs := slices.Clone(s.Objs)
	// What is left out takes along all that refers to it.
	for range random.Intn(4) {
		if len(objs) > 0 {
			objs = without(objs, objs[random.Intn(len(objs))])
		}
	}
	for i := range random.Intn(4) {
		o := randomObj(random, objs, 100+random.Intn(20)+20*i)
		if _, exists := objOf(storeOf(objs...), nameOf(o)); len(objs) < 24 && !exists {
			objs = append(objs, o)
		}
	}
	// What has fewer references than before is not equal.
	if i := random.Intn(len(objs) + 1); i < len(objs) && random.Intn(3) == 0 {
		objs[i].Refs = objs[i].Refs[len(objs[i].Refs)/2:]
	}
	var roots, outs []impl.Obj
	for _, o := range objs {
		if hasText(s.Roots, nameOf(o)) != (random.Intn(6) == 0) {
			roots = append(roots, o)
		}
		_, isMade := realOf(s, string(o.From), string(o.Out))
		if o.Kind == impl.ObOut && isMade != (random.Intn(6) == 0) {
			outs = append(outs, o)
		}
	}
	return made(rooted(storeOf(objs...), roots...), outs...)
}

// without returns the objects but o, and but all that refer to it directly or indirectly.
func without(objs []impl.Obj, o impl.Obj) []impl.Obj {
	s := storeOf(objs...)
	return slices.DeleteFunc(slices.Clone(objs), func(other impl.Obj) bool {
		return slices.Contains(closureOf(s, nameOf(other)), nameOf(o))
	})
}

// randomReg makes a valid record that can often be applied to s.
func randomReg(random *rand.Rand, s impl.Store) impl.Reg {
	name := drvName(random.Intn(4))
	if len(s.Objs) > 0 && random.Intn(8) > 0 {
		name = nameOf(s.Objs[random.Intn(len(s.Objs))])
	}
	switch kind := random.Intn(6); kind {
	case impl.RgObj:
		objs := s.Objs
		if random.Intn(4) == 0 {
			objs = append(numbered(1), objs...)
		}
		return objReg(randomObj(random, objs, 40+random.Intn(40)))
	case impl.RgReal, impl.RgUnreal:
		outs := slices.DeleteFunc(slices.Clone(s.Objs), func(o impl.Obj) bool { return o.Kind != impl.ObOut })
		r := madeReg(kind, append(outs, outputs(1)...)[random.Intn(len(outs)+1)])
		if random.Intn(6) == 0 {
			r.Real.Path = []byte(name)
		}
		return r
	default:
		return nameReg(kind, name)
	}
}

// randomJournal makes a valid journal of records that are one by one, or that lead to another store.
func randomJournal(random *rand.Rand) impl.Journal {
	j := journalOf(randomStore(random))
	s := j.Base
	for range random.Intn(20) {
		r := randomReg(random, s)
		if more, ok := applied(s, r); ok {
			s, j.Regs = more, append(j.Regs, r)
		}
	}
	if regs, ok := changesOf(s, randomVariant(random, s)); ok && random.Intn(2) == 0 {
		j.Regs = append(j.Regs, regs...)
	}
	return safe(j, random.Intn(len(j.Regs)+1))
}
