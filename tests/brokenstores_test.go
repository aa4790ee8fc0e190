package tests

import (
	"bytes"
	"math"
	"slices"
	"strconv"
	"strings"

	"loop.example/g00538/impl"
)

// The objects and stores of chapter 4 that are not valid, each in one way.

// changed returns o after a change of its own memory.
func changed(o impl.Obj, change func(o *impl.Obj)) impl.Obj {
	o.Name, o.Refs, o.From, o.Out = bytes.Clone(o.Name), slices.Clone(o.Refs), bytes.Clone(o.From), bytes.Clone(o.Out)
	change(&o)
	return o
}

// thirty returns a text of 30 names that overlap, and these names.
func thirty() impl.Obj {
	long := strings.Repeat("0", 15) + "123456789abcdfghijklmnpqrsvwxy"
	var names []string
	for i := range 30 {
		names = append(names, long[i:i+16])
	}
	return textOf(long, names...)
}

func brokenObjs() map[string]impl.Obj {
	m := map[string]impl.Obj{}
	for what, t := range brokenTrees() {
		if strings.HasPrefix(what, "cyclic") {
			// It has no encoding from which a name could be made.
			m["a tree: "+what] = impl.Obj{Name: []byte(zeros), Kind: impl.ObTree, Tree: t}
			continue
		}
		m["an output: "+what] = outOf(drvName(0), "out", t)
		if nodesOf(t) < 100 && len(t.Names) == len(t.Kids) && !strings.Contains(what, "name") {
			m["a tree: "+what] = treeOf(t)
		}
	}
	a, b := namesOf(numbered(2)...)[0], namesOf(numbered(2)...)[1]
	bases := map[string]impl.Obj{
		"text":   textOf("see "+string(a)+string(b), string(a), string(b)),
		"tree":   treeOf(dir("a b", file(string(a)), file(string(b))), string(a), string(b)),
		"output": outOf(string(a), "out", file("see "+string(a)+string(b)), string(a), string(b)),
	}
	for what, base := range bases {
		for how, change := range changesOfAny(a, b) {
			m[what+": "+how] = changed(base, change)
		}
	}
	addBrokenTexts(m, bases["text"])
	addBrokenOutputs(m, bases["output"])
	addNameless(m)
	return m
}

// changesOfAny make an object of any Kind not valid that refers to a and b.
func changesOfAny(a, b []byte) map[string]func(o *impl.Obj) {
	m := map[string]func(o *impl.Obj){
		"no name":                  func(o *impl.Obj) { o.Name = nil },
		"an empty name":            func(o *impl.Obj) { o.Name = []byte{} },
		"another name":             func(o *impl.Obj) { o.Name = []byte(absent()) },
		"a name with one change":   func(o *impl.Obj) { o.Name[15] = digits[(strings.IndexByte(digits, o.Name[15])+1)%32] },
		"a short name":             func(o *impl.Obj) { o.Name = o.Name[:15] },
		"a long name":              func(o *impl.Obj) { o.Name = append(o.Name, '0') },
		"a name in capitals":       func(o *impl.Obj) { o.Name = bytes.ToUpper(o.Name); o.Name[0] = 'A' },
		"descending references":    func(o *impl.Obj) { o.Refs = [][]byte{b, a} },
		"a reference twice":        func(o *impl.Obj) { o.Refs = [][]byte{a, a} },
		"a reference twice, last":  func(o *impl.Obj) { o.Refs = [][]byte{a, b, b} },
		"a reference not in it":    func(o *impl.Obj) { o.Refs = texts(sorted([]string{string(a), absent()})...) },
		"one reference, not in it": func(o *impl.Obj) { o.Refs = texts(absent()) },
		"its name, not in it":      func(o *impl.Obj) { o.Refs = [][]byte{o.Name} },
		"an empty reference":       func(o *impl.Obj) { o.Refs = [][]byte{nil} },
		"a reference to no name":   func(o *impl.Obj) { o.Refs = [][]byte{a[:15]} },
		"an empty reference first": func(o *impl.Obj) { o.Refs = [][]byte{{}, a, b} },
		"a word as a reference":    func(o *impl.Obj) { o.Refs = [][]byte{[]byte("see ")} },
		"other contents": func(o *impl.Obj) {
			if o.Kind == impl.ObOut {
				o.From = []byte(absent())
			} else {
				o.Tree = link(string(a) + string(b))
			}
		},
	}
	for _, kind := range []int{-1, 3, 4, 255, 256, 257, 258, -256, math.MinInt, math.MaxInt} {
		m["Kind "+strconv.Itoa(kind)] = func(o *impl.Obj) { o.Kind = kind }
	}
	for i := 1; i <= 2; i++ {
		m["a Kind that it is not, "+strconv.Itoa(i)] = func(o *impl.Obj) { o.Kind = (o.Kind + i) % 3 }
	}
	return m
}

// addBrokenTexts adds what is wrong only with a text or a tree.
func addBrokenTexts(m map[string]impl.Obj, text impl.Obj) {
	for _, kind := range []int{impl.KdRun, impl.KdLink} {
		m["text: Kind of the tree "+strconv.Itoa(kind)] = changed(text, func(o *impl.Obj) { o.Tree.Kind = kind })
	}
	m["text: an empty directory"] = changed(textOf(""), func(o *impl.Obj) { o.Tree = dir("") })
	m["text: the name of a tree"] = changed(text, func(o *impl.Obj) { o.Name = treeOf(o.Tree).Name })
	m["tree: the name of a text"] = changed(treeOf(text.Tree), func(o *impl.Obj) { o.Name = text.Name })
	m["text: the name without the letter"] = changed(text, func(o *impl.Obj) { o.Name = []byte(nameFor(o.Tree.Data[0], string(o.Tree.Data[1:]))) })
	many := thirty()
	many.Refs = many.Refs[:25]
	m["text: 25 references"] = many
	m["text: 30 references"] = thirty()
	for what, o := range map[string]impl.Obj{"text": text, "tree": treeOf(sample())} {
		m[what+": From"] = changed(o, func(o *impl.Obj) { o.From = []byte(zeros) })
		m[what+": Out"] = changed(o, func(o *impl.Obj) { o.Out = []byte("out") })
		m[what+": From and Out"] = changed(o, func(o *impl.Obj) { o.From, o.Out = []byte(zeros), []byte("out") })
		m[what+": From that is no name"] = changed(o, func(o *impl.Obj) { o.From = []byte{0} })
		m[what+": the name of an output"] = changed(o, func(o *impl.Obj) {
			o.From, o.Out = []byte(zeros), []byte("out")
			o.Name = outOf(zeros, "out", o.Tree).Name
		})
	}
	m["tree: a reference that the names of kids make"] = treeOf(dir("aaaaaaaa bbbbbbbb", file(""), file("")), "aaaaaaaabbbbbbbb")
	between := nameOf(textOf("a"))
	m["tree: a reference with data in between"] = treeOf(dir("a b c", file(between[:7]), file("0"), file(between[7:])), between)
	m["tree: a reference in the wrong order"] = treeOf(dir("a b", file(between[7:]), file(between[:7])), between)
}

func addBrokenOutputs(m map[string]impl.Obj, output impl.Obj) {
	for _, s := range noNames {
		m["output: From "+strconv.Quote(s)] = outOf(s, "out", output.Tree)
	}
	for _, s := range noEntries {
		m["output: Out "+strconv.Quote(s)] = outOf(drvName(0), s, output.Tree)
	}
	m["output: another From"] = changed(output, func(o *impl.Obj) { o.From = []byte(zeros) })
	m["output: another Out"] = changed(output, func(o *impl.Obj) { o.Out = []byte("dev") })
	m["output: the name of its tree"] = changed(output, func(o *impl.Obj) { o.Name = treeOf(o.Tree).Name })
	m["output: a name without the length of Out"] = changed(output, func(o *impl.Obj) { o.Name = []byte(nameFor('o', string(o.From)+string(o.Out))) })
	m["output: the name of another letter"] = changed(output, func(o *impl.Obj) { o.Name = []byte(nameFor('t', string(o.From)+"\x03out")) })
}

// addNameless adds objects that have no name, where the document gives them none.
func addNameless(m map[string]impl.Obj) {
	for _, kind := range []int{-1, 3} {
		m["nameless: Kind "+strconv.Itoa(kind)] = impl.Obj{Kind: kind}
	}
	m["nameless: a text that is no file"] = impl.Obj{Tree: program("a")}
	m["nameless: a text with From"] = impl.Obj{Tree: file("a"), From: []byte(zeros)}
	m["nameless: a tree with Out"] = impl.Obj{Kind: impl.ObTree, Tree: file("a"), Out: []byte("out")}
	m["nameless: an output of nothing"] = impl.Obj{Kind: impl.ObOut}
	m["nameless: an output without From"] = impl.Obj{Kind: impl.ObOut, Out: []byte("out")}
	m["nameless: an output without Out"] = impl.Obj{Kind: impl.ObOut, From: []byte(zeros)}
	m["nameless: no tree"] = impl.Obj{Kind: impl.ObTree, Tree: impl.Tree{Kind: 4}}
}

func brokenStores() map[string]impl.Store {
	m := map[string]impl.Store{}
	for what, o := range brokenObjs() {
		m[what] = storeWith(o)
		m[what+", alone"] = storeOf(o)
	}
	addBrokenLists(m)
	addBrokenRefs(m)
	addBrokenRoots(m)
	addBrokenReals(m)
	return m
}

// storeWith makes a store in which o is, and all to which o may refer.
func storeWith(o impl.Obj) impl.Store {
	l := append(numbered(2), textOf("a"), o)
	if nameOf(o) == nameOf(l[2]) {
		l = append(l[:2], o)
	}
	return storeOf(l...)
}

func addBrokenLists(m map[string]impl.Store) {
	l := numbered(4)
	for what, s := range map[string]impl.Store{"": storeOf(l...), ", with roots": rooted(storeOf(l...), l[0]), ", of Kinds": storeOf(chain(4)...)} {
		o := s.Objs
		swapped, turned, twice, apart := s, s, s, s
		swapped.Objs = []impl.Obj{o[0], o[2], o[1], o[3]}
		turned.Objs = []impl.Obj{o[3], o[2], o[1], o[0]}
		twice.Objs = []impl.Obj{o[0], o[1], o[1], o[2], o[3]}
		apart.Objs = []impl.Obj{o[0], o[1], o[2], o[3], o[0]}
		m["objects out of order"+what], m["objects descending"+what] = swapped, turned
		m["an object twice"+what], m["an object twice, out of order"+what] = twice, apart
	}
	m["25 objects"] = storeOf(numbered(25)...)
	m["25 objects, all roots"] = rooted(storeOf(numbered(25)...), numbered(25)...)
	m["300 objects"] = storeOf(numbered(300)...)
	m["25 outputs, all made"] = made(storeOf(outputs(25)...), outputs(25)...)
	two := changed(textOf("a"), func(o *impl.Obj) { o.Refs = nil })
	m["two objects with one name"] = impl.Store{Objs: []impl.Obj{two, two}}
}

// circle makes n outputs, each of which refers to the next one, and the last one to the first.
func circle(n int) []impl.Obj {
	l := outputs(n)
	for i := range l {
		next := nameOf(l[(i+1)%n])
		l[i].Tree, l[i].Refs = dir("n", file("next "+next)), texts(next)
	}
	return l
}

func addBrokenRefs(m map[string]impl.Store) {
	a := textOf("a")
	m["a reference to nothing"] = storeOf(textOf(absent(), absent()))
	m["a reference to nothing, and one to a"] = storeOf(a, textOf(absent()+nameOf(a), absent(), nameOf(a)))
	m["a tree that refers to nothing"] = storeOf(a, treeOf(program(absent()), absent()))
	m["an output that refers to nothing"] = storeOf(a, outOf(drvName(0), "out", link(absent()), absent()))
	m["an output that refers to its derivation"] = storeOf(a, outOf(drvName(0), "out", link(drvName(0)), drvName(0)))
	for n := 1; n <= 5; n++ {
		l := circle(n)
		m["a circle of "+strconv.Itoa(n)] = storeOf(l...)
		m["a circle of "+strconv.Itoa(n)+", a root"] = made(rooted(storeOf(l...), l[0]), l...)
		m["a circle of "+strconv.Itoa(n)+" and an object that refers to it"] = storeOf(append(l, textOf(nameOf(l[0]), nameOf(l[0])))...)
		m["a circle of "+strconv.Itoa(n)+" and one to which it refers"] = storeOf(append(l, a, treeOf(file(nameOf(a)), nameOf(a)))...)
	}
	m["a circle of 24"] = storeOf(circle(24)...)
	// A text may mention an output before it exists.
	output := outOf(drvName(0), "out", file(""))
	text := textOf("see "+nameOf(output), nameOf(output))
	tree := treeOf(link(nameOf(text)), nameOf(text))
	output.Tree, output.Refs = file(nameOf(tree)), texts(nameOf(tree))
	m["a circle of all Kinds"] = storeOf(output, text, tree)
	m["a circle of all Kinds, and more"] = rooted(storeOf(output, text, tree, a, textOf("b")), a)
}

func addBrokenRoots(m map[string]impl.Store) {
	l := numbered(4)
	s := storeOf(l...)
	names := namesOf(l...)
	for what, roots := range map[string][][]byte{
		"an absent root":              texts(absent()),
		"an absent root and others":   texts(sorted([]string{string(names[0]), string(names[1]), absent()})...),
		"an empty root":               {nil},
		"an empty root and another":   {{}, names[0]},
		"a root that is no name":      {names[0][:15]},
		"roots out of order":          {names[0], names[2], names[1]},
		"roots descending":            {names[1], names[0]},
		"a root twice":                {names[1], names[1]},
		"a root twice, out of order":  {names[0], names[1], names[0]},
		"a root twice, further on":    {names[0], names[2], names[2], names[3]},
		"a root with one byte behind": {append(bytes.Clone(names[0]), '0')},
	} {
		m[what] = impl.Store{Objs: s.Objs, Roots: roots}
	}
	m["a root of nothing"] = impl.Store{Roots: texts(zeros)}
	m["a derivation as a root"] = impl.Store{Objs: storeOf(outputs(2)...).Objs, Roots: texts(drvName(0))}
}

func addBrokenReals(m map[string]impl.Store) {
	l := outputs(6)
	text, tree := textOf("a"), treeOf(file("a"))
	base := made(storeOf(append(l, text, tree)...), l...)
	a, b := base.Reals[0], base.Reals[1] // of one derivation, dev and out
	c, d := base.Reals[2], base.Reals[3]
	with := func(r impl.Real, change func(r *impl.Real)) impl.Real {
		change(&r)
		return r
	}
	for what, reals := range map[string][]impl.Real{
		"out of order by Drv":            {c, a},
		"out of order by Drv, among all": {a, b, d, c},
		"out of order by Out":            {b, a},
		"Drv out of order, Out in order": {c, b},
		"Drv and Out out of order":       {d, a},
		"twice":                          {a, a},
		"twice, further on":              {a, b, c, c},
		"twice, out of order":            {a, b, a},
		"zero value":                     {{}},
		"zero value and another":         {{}, a},
		"no Path":                        {with(a, func(r *impl.Real) { r.Path = nil })},
		"an absent Path":                 {with(a, func(r *impl.Real) { r.Path = []byte(absent()) })},
		"a text as Path":                 {with(a, func(r *impl.Real) { r.Path = text.Name })},
		"a tree as Path":                 {with(a, func(r *impl.Real) { r.Path = tree.Name })},
		"the Path of another output":     {with(a, func(r *impl.Real) { r.Path = b.Path })},
		"the Path of another derivation": {with(a, func(r *impl.Real) { r.Path = c.Path })},
		"another Drv":                    {with(a, func(r *impl.Real) { r.Drv = c.Drv })},
		"another Out":                    {with(a, func(r *impl.Real) { r.Out = b.Out })},
		"an absent Out":                  {with(a, func(r *impl.Real) { r.Out = []byte("none") })},
		"no Drv":                         {with(a, func(r *impl.Real) { r.Drv = nil })},
		"no Out":                         {with(a, func(r *impl.Real) { r.Out = nil })},
		"no Drv and no Out of a text":    {{Path: text.Name}},
		"a Path with one byte behind":    {with(a, func(r *impl.Real) { r.Path = append(bytes.Clone(r.Path), '0') })},
		"exchanged Paths":                {with(a, func(r *impl.Real) { r.Path = b.Path }), with(b, func(r *impl.Real) { r.Path = a.Path })},
		"one good, one not":              {a, with(b, func(r *impl.Real) { r.Path = d.Path })},
	} {
		m["realisations: "+what] = impl.Store{Objs: base.Objs, Reals: reals}
	}
	m["realisations of nothing"] = impl.Store{Reals: base.Reals}
	m["25 realisations"] = impl.Store{Objs: base.Objs, Reals: slices.Repeat([]impl.Real{a}, 25)}
	all := made(storeOf(outputs(24)...), outputs(24)...)
	all.Reals = append(all.Reals, all.Reals[23])
	m["24 realisations, and one again"] = all
}
