package tests

import (
	"iter"
	"maps"
	"math/rand"
	"slices"
	"strconv"
	"strings"

	"loop.example/g00538/impl"
)

// The builds with which the tests of chapter 7 work: stores of derivations, of
// which one is to be built.

type build struct {
	store impl.Store
	top   string
	code  int // with which the top finishes

	// free tells that the order may matter: an input is not there at the beginning, or there is no room for all.
	free bool
	// large tells that there are too many orders to try each of them.
	large bool
}

// stocked returns s with these derivations, each of which may name those before it.
func stocked(s impl.Store, l ...impl.Drv) impl.Store {
	for _, d := range l {
		more, _, code := added(s, drvText(d))
		if !validDrv(d) || code != impl.StWell {
			panic("no derivation for a store")
		}
		s = more
	}
	return s
}

// buildOf makes a build of the last derivation, in a store with these objects, too.
func buildOf(code int, objs []impl.Obj, l ...impl.Drv) build {
	return build{store: stocked(storeOf(objs...), l...), top: nameOfDrv(l[len(l)-1]), code: code}
}

// emitDrv emits a derivation, in which every second one of the texts stands for the one before it.
func emitDrv(d impl.Drv, args ...string) impl.Op {
	text := strings.ReplaceAll(string(encodeDrv(d)), "$", "$$")
	return emitOp(strings.NewReplacer(args...).Replace(text))
}

// out is the output that most derivations have.
func out(d impl.Drv) impl.In { return inOf(nameOfDrv(d), "out") }

// sourced returns d with these sources, in their order.
func sourced(d impl.Drv, names ...string) impl.Drv {
	d.Srcs = texts(sorted(names)...)
	return d
}

// The derivations that the builds have in common.

func low() impl.Drv { return doing(writeOp(0, "a", "low")) }

func bad() impl.Drv { return doing(failOp()) }

// pair has two outputs.
func pair() impl.Drv {
	return impl.Drv{Outs: words("dev out"), Ops: []impl.Op{writeOp(0, "h", "dev"), writeOp(1, "b", "out")}}
}

// inner is emitted.
func inner() impl.Drv { return doing(writeOp(0, "b", "inner")) }

// above needs these, and copies their outputs.
func above(name string, l ...impl.Drv) impl.Drv {
	d := doing(writeOp(0, "name", name))
	var ins []impl.In
	for i, other := range l {
		ins = append(ins, out(other))
		d.Ops = append(d.Ops, copyOp(0, "k"+strconv.Itoa(i), i))
	}
	return needing(d, ins...)
}

// emitter emits d, builds an output of it, and copies that.
func emitter(name string, d impl.Drv, output string) impl.Drv {
	return doing(writeOp(0, "name", name), emitDrv(d), buildOp(output, 0), copyOp(0, "c", 1))
}

// inOrder produces the elements of m, always in the same order, so that random picks for them are the same, too.
func inOrder[V any](m map[string]V) iter.Seq2[string, V] {
	return func(yield func(string, V) bool) {
		for _, key := range slices.Sorted(maps.Keys(m)) {
			if !yield(key, m[key]) {
				return
			}
		}
	}
}

func builds() map[string]build {
	m := map[string]build{}
	addGoodBuilds(m)
	addBadBuilds(m)
	addFreeBuilds(m)
	return m
}

func addGoodBuilds(m map[string]build) {
	text := textOf("a text")
	left, right := above("left", low()), above("right", low())
	e, f := emitter("e", inner(), "out"), emitter("f", inner(), "out")
	m["nothing to do"] = buildOf(0, nil, doing())
	m["a file"] = buildOf(0, nil, low())
	m["two outputs"] = buildOf(0, nil, impl.Drv{Outs: words("b out"), Ops: pair().Ops})
	m["a source"] = buildOf(0, []impl.Obj{text}, sourced(doing(copyOp(0, "c", 0), writeOp(0, "w", "see $0")), nameOf(text)))
	m["an input"] = buildOf(0, nil, low(), above("top", low()))
	m["two inputs of one"] = buildOf(0, nil, pair(), needing(doing(copyOp(0, "d", 0), copyOp(0, "o", 1)), out(pair()), inOf(nameOfDrv(pair()), "dev")))
	m["three inputs of two"] = buildOf(0, nil, low(), pair(), needing(doing(copyOp(0, "d", 0), copyOp(0, "o", 2)), out(low()), out(pair()), inOf(nameOfDrv(pair()), "dev")))
	m["a chain"] = buildOf(0, nil, low(), left, above("top", left))
	m["a diamond"] = buildOf(0, nil, low(), left, right, above("top", left, right))
	m["a diamond and its foot"] = buildOf(0, nil, low(), left, right, above("top", left, right, low()))
	m["an emission"] = buildOf(0, nil, e)
	m["an emission of what has two outputs"] = buildOf(0, nil, emitter("e", pair(), "dev"))
	m["emissions within emissions"] = buildOf(0, nil, emitter("g", emitter("e", inner(), "out"), "out"))
	m["two emit the same"] = buildOf(0, nil, e, f, above("top", e, f))
	m["the same is emitted twice"] = buildOf(0, nil, doing(emitDrv(inner()), buildOp("out", 0), emitDrv(inner()), buildOp("out", 2), copyOp(0, "c", 3)))
	m["an input is emitted"] = buildOf(0, nil, low(), needing(doing(emitDrv(low()), buildOp("out", 1), copyOp(0, "c", 2)), out(low())))
	m["an input is emitted by another"] = buildOf(0, nil, low(), emitter("e", low(), "out"), above("top", low(), emitter("e", low(), "out")))
	m["a source is built"] = buildOf(0, nil, low(), sourced(doing(buildOp("out", 0), copyOp(0, "c", 1)), nameOfDrv(low())))
	m["what is emitted has an input"] = buildOf(0, nil, low(), sourced(doing(emitDrv(needing(doing(copyOp(0, "c", 0)), out(low())), nameOfDrv(low()), "$0"), buildOp("out", 1), copyOp(0, "c", 2)), nameOfDrv(low())))
	m["what is emitted has a source"] = buildOf(0, []impl.Obj{text}, sourced(doing(emitDrv(sourced(doing(copyOp(0, "c", 0)), nameOf(text)), nameOf(text), "$0"), buildOp("out", 1), copyOp(0, "c", 2)), nameOf(text)))
	m["what is emitted has an emission as source"] = buildOf(0, nil, doing(emitOp("new"), emitDrv(sourced(doing(copyOp(0, "c", 0)), nameFor('t', "new")), nameFor('t', "new"), "$0"), buildOp("out", 1), copyOp(0, "c", 2)))
	m["a failure that is not needed"] = buildOf(0, nil, bad(), low(), above("top", low()))
	made := buildOf(0, nil, low(), above("top", low()))
	made.store, _ = registered(made.store, finished(jobOf(low()), dir("a", file("low"))))
	m["an input that is made"] = made
	made = buildOf(0, nil, low(), pair())
	made.store, _ = registered(made.store, finished(jobOf(pair())))
	m["a top that is made"] = made
	wide := m["a diamond"]
	a, b, c := above("a", low(), pair()), above("b", pair(), left), above("c", left, right)
	top := needing(doing(), out(a), out(b), out(c))
	wide.store = stocked(wide.store, pair(), a, b, c, top)
	wide.top, wide.large = nameOfDrv(top), true
	m["many need the same"] = wide
}

func addBadBuilds(m map[string]build) {
	text := textOf("a text")
	l := someObjs(3)
	other := doing(writeOp(0, "a", "$5"))
	m["a failure"] = buildOf(impl.ErFail, nil, bad())
	m["a failure at the end"] = buildOf(impl.ErFail, nil, low(), needing(doing(copyOp(0, "a", 0), emitOp("x"), failOp()), out(low())))
	m["a text that is not filled"] = buildOf(impl.ErArg, nil, other)
	m["a failing input"] = buildOf(impl.ErDep, nil, bad(), above("top", bad()))
	m["a failure in one branch"] = buildOf(impl.ErDep, nil, bad(), low(), above("top", low(), bad()))
	m["failures in both branches"] = buildOf(impl.ErDep, nil, bad(), other, above("top", other, bad()))
	m["a failure further down"] = buildOf(impl.ErDep, nil, bad(), above("mid", bad()), low(), above("top", low(), above("mid", bad())))
	m["a failing emission"] = buildOf(impl.ErDep, nil, emitter("e", bad(), "out"))
	m["two emit what fails"] = buildOf(impl.ErDep, nil, emitter("e", bad(), "out"), emitter("f", bad(), "out"), above("top", emitter("e", bad(), "out"), emitter("f", bad(), "out")))
	m["no such output of an input"] = buildOf(impl.ErArg, nil, low(), needing(doing(), inOf(nameOfDrv(low()), "none")))
	m["no such output of an emission"] = buildOf(impl.ErArg, nil, emitter("e", inner(), "none"))
	m["a text is built"] = buildOf(impl.ErDep, []impl.Obj{text}, sourced(doing(buildOp("out", 0)), nameOf(text)))
	m["a text that was emitted is built"] = buildOf(impl.ErDep, nil, doing(emitOp("new"), buildOp("out", 0)))
	m["an output is built"] = buildOf(impl.ErDep, nil, low(), needing(doing(buildOp("out", 0)), out(low())))
	m["a text as an input"] = buildOf(impl.ErDep, []impl.Obj{text}, needing(doing(), inOf(nameOf(text), "out")))
	m["nothing to be built"] = buildOf(impl.ErArg, nil, doing(buildOp("out", 0)))
	m["eleven Args"] = buildOf(impl.ErArg, l, sourced(doing(slices.Repeat([]impl.Op{emitOp("x")}, 8)...), strs(namesOf(l...))...))
	ten := needing(sourced(doing(append(slices.Repeat([]impl.Op{emitDrv(inner())}, 4), buildOp("out", 6))...), strs(namesOf(l...))...), out(pair()), inOf(nameOfDrv(pair()), "dev"), out(low()))
	m["ten Args before an OpBuild"] = buildOf(impl.ErArg, l, low(), pair(), ten)
	nine := changedDrv(ten, func(d *impl.Drv) { d.Ops = d.Ops[1:] })
	m["nine Args before an OpBuild"] = buildOf(0, l, low(), pair(), nine)
	e, f := emitter("e", inner(), "out"), emitter("f", inner(), "out")
	busy := sourced(doing(buildOp("out", 0), buildOp("out", 1)), nameOfDrv(e))
	m["a source is built, and then its output"] = buildOf(impl.ErDep, nil, e, f, busy, above("top", e, f, busy))
	for what, b := range m {
		b.large = b.large || strings.HasSuffix(what, "before an OpBuild") || strings.HasPrefix(what, "a source is built,")
		m[what] = b
	}
	m["no such derivation"] = build{store: storeOf(text), top: absent(), code: impl.ErNone}
	m["no derivation"] = build{store: storeOf(text), top: nameOf(text), code: impl.ErMalformed}
}

func addFreeBuilds(m map[string]build) {
	free := func(what string, b build) {
		b.free = true
		m[what] = b
	}
	free("no such source", buildOf(impl.ErNone, nil, sourced(low(), absent())))
	free("no such input", buildOf(impl.ErDep, nil, needing(low(), inOf(absent(), "out"))))
	free("an input that another one emits", buildOf(impl.ErDep, nil, emitter("e", inner(), "out"), above("top", inner(), emitter("e", inner(), "out"))))
	for n := 19; n <= 23; n++ {
		b := buildOf(0, numbered(n-3), emitter("e", inner(), "out"), low(), above("top", low(), emitter("e", inner(), "out")))
		b.code = []int{0, impl.ErFull, impl.ErDep, impl.ErDep, impl.ErDep}[n-19]
		free(strconv.Itoa(n)+" objects", b)
	}
	free("24 objects", buildOf(impl.ErFull, numbered(23), low()))
	var nine, three []impl.Drv
	for i := range 9 {
		nine = append(nine, doing(writeOp(0, "a", "leaf "+strconv.Itoa(i))))
	}
	for i := range 3 {
		three = append(three, above("branch "+strconv.Itoa(i), nine[3*i:3*i+3]...))
	}
	crowd := buildOf(impl.ErDep, nil, append(slices.Concat(nine, three), above("top", three...))...)
	crowd.large = true
	free("13 goals", crowd)
	crowd = buildOf(0, nil, append(slices.Concat(nine[:8], []impl.Drv{three[0], three[1], above("branch", nine[6:8]...)}), above("top", three[0], three[1], above("branch", nine[6:8]...)))...)
	crowd.large = true
	m["12 goals"] = crowd
}

// randomBuild makes a build of some derivations, of which each one is needed by
// the next one, or has a good chance to be. All inputs are there.
func randomBuild(random *rand.Rand) build {
	s := storeOf(numbered(random.Intn(3))...)
	var plans []impl.Drv
	for i := range 2 + random.Intn(6) {
		d := randomWorkshop(random, s, plans, i)
		plans, s = append(plans, d), stocked(s, d)
	}
	return build{store: s, top: nameOfDrv(plans[len(plans)-1])}
}

// randomWorkshop makes a derivation that most often can be built; i makes it different from others.
func randomWorkshop(random *rand.Rand, s impl.Store, plans []impl.Drv, i int) impl.Drv {
	for {
		d := doing(writeOp(0, "i", strconv.Itoa(i)))
		var srcs []string
		for range random.Intn(3) {
			if len(s.Objs) > 0 {
				srcs = append(srcs, nameOf(s.Objs[random.Intn(len(s.Objs))]))
			}
		}
		d = sourced(d, srcs...)
		var ins []impl.In
		for k, p := range plans {
			if k == i-1 && random.Intn(4) > 0 || random.Intn(4) == 0 {
				ins = append(ins, out(p))
			}
		}
		slices.Reverse(ins)
		d = needing(d, ins[:min(len(ins), 3)]...)
		// The emissions, and the sources that are derivations, can be built.
		args, drvs := len(d.Srcs)+len(d.Ins), []int{}
		for at, src := range d.Srcs {
			if slices.ContainsFunc(plans, func(p impl.Drv) bool { return nameOfDrv(p) == string(src) }) {
				drvs = append(drvs, at)
			}
		}
		for range random.Intn(7) {
			o, isDrv := randomOrder(random, args, drvs)
			if isDrv {
				drvs = append(drvs, args)
			}
			if o.Code == impl.OpEmit || o.Code == impl.OpBuild {
				args++
			}
			d.Ops = append(d.Ops, o)
		}
		if validDrv(d) {
			return d
		}
	}
}

// randomOrder makes an operation for a job with that number of Args, of which
// some are derivations, and tells whether it emits a derivation.
func randomOrder(random *rand.Rand, args int, drvs []int) (impl.Op, bool) {
	arg := random.Intn(args + 1)
	if arg == args && args > 0 && random.Intn(8) > 0 {
		arg = 0
	}
	name := []string{"a", "b", "c", "d"}[random.Intn(4)]
	text := "see $" + digits[arg:arg+1]
	if args == 0 {
		text = "see nothing"
	}
	switch random.Intn(12) {
	case 0, 1:
		return writeOp(0, name, text), false
	case 2, 3:
		return copyOp(0, name, arg), false
	case 4:
		return emitOp(text), false
	case 5, 6:
		small := []impl.Drv{inner(), low(), emitter("e", inner(), "out"), inner(), low(), bad()}
		return emitDrv(small[random.Intn(len(small))]), true
	case 7:
		if random.Intn(6) == 0 {
			return failOp(), false
		}
	}
	if len(drvs) > 0 {
		return buildOp("out", drvs[random.Intn(len(drvs))]), false
	}
	return writeOp(0, name, "x"), false
}
