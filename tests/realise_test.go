package tests

import (
	"math"
	"math/big"
	"math/rand"
	"slices"
	"strconv"
	"strings"
	"testing"

	"loop.example/g00538/impl"
)

// The tests of promise 8: whatever the picks are, the code, the path and the
// tree of a build are the same; and what Realise returns with each code.

// checkRealise builds an output, and fails if Realise does not return what the document says.
func checkRealise(t *testing.T, what string, s impl.Store, drv, out string, picks []int) (impl.Store, string, int) {
	t.Helper()
	r := checkCall(t, what+": Realise", impl.Realise, s, []byte(drv), []byte(out), picks)
	got, path, code := r[0].(impl.Store), string(r[1].([]byte)), r[2].(int)
	checkRealised(t, what, s, drv, out, picks, got, path, code)
	return got, path, code
}

// checkRealised returns the engine at the end.
func checkRealised(t *testing.T, what string, s impl.Store, drv, out string, picks []int, got impl.Store, path string, code int) impl.Engine {
	t.Helper()
	end, wantPath, wantCode := realised(s, drv, out, picks)
	if code != wantCode || path != wantPath || !sameStore(got, end.Store) {
		t.Fatalf("%s: Realise(%v, %q, %q, %.100v) = %v, %q, %d instead of %v, %q, %d", what, s, drv, out, picks, got, path, code, end.Store, wantPath, wantCode)
	}
	if !sameStore(s, got) {
		checkKept(t, what, s, got)
	}
	if name, _ := impl.OutName([]byte(drv), []byte(out)); (code == impl.ErWell) != (path != "") || path != "" && path != string(name) {
		t.Fatalf("%s: Realise = %q, %d", what, path, code)
	}
	return end
}

// outcome is what must not depend on the picks.
type outcome struct {
	code       int
	path, tree string
}

func outcomeOf(s impl.Store, path string, code int) outcome {
	o, _ := objOf(s, path)
	return outcome{code, path, string(encode(o.Tree))}
}

// sequences calls try with every sequence of picks that makes a difference
// until the first goal is finished, but stops at most of them. It returns their number.
func sequences(e impl.Engine, most int, try func(picks []int, end impl.Engine)) int {
	count := 0
	var visit func(e impl.Engine, picks []int)
	visit = func(e impl.Engine, picks []int) {
		if count > most {
			return
		}
		if over(e.Goals[0]) {
			count++
			try(slices.Clone(picks), e)
			return
		}
		for k, i := range readyOf(e) {
			visit(acted(e, i), append(picks, k))
		}
	}
	visit(e, nil)
	return count
}

func TestRealiseWithEveryPick(t *testing.T) {
	whole := 0
	for what, b := range inOrder(builds()) {
		if b.large {
			continue
		}
		_, path, code := impl.Realise(b.store, []byte(b.top), []byte("out"), nil)
		s, _, _ := checkRealise(t, what, b.store, b.top, "out", nil)
		want := outcomeOf(s, string(path), code)
		if !b.free && code != b.code {
			t.Errorf("%s: code %d", what, code)
		}
		n := sequences(engineOf(b.store, newGoal(b.top)), 3000, func(picks []int, end impl.Engine) {
			got, path, code := impl.Realise(b.store, []byte(b.top), []byte("out"), picks)
			if !sameStore(got, end.Store) || code != end.Goals[0].Err {
				t.Fatalf("%s: Realise with picks %v = %v, %q, %d", what, picks, got, path, code)
			}
			if !b.free && outcomeOf(got, string(path), code) != want {
				t.Errorf("%s: Realise with picks %v = %q, %d, but without %q, %d", what, picks, path, code, want.path, want.code)
			}
		})
		if n > 3 && n <= 3000 {
			whole++
		}
	}
	if whole < 12 {
		t.Errorf("only %d builds with several orders were tried with each of these", whole)
	}
}

// somePicks makes picks of all sizes.
func somePicks(random *rand.Rand) []int {
	var picks []int
	n := []int{0, 1, 3, 20, 100, 1000}[random.Intn(6)]
	for range n {
		p := random.Intn(12)
		switch random.Intn(4) {
		case 0:
			p = int(random.Uint64())
		case 1:
			p = -random.Intn(20)
		case 2:
			p = []int{math.MinInt, math.MaxInt, 1 << 62, 1<<62 - 1, 1<<62 + 1, -1 << 62, 1 << 61, math.MinInt + 1}[random.Intn(8)]
		}
		picks = append(picks, p)
	}
	return picks
}

// checkSameOutcome tries a build with n random lists of picks. It returns the codes and whether an ErFull occurred.
func checkSameOutcome(t *testing.T, what string, random *rand.Rand, b build, n int) (int, bool) {
	t.Helper()
	s, path, code := checkRealise(t, what, b.store, b.top, "out", nil)
	want, full, differ := outcomeOf(s, path, code), false, ""
	for range n {
		picks := somePicks(random)
		got, path, code := impl.Realise(b.store, []byte(b.top), []byte("out"), picks)
		end := checkRealised(t, what, b.store, b.top, "out", picks, got, string(path), code)
		full = full || hasFull(end)
		if o := outcomeOf(got, string(path), code); o != want {
			differ = o.path + ", " + strconv.Itoa(o.code)
		}
	}
	if !full && !b.free && differ != "" {
		t.Errorf("%s: Realise of %v is %s or %s, %d", what, b, differ, want.path, want.code)
	}
	return code, full
}

func TestRealiseWithRandomPicks(t *testing.T) {
	random := rand.New(rand.NewSource(76))
	for what, b := range inOrder(builds()) {
		if code, _ := checkSameOutcome(t, what, random, b, 12); !b.free && code != b.code {
			t.Errorf("%s: code %d", what, code)
		}
	}
}

func TestRealiseOfRandomBuilds(t *testing.T) {
	random := rand.New(rand.NewSource(77))
	seen := map[int]int{}
	for range 150 {
		code, full := checkSameOutcome(t, "at random", random, randomBuild(random), 10)
		if !full {
			seen[code]++
		}
	}
	if seen[impl.ErWell] < 30 || seen[impl.ErDep] < 10 {
		t.Error("too few of one sort:", seen)
	}
}

// The document's trees, whatever the picks are.
func TestRealise(t *testing.T) {
	left, right := dir("k0 name", dir("a", file("low")), file("left")), dir("k0 name", dir("a", file("low")), file("right"))
	e := dir("c name", dir("b", file("inner")), file("e"))
	for what, want := range map[string]impl.Tree{
		"nothing to do":              dir(""),
		"a file":                     dir("a", file("low")),
		"two outputs":                dir("b", file("out")),
		"an input":                   dir("k0 name", dir("a", file("low")), file("top")),
		"two inputs of one":          dir("d o", dir("h", file("dev")), dir("b", file("out"))),
		"a chain":                    dir("k0 name", left, file("top")),
		"a diamond":                  dir("k0 k1 name", left, right, file("top")),
		"an emission":                e,
		"emissions within emissions": dir("c name", e, file("g")),
		"a top that is made":         dir(""),
		"an input is emitted":        dir("c", dir("a", file("low"))),
		"a source is built":          dir("c", dir("a", file("low"))),
	} {
		b := builds()[what]
		s, path, code := checkRealise(t, what, b.store, b.top, "out", []int{2, 1, 0, 2, 1, 0})
		o, ok := impl.Find(s, []byte(path))
		if swapped := dir("k0 k1 name", right, left, file("top")); what == "a diamond" && same(o.Tree, swapped) {
			// The names of the inputs tell which one is first.
			want = swapped
		}
		if code != impl.ErWell || !ok || !same(o.Tree, want) {
			t.Errorf("%s: Realise = %q, %d, which is %v", what, path, code, o)
		}
	}
}

// race makes a build whose three inputs each emit the same text, but see other
// sources: what the text refers to tells which of them was the first.
func race() (impl.Store, string, []string) {
	l := someObjs(3)
	var racers []impl.Drv
	for _, o := range l {
		racers = append(racers, sourced(doing(emitOp(string(bytesOf(l))), writeOp(0, "me", nameOf(o))), nameOf(o)))
	}
	top := needing(doing(), out(racers[0]), out(racers[1]), out(racers[2]))
	s := stocked(storeOf(l...), append(racers, top)...)
	// The goals are in the order of the inputs.
	var refs []string
	for _, in := range top.Ins {
		at := slices.IndexFunc(racers, func(d impl.Drv) bool { return nameOfDrv(d) == string(in.Drv) })
		refs = append(refs, nameOf(l[at]))
	}
	return s, nameOfDrv(top), refs
}

// bytesOf mentions all of l.
func bytesOf(l []impl.Obj) []byte {
	var b []byte
	for _, o := range l {
		b = append(b, o.Name...)
	}
	return b
}

// low62 returns the low 62 bits of the pick modulo n, as the document says.
func low62(pick, n int) int {
	p := new(big.Int).Mod(big.NewInt(int64(pick)), new(big.Int).Lsh(big.NewInt(1), 62))
	return int(p.Mod(p, big.NewInt(int64(n))).Int64())
}

func TestPicks(t *testing.T) {
	s, top, refs := race()
	text := nameFor('t', string(bytesOf(someObjs(3))))
	picks := []int{0, 1, 2, 3, 4, 5, 6, 7, 8, 100, -1, -2, -3, -4, -5, -100, math.MinInt, math.MinInt + 1, math.MinInt + 2, math.MaxInt, math.MaxInt - 1, math.MaxInt - 2}
	for _, bit := range []int{31, 32, 52, 53, 60, 61, 62} {
		for d := -2; d <= 2; d++ {
			picks = append(picks, 1<<bit+d, -1<<bit+d)
		}
	}
	seen := map[int]bool{}
	for _, p := range picks {
		// The top acts first, and then always the goal that is picked again, until it is done.
		got, path, code := checkRealise(t, "pick "+strconv.Itoa(p), s, top, "out", slices.Repeat([]int{p}, 100))
		o, ok := impl.Find(got, []byte(text))
		first := low62(p, 3)
		seen[first] = true
		if code != impl.ErWell || path == "" || !ok || !sameTexts(o.Refs, texts(refs[first])) || first != chosen(p, 3) {
			t.Errorf("pick %d: %v, %q, %d instead of a reference to %q", p, o, path, code, refs[first])
		}
	}
	// Without picks the first one of those that are ready acts.
	for _, none := range [][]int{nil, {}, {0}, {5}, {1 << 40, 0, 0}} {
		got, _, _ := checkRealise(t, "no picks", s, top, "out", none)
		if o, _ := impl.Find(got, []byte(text)); !sameTexts(o.Refs, texts(refs[0])) {
			t.Errorf("picks %v: %v", none, o)
		}
	}
	// The first pick counts, even though only one goal is ready.
	got, _, _ := checkRealise(t, "behind the first pick", s, top, "out", []int{0, 2, 2, 2, 2, 2})
	if o, _ := impl.Find(got, []byte(text)); !sameTexts(o.Refs, texts(refs[2])) {
		t.Errorf("behind the first pick: %v", o)
	}
	got, _, _ = checkRealise(t, "the first pick", s, top, "out", []int{2, 0, 0, 0, 0, 0})
	if o, _ := impl.Find(got, []byte(text)); !sameTexts(o.Refs, texts(refs[0])) {
		t.Errorf("the first pick: %v", o)
	}
	if len(seen) != 3 {
		t.Error("too few goals are picked:", seen)
	}
}

// checkNotRealised fails if Realise does not return the zero value, nil and ErForm.
func checkNotRealised(t *testing.T, what string, s impl.Store, drv, out string, picks []int) {
	t.Helper()
	if got, path, code := impl.Realise(s, []byte(drv), []byte(out), picks); code != impl.ErForm || len(path) != 0 || !sameStore(got, impl.Store{}) {
		t.Errorf("%s: Realise = %v, %q, %d", what, got, path, code)
	}
}

func TestRealiseErForm(t *testing.T) {
	b := builds()["a file"]
	for what, s := range brokenStores() {
		checkNotRealised(t, what, s, b.top, "out", nil)
		checkNotRealised(t, what+", nothing else either", s, "", "", make([]int, 1001))
	}
	for _, drv := range noNames {
		checkNotRealised(t, "drv "+strconv.Quote(drv), b.store, drv, "out", nil)
	}
	for _, out := range noEntries {
		checkNotRealised(t, "out "+strconv.Quote(out), b.store, b.top, out, nil)
		// That the derivation cannot be built comes later.
		checkNotRealised(t, "no derivation, out "+strconv.Quote(out), b.store, absent(), out, nil)
	}
	for _, n := range []int{1001, 1002, 2000, 100000} {
		checkNotRealised(t, strconv.Itoa(n)+" picks", b.store, b.top, "out", make([]int, n))
		checkNotRealised(t, strconv.Itoa(n)+" picks, no derivation", b.store, absent(), "out", make([]int, n))
	}
	for _, n := range []int{0, 1, 2, 999, 1000} {
		if _, path, code := checkRealise(t, strconv.Itoa(n)+" picks", b.store, b.top, "out", make([]int, n)); code != impl.ErWell || path == "" {
			t.Errorf("%d picks: Realise = %q, %d", n, path, code)
		}
	}
}

func TestRealiseCodes(t *testing.T) {
	codes := map[int]int{}
	for what, b := range inOrder(builds()) {
		s, path, code := checkRealise(t, what, b.store, b.top, "out", nil)
		codes[code]++
		if b.free {
			continue
		}
		if code != b.code || code == impl.ErWell && len(s.Reals) == 0 {
			t.Errorf("%s: Realise = %q, %d", what, path, code)
		}
		// An output that the derivation does not have: the build is the same, but there is no path.
		for _, none := range []string{"lib", "ou", "outs", "-"} {
			got, path, again := checkRealise(t, what+", "+none, b.store, b.top, none, nil)
			if code == impl.ErWell && again != impl.ErArg || code != impl.ErWell && again != code || path != "" || !sameStore(got, s) {
				t.Errorf("%s: Realise of %q = %q, %d", what, none, path, again)
			}
		}
	}
	for _, code := range []int{impl.ErWell, impl.ErMalformed, impl.ErArg, impl.ErFail, impl.ErDep, impl.ErFull, impl.ErNone} {
		if codes[code] == 0 {
			t.Errorf("no build has the code %d: %v", code, codes)
		}
	}
	// The other output of a derivation is built, too.
	d := pair()
	s := stocked(impl.Store{}, d)
	for _, out := range words("dev out") {
		got, path, code := checkRealise(t, "two outputs", s, nameOfDrv(d), string(out), nil)
		if code != impl.ErWell || len(got.Reals) != 2 || path != nameOf(outOf(nameOfDrv(d), string(out), dir(""))) {
			t.Errorf("two outputs: Realise of %q = %q, %d", out, path, code)
		}
	}
	// That an output is made already does not help where the build fails.
	for _, o := range []impl.Op{writeOp(0, "a", "$0"), copyOp(0, "a", 0), emitOp("$"), buildOp("a", 0), failOp()} {
		d := impl.Drv{Outs: words("dev out"), Ops: []impl.Op{o}}
		dev := outOf(nameOfDrv(d), "dev", dir(""))
		s := made(stocked(storeOf(dev), d), dev)
		for _, out := range words("dev out") {
			if got, path, code := checkRealise(t, "a failure, made", s, nameOfDrv(d), string(out), nil); code == impl.ErWell || path != "" || !sameStore(got, s) {
				t.Errorf("a failure, made: Realise of %q = %q, %d", out, path, code)
			}
		}
	}
	for what, s := range validStores() {
		checkRealise(t, what, s, absent(), "out", nil)
		for _, o := range s.Objs {
			if _, path, code := checkRealise(t, what, s, nameOf(o), "out", nil); code != impl.ErMalformed || path != "" {
				t.Errorf("%s: Realise of an object = %q, %d", what, path, code)
			}
		}
	}
}

// What has been added before a build fails remains.
func TestStoresOfFailedBuilds(t *testing.T) {
	l := textOf("a text")
	d := sourced(doing(emitOp("first"), writeOp(0, "a", "x"), emitOp("see $0"), failOp(), emitOp("never")), nameOf(l))
	s := rooted(stocked(storeOf(l), d), l)
	want := with(s, textOf("first"), textOf("see "+nameOf(l), nameOf(l)))
	if got, path, code := checkRealise(t, "a failure", s, nameOfDrv(d), "out", nil); code != impl.ErFail || path != "" || !sameStore(got, want) {
		t.Errorf("a failure: Realise = %v, %q, %d", got, path, code)
	}
	// So do the outputs of what was built for it.
	top := above("top", low(), d)
	s = stocked(s, low(), top)
	want, _ = registered(stocked(want, low(), top), finished(jobOf(low()), dir("a", file("low"))))
	if got, path, code := checkRealise(t, "a failing input", s, nameOfDrv(top), "out", nil); code != impl.ErDep || path != "" || !sameStore(got, want) {
		t.Errorf("a failing input: Realise = %v, %q, %d", got, path, code)
	}
	// And what a failing OpEmit has added.
	names := someObjs(3)
	d = sourced(doing(slices.Repeat([]impl.Op{emitOp("x")}, 7)...), strs(namesOf(names...))...)
	d.Ops = append(d.Ops, emitOp("the last one"))
	s = stocked(storeOf(names...), d)
	if got, _, code := checkRealise(t, "eleven Args", s, nameOfDrv(d), "out", nil); code != impl.ErArg || !sameStore(got, with(s, textOf("x"), textOf("the last one"))) {
		t.Errorf("eleven Args: Realise = %v, %d", got, code)
	}
}

// If a goal finds no room for what it requests, the first goal can be finished
// while others are not: the store is the one of that time.
func TestRealiseThatIsFinishedBeforeOthers(t *testing.T) {
	random := rand.New(rand.NewSource(78))
	b := builds()["13 goals"]
	stores, unfinished := map[string]bool{}, 0
	for range 60 {
		picks := somePicks(random)
		got, path, code := impl.Realise(b.store, []byte(b.top), []byte("out"), picks)
		end := checkRealised(t, "13 goals", b.store, b.top, "out", picks, got, string(path), code)
		if code != impl.ErDep || len(end.Goals) != 12 {
			t.Fatalf("picks %v: Realise = %q, %d at the end of %v", picks, path, code, end)
		}
		if !impl.Over(end) {
			unfinished++
		}
		stores[strings.Join(strs(impl.ObjNames(got)), " ")] = true
	}
	if len(stores) < 3 || unfinished < 20 {
		t.Errorf("too few stores: %d, and goals were left %d times", len(stores), unfinished)
	}
}

// The tests of promise 9: what was built is available immediately when built
// again, and nothing changes; its path is OutName; existing objects remain.

func checkBuiltAgain(t *testing.T, what string, random *rand.Rand, b build, output string) int {
	t.Helper()
	s, path, code := checkRealise(t, what, b.store, b.top, output, somePicks(random))
	checkKept(t, what, b.store, s)
	again, second, secondCode := checkRealise(t, what+", again", s, b.top, output, somePicks(random))
	checkKept(t, what+", again", s, again)
	name, _ := impl.OutName([]byte(b.top), []byte(output))
	if code == impl.ErWell && (path != string(name) || second != path || secondCode != impl.ErWell || impl.StoreCmp(s, again) != 0 || !sameStore(s, again)) {
		t.Errorf("%s: Realise = %q, %d, and then %q, %d", what, path, code, second, secondCode)
	}
	e, _ := impl.EngineNew(s, []byte(b.top))
	if at, ok := impl.Act(e, 0); code == impl.ErWell && (!ok || !sameEngine(at, engineOf(s, doneGoal(b.top)))) {
		t.Errorf("%s: what was built is available as %v", what, at)
	}
	return code
}

func TestBuiltAgain(t *testing.T) {
	random := rand.New(rand.NewSource(79))
	for what, b := range inOrder(builds()) {
		for range 3 {
			checkBuiltAgain(t, what, random, b, "out")
		}
		// With roots, and among other objects.
		more := b
		for _, o := range outputs(3) {
			if len(more.store.Objs) < 16 {
				more.store = with(more.store, o)
			}
		}
		if len(more.store.Objs) > 0 {
			more.store.Roots = [][]byte{more.store.Objs[0].Name}
		}
		checkBuiltAgain(t, what+", among others", random, more, "out")
	}
	if code := checkBuiltAgain(t, "the other output", random, buildOf(0, nil, pair()), "dev"); code != impl.ErWell {
		t.Error("the other output: code", code)
	}
}

func TestRandomBuildsAgain(t *testing.T) {
	random := rand.New(rand.NewSource(80))
	seen := map[int]int{}
	for range 60 {
		seen[checkBuiltAgain(t, "at random", random, randomBuild(random), "out")]++
	}
	if seen[impl.ErWell] < 15 || len(seen) < 2 {
		t.Error("too few of one sort:", seen)
	}
}

// What is built for one derivation is available for others.
func TestBuiltForAnother(t *testing.T) {
	b := builds()["a diamond"]
	left, right := above("left", low()), above("right", low())
	s, path, code := checkRealise(t, "left", b.store, nameOfDrv(left), "out", nil)
	if code != impl.ErWell || len(s.Reals) != 2 {
		t.Fatalf("left: Realise = %q, %d", path, code)
	}
	s, _, code = checkRealise(t, "right", s, nameOfDrv(right), "out", nil)
	if code != impl.ErWell || len(s.Reals) != 3 {
		t.Fatal("right: code", code)
	}
	s, path, code = checkRealise(t, "top", s, b.top, "out", nil)
	all, want, _ := checkRealise(t, "all at once", b.store, b.top, "out", nil)
	if code != impl.ErWell || path != want || impl.StoreCmp(s, all) != 0 {
		t.Errorf("top: Realise = %q, %d", path, code)
	}
}
