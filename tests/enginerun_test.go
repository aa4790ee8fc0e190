package tests

import (
	"fmt"
	"math/rand"
	"slices"
	"testing"

	"loop.example/g00538/impl"
)

// The tests of promise 7 for whole builds, step by step from EngineNew to the
// end: with each goal that is ready, in each step.

// start returns a new engine for a build.
func start(t *testing.T, what string, b build) impl.Engine {
	t.Helper()
	e, ok := impl.EngineNew(b.store, []byte(b.top))
	if !ok || !impl.EngineOk(e) || !sameEngine(e, engineOf(b.store, newGoal(b.top))) {
		t.Fatalf("%s: EngineNew = %v, %t", what, e, ok)
	}
	return e
}

// explore lets the goals act in every order, and returns the engines in which nothing is ready.
func explore(t *testing.T, what string, e impl.Engine) []impl.Engine {
	t.Helper()
	seen := map[string]bool{}
	var last []impl.Engine
	var visit func(e impl.Engine)
	visit = func(e impl.Engine) {
		key := fmt.Sprint(e)
		if seen[key] {
			return
		}
		seen[key] = true
		ready := impl.Ready(e)
		if !slices.Equal(ready, readyOf(e)) {
			t.Fatalf("%s: Ready(%v) = %v", what, e, ready)
		}
		if len(ready) == 0 {
			last = append(last, e)
		}
		for _, i := range ready {
			got, ok := impl.Act(e, i)
			checkActed(t, what, e, i, got, ok)
			visit(got)
		}
	}
	visit(e)
	return last
}

// resultsOf returns how each derivation ended, in no order of the goals.
func resultsOf(e impl.Engine) string {
	results := map[string]int{}
	for _, g := range e.Goals {
		results[string(g.Drv)] = g.State*10 + g.Err
	}
	return fmt.Sprint(results)
}

// checkEnd fails if an engine in which nothing is ready is not over.
func checkEnd(t *testing.T, what string, b build, e impl.Engine) {
	t.Helper()
	if !impl.Over(e) || impl.CountGoals(e, impl.GoDone)+impl.CountGoals(e, impl.GoFail) != len(e.Goals) {
		t.Fatalf("%s: nothing is ready in %v", what, e)
	}
	checkKept(t, what, b.store, e.Store)
	if g := e.Goals[0]; string(g.Drv) != b.top || !b.free && g.Err != b.code {
		t.Errorf("%s: ends with %v instead of code %d", what, g, b.code)
	}
	for i := range e.Goals {
		checkNoAct(t, what, e, i)
	}
}

func TestEachOrderOfSteps(t *testing.T) {
	for what, b := range inOrder(builds()) {
		if b.large {
			continue
		}
		last := explore(t, what, start(t, what, b))
		codes := map[int]bool{}
		for _, e := range last {
			checkEnd(t, what, b, e)
			codes[e.Goals[0].Err] = true
			if !b.free && resultsOf(e) != resultsOf(last[0]) {
				t.Errorf("%s: ends with %v or with %v", what, e, last[0])
			}
		}
		if !codes[b.code] {
			t.Errorf("%s: ends with codes %v", what, codes)
		}
	}
}

// runAtRandom lets goals act that are picked at random, and returns the engine in which nothing is ready.
func runAtRandom(t *testing.T, what string, random *rand.Rand, b build) impl.Engine {
	t.Helper()
	e := start(t, what, b)
	for {
		ready := impl.Ready(e)
		if !slices.Equal(ready, readyOf(e)) {
			t.Fatalf("%s: Ready(%v) = %v", what, e, ready)
		}
		if len(ready) == 0 {
			return e
		}
		i := ready[random.Intn(len(ready))]
		if random.Intn(20) == 0 {
			e = checkAct(t, what, e, i)
			continue
		}
		got, ok := impl.Act(e, i)
		checkActed(t, what, e, i, got, ok)
		e = got
	}
}

func TestOrdersAtRandom(t *testing.T) {
	random := rand.New(rand.NewSource(74))
	for what, b := range inOrder(builds()) {
		for range 3 {
			checkEnd(t, what, b, runAtRandom(t, what, random, b))
		}
	}
}

func TestOrdersOfRandomBuilds(t *testing.T) {
	random := rand.New(rand.NewSource(75))
	seen := map[int]int{}
	for range 60 {
		b := randomBuild(random)
		b.free = true
		results := map[string]bool{}
		full := false
		for range 3 {
			e := runAtRandom(t, "at random", random, b)
			checkEnd(t, "at random", b, e)
			results[resultsOf(e)] = true
			full = full || hasFull(e)
			seen[e.Goals[0].Err]++
		}
		if !full && len(results) != 1 {
			t.Errorf("%v ends with %v", b, results)
		}
	}
	if seen[impl.ErWell] < 20 || seen[impl.ErDep] < 5 {
		t.Error("too few of one sort:", seen)
	}
}

// hasFull reports whether an ErFull occurred.
func hasFull(e impl.Engine) bool {
	return slices.ContainsFunc(e.Goals, func(g impl.Goal) bool { return g.Err == impl.ErFull })
}

// A build, with all that happens in each step.
func TestSteps(t *testing.T) {
	d := low()
	top := needing(doing(copyOp(0, "l", 0), emitDrv(inner()), buildOp("out", 1), copyOp(0, "m", 2)), out(d))
	e := start(t, "the build", build{store: stocked(impl.Store{}, d, top), top: nameOfDrv(top)})
	a, b, c := nameOfDrv(top), nameOfDrv(d), nameOfDrv(inner())
	for n, step := range []struct {
		ready []int
		act   int
		text  string
	}{
		{[]int{0}, 0, a + " waits\n" + b + " new\n"},
		{[]int{1}, 1, a + " waits\n" + b + " waits\n"},
		{[]int{1}, 1, a + " waits\n" + b + " runs\n"},
		{[]int{1}, 1, a + " waits\n" + b + " runs\n"},
		{[]int{1}, 1, a + " waits\n" + b + " done\n"},
		{[]int{0}, 0, a + " runs\n" + b + " done\n"},
		{[]int{0}, 0, a + " runs\n" + b + " done\n"},
		{[]int{0}, 0, a + " runs\n" + b + " done\n"},
		{[]int{0}, 0, a + " waits\n" + b + " done\n" + c + " new\n"},
		{[]int{2}, 2, a + " waits\n" + b + " done\n" + c + " waits\n"},
		{[]int{2}, 2, a + " waits\n" + b + " done\n" + c + " runs\n"},
		{[]int{2}, 2, a + " waits\n" + b + " done\n" + c + " runs\n"},
		{[]int{2}, 2, a + " waits\n" + b + " done\n" + c + " done\n"},
		{[]int{0}, 0, a + " runs\n" + b + " done\n" + c + " done\n"},
		{[]int{0}, 0, a + " runs\n" + b + " done\n" + c + " done\n"},
		{[]int{0}, 0, a + " done\n" + b + " done\n" + c + " done\n"},
	} {
		if got := impl.Ready(e); !slices.Equal(got, step.ready) || impl.Over(e) {
			t.Fatalf("step %d: Ready = %v", n, got)
		}
		e = checkAct(t, "the build", e, step.act)
		if got := string(impl.GoalText(e)); got != step.text {
			t.Fatalf("step %d: the goals are %q", n, got)
		}
	}
	tree := dir("l m", dir("a", file("low")), dir("b", file("inner")))
	if o, ok := impl.Find(e.Store, outOf(a, "out", tree).Name); !ok || !same(o.Tree, tree) || !impl.Over(e) || len(impl.Ready(e)) != 0 {
		t.Errorf("the output is %v, %t", o, ok)
	}
}
