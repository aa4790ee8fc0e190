package tests

import (
	"math"
	"math/rand"
	"reflect"
	"slices"
	"strconv"
	"testing"

	"loop.example/g00538/impl"
)

// The tests of promise 7 that concern what a valid engine is, what the
// functions of chapter 7 tell of it, and what they return for others.

func TestEngineConstants(t *testing.T) {
	checkConstants(t, []int{impl.MaxGoals, impl.GoNew, impl.GoRun, impl.GoWait, impl.GoDone, impl.GoFail}, 12, 0, 1, 2, 3, 4)
}

func TestEngineOk(t *testing.T) {
	checkOk(t, "EngineOk", impl.EngineOk, validEngine, validEngines(), brokenEngines())
}

// Each of these is valid by one number alone.
func TestEngineOkOfEachNumber(t *testing.T) {
	for n := range 16 {
		if ok := impl.EngineOk(engineOf(impl.Store{}, newGoals(n)...)); ok != (n <= 12) {
			t.Errorf("%d goals: %t", n, ok)
		}
		if n < 2 {
			continue
		}
		// The last goal, and one in the middle, are the first one again.
		for _, at := range []int{n - 1, n / 2} {
			twice := newGoals(n)
			twice[at].Drv = twice[0].Drv
			if impl.EngineOk(engineOf(impl.Store{}, twice...)) {
				t.Errorf("goal %d of %d is the first one again", at, n)
			}
		}
	}
	numbers := []int{math.MinInt, -256, -2, -1, 0, 1, 2, 3, 4, 5, 6, 7, 8, 9, 10, 255, 256, 257, 1 << 32, math.MaxInt}
	for _, state := range numbers {
		bare := impl.Goal{Drv: []byte(zeros), State: state}
		if ok := impl.EngineOk(engineOf(impl.Store{}, bare)); ok != (state == impl.GoNew || state == impl.GoDone) {
			t.Errorf("State %d of a bare goal: %t", state, ok)
		}
		busy := runningGoal(sampleJob())
		busy.State = state
		if ok := impl.EngineOk(engineOf(impl.Store{}, busy)); ok != (state == impl.GoRun || state == impl.GoWait) {
			t.Errorf("State %d of a goal with a job: %t", state, ok)
		}
		for i, g := range eachGoal() {
			with := eachGoal()
			with[i].Err = state
			if ok := impl.EngineOk(engineOf(impl.Store{}, with...)); ok != (g.State == impl.GoFail && state >= 1 && state <= 8 || g.State != impl.GoFail && state == 0) {
				t.Errorf("Err %d of goal %d: %t", state, i, ok)
			}
		}
	}
}

// What a goal needs is looked for among all goals, before it and behind it.
func TestEngineOkOfNeeds(t *testing.T) {
	j := jobOf(doing(buildOp("a", 0)), zeros)
	for at := range 12 {
		goals := newGoals(11)
		for i := range 13 {
			g := waitingGoal(j, drvName(i))
			e := engineOf(impl.Store{}, slices.Insert(slices.Clone(goals), min(at, 11), g)...)
			if ok := impl.EngineOk(e); ok != (i < 11) {
				t.Errorf("goal %d needs %d: %t", at, i, ok)
			}
		}
	}
}

func TestEngineOkOfRandomEngines(t *testing.T) {
	random := rand.New(rand.NewSource(71))
	seen := map[bool]int{}
	for range 1500 {
		e := randomEngine(random)
		if !impl.EngineOk(e) || !validEngine(e) {
			t.Fatalf("EngineOk(%v) is false", e)
		}
		i := random.Intn(len(e.Goals))
		other := randomEngine(random)
		given := other.Goals[random.Intn(len(other.Goals))]
		g := changedGoal(e.Goals[i], func(g *impl.Goal) {
			switch random.Intn(8) {
			case 0:
				g.Drv = given.Drv
			case 1:
				g.State = given.State
			case 2:
				g.Err = random.Intn(11) - 1
			case 3:
				g.Begun = !g.Begun
			case 4:
				g.Job = given.Job
			case 5:
				g.Need = given.Need
			case 6:
				g.Need = append(g.Need, e.Goals[random.Intn(len(e.Goals))].Drv)
			case 7:
				*g = given
			}
		})
		e = withGoal(e, i, g)
		want := validEngine(e)
		seen[want]++
		if got := impl.EngineOk(e); got != want {
			t.Fatalf("EngineOk(%v) = %t", e, got)
		}
	}
	if seen[true] < 300 || seen[false] < 300 {
		t.Fatal("too few engines of one sort:", seen)
	}
}

// checkEngineNew fails if EngineNew does not return an engine with that goal.
func checkEngineNew(t *testing.T, what string, s impl.Store, drv string) {
	t.Helper()
	r := checkCall(t, what+": EngineNew", impl.EngineNew, s, []byte(drv))
	if got, ok := r[0].(impl.Engine), r[1].(bool); !ok || !sameEngine(got, engineOf(s, newGoal(drv))) || !impl.EngineOk(got) {
		t.Errorf("%s: EngineNew(%q) = %v, %t", what, drv, got, ok)
	}
}

func checkNoEngine(t *testing.T, what string, s impl.Store, drv string) {
	t.Helper()
	if got, ok := impl.EngineNew(s, []byte(drv)); ok || !sameEngine(got, impl.Engine{}) {
		t.Errorf("%s: EngineNew(%q) = %v, %t", what, drv, got, ok)
	}
}

func TestEngineNew(t *testing.T) {
	for what, s := range validStores() {
		// Whether there is such an object, or what it is, is found out later.
		checkEngineNew(t, what+", no such object", s, absent())
		checkEngineNew(t, what+", no such object", s, zeros)
		for i, o := range s.Objs {
			if i < 3 {
				checkEngineNew(t, what, s, nameOf(o))
			}
		}
		for _, drv := range noNames {
			checkNoEngine(t, what, s, drv)
		}
	}
	checkEngineNew(t, "a derivation", storeOf(drvText(doing())), nameOfDrv(doing()))
	for what, s := range brokenStores() {
		checkNoEngine(t, what, s, zeros)
		checkNoEngine(t, what+", no name", s, "")
		if len(s.Objs) > 0 && isName(nameOf(s.Objs[0])) {
			checkNoEngine(t, what, s, nameOf(s.Objs[0]))
		}
	}
}

// checkTells fails if a function does not tell of a valid engine what the document says.
func checkTells(t *testing.T, what string, e impl.Engine) {
	t.Helper()
	if got := checkCall(t, what+": Ready", impl.Ready, e)[0].([]int); !slices.Equal(got, readyOf(e)) {
		t.Errorf("%s: Ready(%v) = %v", what, e, got)
	}
	text, finished := "", 0
	for i, g := range e.Goals {
		words := []string{"new", "runs", "waits", "done", "fails " + strconv.Itoa(g.Err)}
		text += string(g.Drv) + " " + words[g.State] + "\n"
		if over(g) {
			finished++
		}
		if got := checkCall(t, what+": GoalAt", impl.GoalAt, e, g.Drv)[0].(int); got != i {
			t.Errorf("%s: GoalAt goal %d = %d", what, i, got)
		}
	}
	if got := checkCall(t, what+": GoalText", impl.GoalText, e)[0].([]byte); string(got) != text {
		t.Errorf("%s: GoalText(%v) = %q", what, e, got)
	}
	for _, drv := range append([]string{absent(), last1}, noNames...) {
		if got := impl.GoalAt(e, []byte(drv)); got != -1 {
			t.Errorf("%s: GoalAt(%q) = %d", what, drv, got)
		}
	}
	if got := checkCall(t, what+": Over", impl.Over, e)[0].(bool); got != (finished == len(e.Goals)) {
		t.Errorf("%s: Over(%v) = %t", what, e, got)
	}
	checkCounted(t, what, e)
}

// checkCounted fails if the goals in all states are not all goals.
func checkCounted(t *testing.T, what string, e impl.Engine) {
	t.Helper()
	sum := 0
	for state := -2; state < 8; state++ {
		want := 0
		for _, g := range e.Goals {
			if g.State == state {
				want++
			}
		}
		got := impl.CountGoals(e, state)
		if got != want {
			t.Errorf("%s: CountGoals(%v, %d) = %d", what, e, state, got)
		}
		sum += got
	}
	if sum != len(e.Goals) {
		t.Errorf("%s: the goals in all states of %v are %d", what, e, sum)
	}
}

func TestTold(t *testing.T) {
	for what, e := range validEngines() {
		checkTells(t, what, e)
		for _, state := range []int{math.MinInt, -1, 5, 256, 258, math.MaxInt} {
			if got := checkCall(t, what+": CountGoals", impl.CountGoals, e, state)[0].(int); got != 0 {
				t.Errorf("%s: CountGoals of %d = %d", what, state, got)
			}
		}
	}
}

func TestToldOfRandomEngines(t *testing.T) {
	random := rand.New(rand.NewSource(72))
	for range 80 {
		checkTells(t, "at random", randomEngine(random))
	}
}

func TestGoalText(t *testing.T) {
	e := engineOf(fullStore(), eachGoal()...)
	want := ""
	for i, word := range []string{"new", "runs", "waits", "done", "fails 4", "waits"} {
		want += string(e.Goals[i].Drv) + " " + word + "\n"
	}
	if got := impl.GoalText(e); string(got) != want {
		t.Errorf("GoalText = %q", got)
	}
	for code := 1; code <= 8; code++ {
		if got := impl.GoalText(engineOf(impl.Store{}, failedGoal(zeros, code))); string(got) != zeros+" fails "+strconv.Itoa(code)+"\n" {
			t.Errorf("GoalText of code %d = %q", code, got)
		}
	}
	if got := impl.GoalText(impl.Engine{}); len(got) != 0 {
		t.Errorf("GoalText of no goals = %q", got)
	}
}

func TestOver(t *testing.T) {
	var goals []impl.Goal
	for i := range 12 {
		if i%2 == 0 {
			goals = append(goals, doneGoal(drvName(20+i)))
		} else {
			goals = append(goals, failedGoal(drvName(20+i), i%8+1))
		}
	}
	for n := range 13 {
		if !impl.Over(engineOf(impl.Store{}, goals[:n]...)) {
			t.Errorf("%d finished goals are not over", n)
		}
		for i := range n {
			for _, g := range eachGoal() {
				g.Need = nil
				e := withGoal(engineOf(impl.Store{}, goals[:n]...), i, g)
				if impl.Over(e) != over(g) {
					t.Errorf("goal %d of %d is %v: Over is %t", i, n, g, impl.Over(e))
				}
			}
		}
	}
}

// checkReady fails if not exactly these goals are ready.
func checkReady(t *testing.T, what string, e impl.Engine, want ...int) {
	t.Helper()
	if got := impl.Ready(e); !impl.EngineOk(e) || !slices.Equal(got, want) {
		t.Errorf("%s: Ready = %v", what, got)
	}
	for i := range e.Goals {
		if _, ok := impl.Act(e, i); ok != slices.Contains(want, i) {
			t.Errorf("%s: Act(%d) is %t", what, i, ok)
		}
	}
}

func TestReady(t *testing.T) {
	a, b := jobOf(doing(buildOp("a", 0)), zeros), jobOf(doing(buildOp("b", 0)), zeros)
	first, second := string(a.Name), string(b.Name)
	checkReady(t, "no goals", impl.Engine{})
	checkReady(t, "a goal of each state", engineOf(impl.Store{}, eachGoal()...), 0, 1, 5)
	checkReady(t, "12 new goals", engineOf(impl.Store{}, newGoals(12)...), 0, 1, 2, 3, 4, 5, 6, 7, 8, 9, 10, 11)
	for what, wait := range map[string]func(j impl.Job, need ...string) impl.Goal{"": waitingGoal, "begun, ": pausingGoal} {
		checkReady(t, what+"an empty Need", engineOf(impl.Store{}, wait(a)), 0)
		checkReady(t, what+"for itself", engineOf(impl.Store{}, wait(a, first)))
		checkReady(t, what+"for itself and one that is done", engineOf(impl.Store{}, wait(a, drvName(0), first), doneGoal(drvName(0))))
		checkReady(t, what+"for each other", engineOf(impl.Store{}, wait(a, second), wait(b, first)))
		checkReady(t, what+"for each other, beside others", engineOf(impl.Store{}, doneGoal(drvName(0)), wait(a, second), newGoal(drvName(1)), wait(b, first, drvName(0))), 2)
		checkReady(t, what+"for one that waits", engineOf(impl.Store{}, wait(a, second), wait(b)), 1)
		checkReady(t, what+"for one that waits for itself", engineOf(impl.Store{}, wait(a, second), wait(b, second)))
		// One and several goals of Need, of which none, some and all are finished.
		for n := 1; n <= 4; n++ {
			for finished := range 1 << n {
				e := engineOf(impl.Store{}, newGoals(4)...)
				for i := range n {
					if finished>>i&1 == 1 {
						e = ended(e, i, []int{0, impl.ErFail}[(i+finished)%2])
					}
				}
				e.Goals = append(e.Goals, wait(a, needsOf(newGoals(n))...))
				checkReady(t, what+"for "+strconv.Itoa(n), e, readyOf(e)...)
				if got := slices.Contains(readyOf(e), 4); got != (finished == 1<<n-1) {
					t.Errorf("%d of %d goals are finished: %t", finished, n, got)
				}
			}
		}
	}
}

// checkEngineRefused fails if a function does not return its fixed results: e is not valid.
func checkEngineRefused(t *testing.T, what string, e impl.Engine) {
	t.Helper()
	drv := []byte(zeros)
	if len(e.Goals) > 0 {
		drv = e.Goals[0].Drv
	}
	if got := impl.Ready(e); len(got) != 0 {
		t.Errorf("%s: Ready = %v", what, got)
	}
	for _, i := range []int{-1, 0, 1, 2, 3, 4, 5, len(e.Goals) - 1, len(e.Goals)} {
		if got, ok := impl.Act(e, i); ok || !sameEngine(got, impl.Engine{}) {
			t.Errorf("%s: Act(%d) = %v, %t", what, i, got, ok)
		}
	}
	if got := impl.GoalText(e); len(got) != 0 {
		t.Errorf("%s: GoalText = %q", what, got)
	}
	for state := -1; state <= 5; state++ {
		if got := impl.CountGoals(e, state); got != -1 {
			t.Errorf("%s: CountGoals(%d) = %d", what, state, got)
		}
	}
	if got := impl.GoalAt(e, drv); got != -1 {
		t.Errorf("%s: GoalAt = %d", what, got)
	}
	if impl.Over(e) {
		t.Errorf("%s: Over is true", what)
	}
}

func TestInvalidEngines(t *testing.T) {
	for what, e := range brokenEngines() {
		checkEngineRefused(t, what, e)
	}
	// That all goals are finished does not make these valid.
	for what, s := range brokenStores() {
		checkEngineRefused(t, what, engineOf(s, doneGoal(zeros), failedGoal(last1, impl.ErFail)))
	}
	for i := range 14 {
		goals := []impl.Goal{doneGoal(zeros), failedGoal(last1, i-3)}
		if i-3 < 1 || i-3 > 8 {
			checkEngineRefused(t, "finished, Err "+strconv.Itoa(i-3), engineOf(impl.Store{}, goals...))
		}
	}
	checkEngineRefused(t, "done twice", engineOf(impl.Store{}, doneGoal(zeros), doneGoal(zeros)))
}

// The store, the goals and their jobs may share memory with each other, but the results do not.
func TestEnginesOfSharedMemory(t *testing.T) {
	_, c := workplace()
	for _, o := range append(eachOp(), emitOp("$0"), emitOp("the end"), writeOp(0, "w", "$0"), copyOp(0, "tree", 0), buildOp("a", 0)) {
		d := needing(doing(o), impl.In{Drv: c[2].From, Out: c[2].Out})
		text := drvText(d)
		s := made(storeOf(append(slices.Clone(c), text)...), c[2])
		s.Roots = [][]byte{text.Name}
		j := jobOf(d)
		j.Name, j.Args, j.Outs[0] = text.Name, [][]byte{text.Name, c[1].Name, c[1].Name}, c[1].Tree
		other := impl.Goal{Drv: c[2].From, State: impl.GoDone}
		for what, g := range map[string]impl.Goal{"new": {Drv: text.Name}, "runs": runningGoal(j), "is done": runningGoal(finished(j)), "waits": {Drv: text.Name, State: impl.GoWait, Job: j, Need: [][]byte{c[2].From, c[2].From}}, "has waited": {Drv: text.Name, State: impl.GoWait, Begun: true, Job: j, Need: [][]byte{c[2].From}}} {
			e := engineOf(s, other, g)
			for call, results := range map[string][]any{
				"EngineNew": list(impl.EngineNew(s, text.Name)),
				"Act":       list(impl.Act(e, 1)),
				"Realise":   list(impl.Realise(s, text.Name, d.Outs[0], nil)),
				"GoalText":  list(impl.GoalText(e)),
			} {
				var values []reflect.Value
				for _, r := range results {
					values = append(values, reflect.ValueOf(r))
				}
				checkApart(t, call+" of "+show(o)+" that "+what, regionsOf(values), regionsOf([]reflect.Value{reflect.ValueOf(e)}))
			}
			if _, ok := impl.Act(e, 1); !ok {
				t.Errorf("%s that %s does not act", show(o), what)
			}
		}
	}
}
