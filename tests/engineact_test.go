package tests

import (
	"bytes"
	"math"
	"math/rand"
	"slices"
	"strconv"
	"testing"

	"loop.example/g00538/impl"
)

// The tests of promise 7, as far as it speaks of one step: it leaves a valid
// engine, a finished goal remains finished, and no goal disappears.

// checkAct lets a goal that is ready make a step, and fails if anything but what
// the document names has changed.
func checkAct(t *testing.T, what string, e impl.Engine, i int) impl.Engine {
	t.Helper()
	r := checkCall(t, what+": Act", impl.Act, e, i)
	got, ok := r[0].(impl.Engine), r[1].(bool)
	checkActed(t, what, e, i, got, ok)
	return got
}

// checkActed fails if got and ok are not what Act has to return for a goal that is ready.
func checkActed(t *testing.T, what string, e impl.Engine, i int, got impl.Engine, ok bool) {
	t.Helper()
	if want := acted(e, i); !ok || !sameEngine(got, want) {
		t.Fatalf("%s: Act(%v, %d) = %v, %t instead of %v", what, e, i, got, ok, want)
	}
	if !impl.EngineOk(got) {
		t.Fatalf("%s: Act(%v, %d) = %v, which is not valid", what, e, i, got)
	}
	if !sameStore(e.Store, got.Store) {
		checkKept(t, what, e.Store, got.Store)
	}
	sum := 0
	for state := range 5 {
		sum += impl.CountGoals(got, state)
	}
	if sum != len(got.Goals) || len(got.Goals) < len(e.Goals) {
		t.Fatalf("%s: Act(%v, %d) = %v, of which %d are counted", what, e, i, got, sum)
	}
	for k, g := range got.Goals {
		if k >= len(e.Goals) {
			if !sameGoal(g, newGoal(string(g.Drv))) {
				t.Fatalf("%s: Act(%v, %d) adds %v", what, e, i, g)
			}
			continue
		}
		if string(g.Drv) != string(e.Goals[k].Drv) || over(e.Goals[k]) && !over(g) {
			t.Fatalf("%s: Act(%v, %d) makes %v of goal %d", what, e, i, g, k)
		}
		if k != i && !sameGoal(g, bare(e).Goals[k]) || k == i && sameGoal(g, e.Goals[i]) {
			t.Fatalf("%s: Act(%v, %d) makes %v of goal %d", what, e, i, g, k)
		}
	}
}

// checkNoAct fails if the goal can make a step.
func checkNoAct(t *testing.T, what string, e impl.Engine, i int) {
	t.Helper()
	if got, ok := impl.Act(e, i); ok || !sameEngine(got, impl.Engine{}) {
		t.Fatalf("%s: Act(%d) = %v, %t", what, i, got, ok)
	}
}

// checkFinishes fails if the step does not finish goal i with that code, and leave the store and all other goals as they are.
func checkFinishes(t *testing.T, what string, e impl.Engine, i, code int) {
	t.Helper()
	got := checkAct(t, what, e, i)
	if want := ended(bare(e), i, code); !sameEngine(got, want) {
		t.Fatalf("%s: Act(%v, %d) = %v instead of code %d", what, e, i, got, code)
	}
}

// checkBecomes fails if the step does not make g of goal i, add new goals for these derivations, and change nothing else.
func checkBecomes(t *testing.T, what string, e impl.Engine, i int, g impl.Goal, more ...string) {
	t.Helper()
	got := checkAct(t, what, e, i)
	want := withGoal(bare(e), i, g)
	for _, drv := range more {
		want.Goals = append(want.Goals, newGoal(drv))
	}
	if !sameEngine(got, want) {
		t.Fatalf("%s: Act(%v, %d) = %v instead of %v", what, e, i, got, want)
	}
}

func inOf(drv, out string) impl.In { return impl.In{Drv: []byte(drv), Out: []byte(out)} }

// with returns s with these objects, too.
func with(s impl.Store, objs ...impl.Obj) impl.Store {
	more := storeOf(append(slices.Clone(s.Objs), objs...)...)
	more.Roots, more.Reals = s.Roots, s.Reals
	return more
}

// madeOf makes outputs of a derivation that is a name only.
func madeOf(drv, outs string) []impl.Obj {
	var l []impl.Obj
	for _, out := range words(outs) {
		l = append(l, outOf(drv, string(out), dir("n", file(string(out)))))
	}
	return l
}

// everywhere calls check with an engine whose store is s and whose goals are
// these alone, and then, behind others and before others, and the index of the first one.
func everywhere(s impl.Store, goals []impl.Goal, check func(how string, e impl.Engine, i int)) {
	stray := changedGoal(newGoal(drvName(40)), func(g *impl.Goal) { g.Job.D = stray() })
	others := append([]impl.Goal{stray}, eachGoal()...)
	check("alone", engineOf(s, goals...), 0)
	check("before others", engineOf(s, slices.Concat(goals, others)...), 0)
	check("behind others", engineOf(s, slices.Concat(others, goals)...), len(others))
}

func TestActOfNoGoal(t *testing.T) {
	for what, e := range validEngines() {
		for _, i := range []int{math.MinInt, -256, -2, -1, len(e.Goals), len(e.Goals) + 1, 12, 13, 256, math.MaxInt} {
			checkNoAct(t, what, e, i)
		}
		for i := range e.Goals {
			if !slices.Contains(readyOf(e), i) {
				checkNoAct(t, what, e, i)
			}
		}
	}
}

func TestActOfEachReadyGoal(t *testing.T) {
	for what, e := range validEngines() {
		for _, i := range readyOf(e) {
			checkAct(t, what, e, i)
		}
	}
}

// GoNew

func TestNewGoalsThatFail(t *testing.T) {
	l := someObjs(3)
	d := impl.Drv{Srcs: namesOf(l...), Outs: words("dev out"), Ops: eachOp()}
	name := nameOfDrv(d)
	bytes400 := string(pattern(400))
	for what, x := range map[string]struct {
		drv  string
		objs []impl.Obj
		code int
	}{
		"an empty store":              {name, nil, impl.ErNone},
		"no such object":              {name, l, impl.ErNone},
		"no source":                   {name, []impl.Obj{drvText(d)}, impl.ErNone},
		"one source of three":         {name, []impl.Obj{l[1], drvText(d)}, impl.ErNone},
		"two sources of three":        {name, []impl.Obj{l[0], l[1], drvText(d)}, impl.ErNone},
		"a text":                      {nameOf(l[0]), l, impl.ErMalformed},
		"an empty text":               {nameFor('t', ""), []impl.Obj{textOf("")}, impl.ErMalformed},
		"the longest text":            {nameFor('t', bytes400), []impl.Obj{textOf(bytes400)}, impl.ErMalformed},
		"a derivation and more":       {nameFor('t', string(encodeDrv(doing()))+"x"), []impl.Obj{textOf(string(encodeDrv(doing())) + "x")}, impl.ErMalformed},
		"a derivation that is broken": {nameOfDrv(stray()), []impl.Obj{drvText(stray())}, impl.ErMalformed},
		"a tree of a derivation":      {nameOf(treeOf(file(string(encodeDrv(doing()))))), []impl.Obj{treeOf(file(string(encodeDrv(doing()))))}, impl.ErMalformed},
		"an output of a derivation":   {nameOf(outOf(zeros, "out", file(string(encodeDrv(doing()))))), []impl.Obj{outOf(zeros, "out", file(string(encodeDrv(doing()))))}, impl.ErMalformed},
	} {
		everywhere(storeOf(x.objs...), []impl.Goal{newGoal(x.drv)}, func(how string, e impl.Engine, i int) {
			checkFinishes(t, what+", "+how, e, i, x.code)
		})
		// That its outputs exist does not help.
		outs := madeOf(x.drv, "dev out")
		s := made(storeOf(append(outs, x.objs...)...), outs...)
		checkFinishes(t, what+", made", engineOf(s, newGoal(x.drv)), 0, x.code)
		// That there is no room for its inputs comes later.
		checkFinishes(t, what+", 12 goals", engineOf(s, append(newGoals(11), newGoal(x.drv))...), 11, x.code)
	}
}

func TestNewGoalsThatAreMade(t *testing.T) {
	for _, outs := range []string{"out", "dev out"} {
		for _, ins := range [][]impl.In{nil, {inOf(absent(), "out")}, {inOf(drvName(0), "dev"), inOf(drvName(0), "out"), inOf(zeros, "a")}} {
			d := needing(impl.Drv{Outs: words(outs), Ops: eachOp()}, ins...)
			name := nameOfDrv(d)
			all := madeOf(name, outs)
			var needed []string
			for _, in := range d.Ins {
				needed = append(needed, string(in.Drv))
			}
			needed = sorted(needed)
			base := storeOf(append(all, drvText(d))...)
			// Each set of its outputs may be made; that they are there is not enough.
			for set := range 1 << len(all) {
				var some []impl.Obj
				for i, o := range all {
					if set>>i&1 == 1 {
						some = append(some, o)
					}
				}
				s := made(base, some...)
				everywhere(s, []impl.Goal{newGoal(name)}, func(how string, e impl.Engine, i int) {
					what := outs + ", " + strconv.Itoa(len(ins)) + " inputs, " + strconv.Itoa(set) + ", " + how
					if len(some) == len(all) {
						checkFinishes(t, what, e, i, impl.ErWell)
						return
					}
					var more []string
					for _, drv := range needed {
						if goalOf(e, drv) < 0 {
							more = append(more, drv)
						}
					}
					checkBecomes(t, what, e, i, waitingGoal(jobOf(d), needed...), more...)
				})
			}
			// What other derivations have made does not count.
			s := made(with(base, madeOf(zeros, outs)...), madeOf(zeros, outs)...)
			if got := checkAct(t, "made by another", engineOf(s, newGoal(name)), 0); got.Goals[0].State != impl.GoWait {
				t.Errorf("%v is %v", d, got)
			}
		}
	}
	// That all is made comes before that there is no room for the inputs.
	d := needing(doing(), inOf(absent(), "out"))
	all := madeOf(nameOfDrv(d), "out")
	checkFinishes(t, "made, 12 goals", engineOf(made(storeOf(append(all, drvText(d))...), all...), append(newGoals(11), newGoal(nameOfDrv(d)))...), 11, impl.ErWell)
}

func TestNewGoalsRequest(t *testing.T) {
	l := someObjs(2)
	base := impl.Drv{Srcs: namesOf(l...), Outs: words("dev out"), Ops: eachOp()}
	names := strs(someNames(3))
	x, y, z := names[0], names[1], names[2]
	for what, w := range map[string]struct {
		ins    []impl.In
		others []impl.Goal
		need   []string
		more   []string
	}{
		"no inputs":                     {},
		"no inputs, other goals":        {others: []impl.Goal{newGoal(x), doneGoal(y)}},
		"an input":                      {[]impl.In{inOf(x, "out")}, nil, []string{x}, []string{x}},
		"an input that is a goal":       {[]impl.In{inOf(x, "out")}, []impl.Goal{newGoal(x)}, []string{x}, nil},
		"an input that is done":         {[]impl.In{inOf(x, "out")}, []impl.Goal{doneGoal(x)}, []string{x}, nil},
		"an input that failed":          {[]impl.In{inOf(x, "out")}, []impl.Goal{failedGoal(x, 3)}, []string{x}, nil},
		"another goal":                  {[]impl.In{inOf(x, "out")}, []impl.Goal{newGoal(y)}, []string{x}, []string{x}},
		"two of one":                    {[]impl.In{inOf(x, "dev"), inOf(x, "out")}, nil, []string{x}, []string{x}},
		"two of one that is a goal":     {[]impl.In{inOf(x, "dev"), inOf(x, "out")}, []impl.Goal{newGoal(z), newGoal(x)}, []string{x}, nil},
		"three of one":                  {[]impl.In{inOf(x, "a"), inOf(x, "b"), inOf(x, "c")}, nil, []string{x}, []string{x}},
		"two of one, and another":       {[]impl.In{inOf(x, "dev"), inOf(x, "out"), inOf(y, "a")}, nil, []string{x, y}, []string{x, y}},
		"one, and two of another":       {[]impl.In{inOf(x, "z"), inOf(y, "dev"), inOf(y, "out")}, nil, []string{x, y}, []string{x, y}},
		"three":                         {[]impl.In{inOf(x, "out"), inOf(y, "out"), inOf(z, "out")}, nil, []string{x, y, z}, []string{x, y, z}},
		"three, of which all are goals": {[]impl.In{inOf(x, "out"), inOf(y, "out"), inOf(z, "out")}, []impl.Goal{doneGoal(z), newGoal(x), failedGoal(y, 8)}, []string{x, y, z}, nil},
		"three, the first is a goal":    {[]impl.In{inOf(x, "out"), inOf(y, "out"), inOf(z, "out")}, []impl.Goal{newGoal(x)}, []string{x, y, z}, []string{y, z}},
		"three, the second is a goal":   {[]impl.In{inOf(x, "out"), inOf(y, "out"), inOf(z, "out")}, []impl.Goal{doneGoal(y)}, []string{x, y, z}, []string{x, z}},
		"three, the last is a goal":     {[]impl.In{inOf(x, "out"), inOf(y, "out"), inOf(z, "out")}, []impl.Goal{failedGoal(z, 1)}, []string{x, y, z}, []string{x, y}},
	} {
		d := needing(base, w.ins...)
		j := jobOf(d, strs(d.Srcs)...)
		s := rooted(storeOf(append(l, drvText(d))...), l[0])
		checkBecomes(t, what, engineOf(s, append([]impl.Goal{newGoal(nameOfDrv(d))}, w.others...)...), 0, waitingGoal(j, w.need...), w.more...)
		checkBecomes(t, what+", behind", engineOf(s, append(slices.Clone(w.others), newGoal(nameOfDrv(d)))...), len(w.others), waitingGoal(j, w.need...), w.more...)
	}
}

// With up to 12 goals there is room for all, for a part, or for none of the inputs.
func TestNewGoalsAtTheLimit(t *testing.T) {
	names := strs(someNames(3))
	var ins []impl.In
	for n := range 4 {
		if n > 0 {
			ins = append(ins, inOf(names[n-1], "out"))
		}
		d := needing(doing(), ins...)
		s := storeOf(drvText(d))
		for others := range 12 {
			for at := 0; at <= others; at += max(1, others/2) {
				var goals []impl.Goal
				for i := range others {
					goals = append(goals, newGoal(drvName(20+i)))
				}
				e := engineOf(s, slices.Insert(goals, at, newGoal(nameOfDrv(d)))...)
				what := strconv.Itoa(n) + " inputs, " + strconv.Itoa(others) + " others"
				room := min(n, 11-others)
				if room == n {
					checkBecomes(t, what, e, at, waitingGoal(jobOf(d), names[:n]...), names[:n]...)
				} else {
					checkBecomes(t, what, e, at, failedGoal(nameOfDrv(d), impl.ErFull), names[:room]...)
				}
			}
		}
		// What is a goal already needs no room.
		for known := range 1 << n {
			for others := range 12 - n {
				var goals []impl.Goal
				for i := range n {
					if known>>i&1 == 1 {
						goals = append(goals, doneGoal(names[i]))
					}
				}
				for i := range others {
					goals = append(goals, newGoal(drvName(20+i)))
				}
				checkAct(t, "some inputs are goals", engineOf(s, append(goals, newGoal(nameOfDrv(d)))...), len(goals))
			}
		}
		full := engineOf(s, newGoal(nameOfDrv(d)))
		for i := range n {
			full.Goals = append(full.Goals, doneGoal(names[i]))
		}
		for len(full.Goals) < 12 {
			full.Goals = append(full.Goals, newGoal(drvName(20+len(full.Goals))))
		}
		checkBecomes(t, "12 goals, and all inputs", full, 0, waitingGoal(jobOf(d), names[:n]...))
	}
}

// GoWait

func TestWaitingGoalsOfFailedOnes(t *testing.T) {
	d := needing(doing(buildOp("out", 0)), inOf(zeros, "out"))
	outs := append(madeOf(zeros, "out"), madeOf(last1, "out")...)
	s := made(storeOf(outs...), outs...)
	j := jobOf(d, zeros)
	for what, wait := range map[string]func(j impl.Job, need ...string) impl.Goal{"": waitingGoal, "begun, ": pausingGoal} {
		for code := 1; code <= 8; code++ {
			everywhere(s, []impl.Goal{wait(j, zeros), failedGoal(zeros, code)}, func(how string, e impl.Engine, i int) {
				checkFinishes(t, what+"one that failed, "+how, e, i, impl.ErDep)
			})
		}
		// One of several, first, last and in the middle.
		for failed := 1; failed < 8; failed++ {
			e := engineOf(s, wait(j, zeros, last1, head1), doneGoal(zeros), doneGoal(last1), doneGoal(head1))
			for i := range 3 {
				if failed>>i&1 == 1 {
					e = ended(e, i+1, impl.ErFail)
				}
			}
			checkFinishes(t, what+"several", e, 0, impl.ErDep)
		}
		checkFinishes(t, what+"the same twice", engineOf(s, wait(j, zeros, zeros), failedGoal(zeros, 1)), 0, impl.ErDep)
		// It comes before all that is not possible.
		full := jobOf(needing(doing(failOp()), inOf(absent(), "none")), ten()...)
		checkFinishes(t, what+"and nothing is possible", engineOf(impl.Store{}, wait(full, zeros, last1), doneGoal(zeros), failedGoal(last1, 8)), 0, impl.ErDep)
		// A goal that failed, but is not needed, is none of its business.
		got := checkAct(t, what+"not needed", engineOf(s, wait(j, zeros), failedGoal(last1, 3), doneGoal(zeros)), 0)
		if got.Goals[0].State != impl.GoRun {
			t.Errorf("%sone that is not needed failed: %v", what, got)
		}
	}
}

func TestWaitingGoalsGetInputs(t *testing.T) {
	x, y := zeros, last1
	outs := append(madeOf(x, "dev out"), madeOf(y, "a out")...)
	s := made(storeOf(append(outs, numbered(2)...)...), outs...)
	for what, ins := range map[string][]impl.In{
		"no inputs":                 nil,
		"an input":                  {inOf(x, "out")},
		"two of one":                {inOf(x, "dev"), inOf(x, "out")},
		"one of each":               {inOf(x, "out"), inOf(y, "a")},
		"two of one and of another": {inOf(x, "dev"), inOf(x, "out"), inOf(y, "out")},
	} {
		d := needing(impl.Drv{Outs: words("dev out"), Ops: eachOp()}, ins...)
		for n := range 11 {
			j := jobOf(d, ten()[:n]...)
			j.Outs[1] = sample()
			want := j
			want.Args = slices.Clone(j.Args)
			for _, in := range d.Ins {
				want.Args = append(want.Args, []byte(nameOf(outOf(string(in.Drv), string(in.Out), dir("")))))
			}
			// What it needs is not what it gets: that are its inputs.
			for _, need := range [][]string{nil, {x}, {x, y}, {absent()}} {
				goals := []impl.Goal{waitingGoal(j, need...)}
				for _, drv := range need {
					goals = append(goals, doneGoal(drv))
				}
				everywhere(s, goals, func(how string, e impl.Engine, i int) {
					what := what + ", " + strconv.Itoa(n) + " Args, " + how
					if n+len(ins) > 10 {
						checkFinishes(t, what, e, i, impl.ErArg)
					} else {
						checkBecomes(t, what, e, i, runningGoal(want))
					}
				})
			}
		}
	}
}

func TestWaitingGoalsMissInputs(t *testing.T) {
	x := strs(someNames(1))[0]
	outs := madeOf(x, "a b c")
	all := storeOf(append(outs, madeOf(last1, "a b c")...)...)
	for n := 1; n <= 3; n++ {
		d := needing(doing(), []impl.In{inOf(x, "a"), inOf(x, "b"), inOf(x, "c")}[:n]...)
		for set := range 1 << n {
			var some []impl.Obj
			for i := range n {
				if set>>i&1 == 1 {
					some = append(some, outs[i])
				}
			}
			// The outputs are there, but not all of them are made by this derivation.
			s := made(all, append(some, madeOf(last1, "a b c")...)...)
			e := engineOf(s, waitingGoal(jobOf(d), x), doneGoal(x))
			if len(some) < n {
				checkFinishes(t, "an input that is not made", e, 0, impl.ErArg)
			} else if got := checkAct(t, "all inputs", e, 0); got.Goals[0].State != impl.GoRun {
				t.Errorf("%d inputs that are made: %v", n, got)
			}
		}
	}
	// The Pc and the operations do not matter before it has begun.
	for pc := range 4 {
		j := jobOf(doing(failOp(), buildOp("a", 0), buildOp("b", 0)), zeros)
		j.Pc = pc
		checkBecomes(t, "no inputs", engineOf(all, waitingGoal(j, zeros), doneGoal(zeros)), 0, runningGoal(j))
	}
}

func TestPausingGoals(t *testing.T) {
	outs := append(madeOf(zeros, "a out"), madeOf(last1, "a")...)
	s := made(storeOf(outs...), outs...)
	d := needing(impl.Drv{Outs: words("dev out"), Ops: []impl.Op{failOp(), buildOp("a", 0), buildOp("out", 9), buildOp("none", 0), writeOp(0, "a", "x"), copyOp(0, "a", 0), emitOp("x"), buildOp("a", 1)}}, inOf(absent(), "out"))
	all := []impl.Goal{doneGoal(zeros), doneGoal(last1)}
	for pc := range 9 {
		for n := range 11 {
			j := jobOf(d, append(slices.Repeat([]string{zeros}, n/2), ten()[n/2:n]...)...)
			j.Pc, j.Outs[0] = pc, sample()
			for _, need := range [][]string{nil, {zeros}, {last1}, {zeros, last1}, {zeros, zeros}} {
				what := "Pc " + strconv.Itoa(pc) + ", " + strconv.Itoa(n) + " Args, " + strconv.Itoa(len(need)) + " in Need"
				path, ok := "", false
				if pc < 8 && len(need) == 1 {
					path, ok = realOf(s, need[0], string(d.Ops[pc].Name))
				}
				everywhere(s, append([]impl.Goal{pausingGoal(j, need...)}, all...), func(how string, e impl.Engine, i int) {
					if !ok || n == 10 || d.Ops[pc].Code != impl.OpBuild {
						checkFinishes(t, what+", "+how, e, i, impl.ErArg)
						return
					}
					next := changedJob(j, func(j *impl.Job) { j.Pc, j.Args = pc+1, append(j.Args, []byte(path)) })
					checkBecomes(t, what+", "+how, e, i, runningGoal(next))
				})
			}
		}
	}
	// The argument need not be the derivation that was built.
	j := jobOf(doing(buildOp("a", 0)), last1, absent())
	next := changedJob(j, func(j *impl.Job) { j.Pc, j.Args = 1, append(j.Args, outs[0].Name) })
	checkBecomes(t, "another argument", engineOf(s, pausingGoal(j, zeros), doneGoal(zeros)), 0, runningGoal(next))
	// Nor need the argument be there.
	j = jobOf(doing(buildOp("a", 7)))
	next = changedJob(j, func(j *impl.Job) { j.Pc, j.Args = 1, append(j.Args, outs[0].Name) })
	checkBecomes(t, "no argument", engineOf(s, pausingGoal(j, zeros), doneGoal(zeros)), 0, runningGoal(next))
}

// GoRun

func TestRunningGoals(t *testing.T) {
	s, c := workplace()
	args := []string{nameOf(c[0]), nameOf(c[1])}
	for what, x := range map[string]struct {
		s    impl.Store
		j    impl.Job
		code int
	}{
		"a file":                     {s, jobOf(doing(writeOp(0, "a", "see $0")), args...), impl.ErWell},
		"a copy":                     {s, jobOf(doing(copyOp(0, "a", 1)), args...), impl.ErWell},
		"a text that exists":         {s, jobOf(doing(emitOp("the end")), args...), impl.ErWell},
		"a new text":                 {s, jobOf(doing(emitOp("$1, $0")), args...), impl.ErWell},
		"a text that is not filled":  {s, jobOf(doing(writeOp(0, "a", "$2")), args...), impl.ErArg},
		"a text that is not emitted": {s, jobOf(doing(emitOp("$")), args...), impl.ErArg},
		"no room in the output":      {s, holding(jobOf(doing(writeOp(0, "a", "")), args...), wide(6, file(""))), impl.ErArg},
		"no argument to be copied":   {s, jobOf(doing(copyOp(0, "a", 2)), args...), impl.ErArg},
		"nothing to be copied":       {s, jobOf(doing(copyOp(0, "a", 0)), absent()), impl.ErNone},
		"no argument to be built":    {s, jobOf(doing(buildOp("a", 2)), args...), impl.ErArg},
		"a failure":                  {s, jobOf(doing(failOp()), args...), impl.ErFail},
		"no room in the store":       {fullStore(), jobOf(doing(emitOp("new")), args...), impl.ErFull},
		"no room, but it exists":     {fullStore(), jobOf(doing(emitOp("the end")), args...), impl.ErWell},
		"ten Args, and no room":      {fullStore(), jobOf(doing(emitOp("new")), ten()...), impl.ErFull},
	} {
		everywhere(x.s, []impl.Goal{runningGoal(x.j)}, func(how string, e impl.Engine, i int) {
			got := checkAct(t, what+", "+how, e, i)
			if x.code != impl.ErWell {
				checkFinishes(t, what+", "+how, e, i, x.code)
			} else if g := got.Goals[i]; g.State != impl.GoRun || g.Job.Pc != x.j.Pc+1 || len(got.Goals) != len(e.Goals) {
				t.Errorf("%s, %s: the goal is %v", what, how, g)
			}
		})
	}
}

// A text that a failing OpEmit has added remains in the store.
func TestRunningGoalsThatFailAndEmit(t *testing.T) {
	s, c := workplace()
	j := jobOf(doing(emitOp("see $0")), slices.Repeat([]string{nameOf(c[1])}, 10)...)
	more := with(s, textOf("see "+nameOf(c[1]), nameOf(c[1])))
	everywhere(s, []impl.Goal{runningGoal(j)}, func(how string, e impl.Engine, i int) {
		got := checkAct(t, how, e, i)
		want := ended(bare(e), i, impl.ErArg)
		want.Store = more
		if !sameEngine(got, want) {
			t.Errorf("%s: Act = %v", how, got)
		}
	})
	// A text that exists is no change.
	checkFinishes(t, "it exists", engineOf(more, runningGoal(j)), 0, impl.ErArg)
}

func TestRunningGoalsRequest(t *testing.T) {
	s, _ := workplace()
	for at := range 3 {
		args := []string{absent(), last1, zeros}
		j := jobOf(doing(failOp(), buildOp("a", at), failOp()), args...)
		j.Pc = 1
		self := string(j.Name)
		drv := args[at]
		for what, others := range map[string][]impl.Goal{
			"no other goals":   nil,
			"other goals":      newGoals(5),
			"others, finished": {doneGoal(drvName(0)), failedGoal(drvName(1), 3)},
			"10 other goals":   newGoals(10),
		} {
			e := engineOf(s, append([]impl.Goal{runningGoal(j)}, others...)...)
			checkBecomes(t, what, e, 0, pausingGoal(j, drv), drv)
			behind := engineOf(s, append(slices.Clone(others), runningGoal(j))...)
			checkBecomes(t, what+", behind", behind, len(others), pausingGoal(j, drv), drv)
		}
		e := engineOf(s, append([]impl.Goal{runningGoal(j)}, newGoals(11)...)...)
		checkFinishes(t, "11 other goals", e, 0, impl.ErFull)
		for _, g := range []impl.Goal{newGoal(drv), doneGoal(drv), failedGoal(drv, impl.ErFail)} {
			for n := range 11 {
				e := engineOf(s, slices.Insert(newGoals(n), n/2, g, runningGoal(j))...)
				checkBecomes(t, "a goal that exists", e, n/2+1, pausingGoal(j, drv))
			}
		}
		// The goal itself, for which it waits in vain.
		j.Args[at] = []byte(self)
		for _, n := range []int{0, 5, 11} {
			e := engineOf(s, append(newGoals(n), runningGoal(j))...)
			checkBecomes(t, "the goal itself", e, n, pausingGoal(j, self))
			after, _ := impl.Act(e, n)
			if slices.Contains(impl.Ready(after), n) {
				t.Errorf("the goal itself: %v is ready", after.Goals[n])
			}
		}
	}
}

func TestRunningGoalsThatAreDone(t *testing.T) {
	s, c := workplace()
	for what, j := range map[string]impl.Job{
		"nothing to do": jobOf(doing()),
		"an output":     finished(jobOf(one(), nameOf(c[0])), dir("a", file("see "+nameOf(c[0])))),
		"two outputs":   twoDone(nameOf(c[2])),
		"the largest":   finished(jobOf(two()), validTrees()["largest"], sample()),
	} {
		want, code := registered(s, j)
		if code != impl.ErWell || len(want.Reals) != len(s.Reals)+len(j.D.Outs) {
			t.Fatalf("%s: code %d", what, code)
		}
		everywhere(s, []impl.Goal{runningGoal(j)}, func(how string, e impl.Engine, i int) {
			got := checkAct(t, what+", "+how, e, i)
			after := ended(bare(e), i, impl.ErWell)
			after.Store = want
			if !sameEngine(got, after) {
				t.Errorf("%s, %s: Act = %v", what, how, got)
			}
			for _, out := range j.D.Outs {
				name, _ := impl.OutName(j.Name, out)
				if path, ok := impl.RealOf(got.Store, j.Name, out); !ok || !bytes.Equal(path, name) {
					t.Errorf("%s, %s: %s is %q, %t", what, how, out, path, ok)
				}
			}
		})
		// What is made already is made again, and that changes nothing.
		checkFinishes(t, what+", again", engineOf(want, runningGoal(j)), 0, impl.ErWell)
	}
}

// Where there is room for one output of two, neither of them is added.
func TestRunningGoalsWithoutRoom(t *testing.T) {
	for n := 21; n <= 24; n++ {
		for _, j := range []impl.Job{finished(jobOf(one())), twoDone()} {
			code := impl.ErWell
			if n+len(j.Outs) > 24 {
				code = impl.ErFull
			}
			for what, s := range map[string]impl.Store{"texts": rooted(storeOf(numbered(n)...), numbered(1)...), "outputs": made(storeOf(outputs(n)...), outputs(n)...)} {
				what = strconv.Itoa(n) + " " + what
				everywhere(s, []impl.Goal{runningGoal(j)}, func(how string, e impl.Engine, i int) {
					got := checkAct(t, what+", "+how, e, i)
					if g := got.Goals[i]; g.Err != code || (len(got.Store.Objs) > n) != (code == impl.ErWell) {
						t.Errorf("%s, %s: the goal is %v in a store of %d objects", what, how, g, len(got.Store.Objs))
					}
					if code != impl.ErWell {
						checkFinishes(t, what+", "+how, e, i, code)
					}
				})
			}
		}
	}
	// The outputs exist, and one of them is made: there is room for objects, but not for realisations.
	outs := outsOf("dev", "out")
	l := append(outputs(22), outs...)
	for _, all := range [][]impl.Obj{l, l[:23], l[1:], slices.Concat(l[:22], l[23:])} {
		s := made(storeOf(l...), all...)
		want, code := registered(s, twoDone())
		got := checkAct(t, "realisations", engineOf(s, runningGoal(twoDone())), 0)
		if code != got.Goals[0].Err || !sameStore(got.Store, want) {
			t.Errorf("%d realisations: %v", len(all), got.Goals)
		}
		if code != impl.ErFull && len(all) == 24 || code == impl.ErFull && !sameStore(got.Store, s) {
			t.Errorf("%d realisations: code %d", len(all), code)
		}
	}
}

func TestActOfRandomEngines(t *testing.T) {
	random := rand.New(rand.NewSource(73))
	seen := map[[3]int]int{}
	for range 1000 {
		e := randomEngine(random)
		ready := readyOf(e)
		for i := -1; i <= len(e.Goals); i++ {
			if !slices.Contains(ready, i) {
				checkNoAct(t, "at random", e, i)
			}
		}
		if len(ready) == 0 {
			continue
		}
		i := ready[random.Intn(len(ready))]
		got := checkAct(t, "at random", e, i)
		seen[[3]int{e.Goals[i].State, got.Goals[i].State, got.Goals[i].Err}]++
		// The rest without the check of memory.
		for _, i := range ready {
			got, ok := impl.Act(e, i)
			checkActed(t, "at random", e, i, got, ok)
			seen[[3]int{e.Goals[i].State, got.Goals[i].State, got.Goals[i].Err}]++
		}
	}
	for _, x := range [][3]int{
		{0, 2, 0}, {0, 3, 0}, {0, 4, 1}, {0, 4, 5}, {0, 4, 6},
		{1, 1, 0}, {1, 2, 0}, {1, 3, 0}, {1, 4, 2}, {1, 4, 3}, {1, 4, 5}, {1, 4, 6},
		{2, 1, 0}, {2, 4, 2}, {2, 4, 4},
	} {
		if seen[x] < 3 {
			t.Errorf("too few steps %v: %v", x, seen)
		}
	}
}
