package tests

import (
	"bytes"
	"math/rand"
	"slices"
	"strconv"
	"strings"

	"loop.example/g00538/impl"
)

// The engines with which the tests of chapter 7 work, and what the document
// says of them, written once more in the plainest way.

func engineOf(s impl.Store, goals ...impl.Goal) impl.Engine {
	return impl.Engine{Store: s, Goals: goals}
}

func newGoal(drv string) impl.Goal { return impl.Goal{Drv: []byte(drv)} }

func doneGoal(drv string) impl.Goal { return impl.Goal{Drv: []byte(drv), State: impl.GoDone} }

func failedGoal(drv string, code int) impl.Goal {
	return impl.Goal{Drv: []byte(drv), State: impl.GoFail, Err: code}
}

func runningGoal(j impl.Job) impl.Goal {
	return impl.Goal{Drv: j.Name, State: impl.GoRun, Begun: true, Job: j}
}

// waitingGoal waits for its inputs.
func waitingGoal(j impl.Job, need ...string) impl.Goal {
	return impl.Goal{Drv: j.Name, State: impl.GoWait, Job: j, Need: texts(need...)}
}

// pausingGoal waits in an OpBuild.
func pausingGoal(j impl.Job, need ...string) impl.Goal {
	g := waitingGoal(j, need...)
	g.Begun = true
	return g
}

// newGoals makes n goals of derivations that are not there.
func newGoals(n int) []impl.Goal {
	var l []impl.Goal
	for i := range n {
		l = append(l, newGoal(drvName(i)))
	}
	return l
}

// changedGoal returns g after a change of its own lists.
func changedGoal(g impl.Goal, change func(g *impl.Goal)) impl.Goal {
	g.Drv, g.Need = bytes.Clone(g.Drv), slices.Clone(g.Need)
	g.Job = changedJob(g.Job, func(*impl.Job) {})
	change(&g)
	return g
}

// eachGoal has one valid goal of each state; those that wait need one that is new and one that is done.
func eachGoal() []impl.Goal {
	running, waiting, pausing := sampleJob(), jobOf(doing(buildOp("a", 0)), zeros), jobOf(doing(failOp(), buildOp("b", 1)), zeros, steep)
	pausing.Pc = 1
	return []impl.Goal{
		newGoal(drvName(0)),
		runningGoal(running),
		waitingGoal(waiting, drvName(0), drvName(1)),
		doneGoal(drvName(1)),
		failedGoal(drvName(2), impl.ErDep),
		pausingGoal(pausing, drvName(1)),
	}
}

// stray is a derivation that is not valid, as D of goals that have no job.
func stray() impl.Drv {
	return impl.Drv{Srcs: texts("x"), Ins: some(2), Outs: words("b a"), Ops: []impl.Op{failOp(), {Code: 9, Name: []byte("x")}}}
}

func validEngines() map[string]impl.Engine {
	all := eachGoal()
	m := map[string]impl.Engine{
		"zero value":            {},
		"empty slices":          {Goals: []impl.Goal{}},
		"only a store":          engineOf(fullStore()),
		"a goal of each state":  engineOf(fullStore(), all...),
		"in the reverse order":  engineOf(impl.Store{}, all[5], all[4], all[3], all[2], all[1], all[0]),
		"12 goals":              engineOf(impl.Store{}, newGoals(12)...),
		"needs all of 12":       engineOf(impl.Store{}, append(newGoals(11), waitingGoal(all[2].Job, needsOf(newGoals(11))...))...),
		"the same need twice":   engineOf(impl.Store{}, all[0], waitingGoal(all[2].Job, drvName(0), drvName(0))),
		"needs out of order":    engineOf(impl.Store{}, append(newGoals(5), waitingGoal(all[2].Job, drvName(3), drvName(0), drvName(4)))...),
		"more needs than goals": engineOf(impl.Store{}, all[0], pausingGoal(all[2].Job, slices.Repeat([]string{drvName(0)}, 300)...)),
		"waits for itself":      engineOf(impl.Store{}, waitingGoal(all[2].Job, string(all[2].Drv))),
		"begun, for itself":     engineOf(impl.Store{}, pausingGoal(all[5].Job, string(all[5].Drv))),
		"wait for each other":   engineOf(impl.Store{}, waitingGoal(all[2].Job, string(all[5].Drv)), pausingGoal(all[5].Job, string(all[2].Drv))),
		"waits for nothing":     engineOf(impl.Store{}, waitingGoal(all[2].Job)),
		"begun, for nothing":    engineOf(impl.Store{}, pausingGoal(all[2].Job)),
		"begun, no OpBuild":     engineOf(impl.Store{}, pausingGoal(sampleJob())),
		"empty lists": engineOf(impl.Store{}, impl.Goal{Drv: []byte(zeros), Job: impl.Job{Name: []byte{}, Args: [][]byte{}, Outs: []impl.Tree{}}, Need: [][]byte{}},
			impl.Goal{Drv: all[1].Drv, State: impl.GoRun, Begun: true, Job: all[1].Job, Need: [][]byte{}}),
	}
	for what, s := range validStores() {
		m["a store: "+what] = engineOf(s, newGoal(zeros))
	}
	for what, j := range validJobs() {
		m["a job that runs: "+what] = engineOf(impl.Store{}, runningGoal(j))
		m["a job that waits: "+what] = engineOf(impl.Store{}, waitingGoal(j), newGoal(zeros))
		m["a job that has begun and waits: "+what] = engineOf(impl.Store{}, newGoal(zeros), pausingGoal(j, zeros))
	}
	for i, g := range all {
		if g.State != impl.GoWait {
			m["alone, "+strconv.Itoa(i)] = engineOf(impl.Store{}, g)
		}
		if g.State != impl.GoWait && g.State != impl.GoRun {
			m["with a stray D, "+strconv.Itoa(i)] = engineOf(impl.Store{}, changedGoal(g, func(g *impl.Goal) { g.Job.D = stray() }))
		}
	}
	for code := 1; code <= 8; code++ {
		m["code "+strconv.Itoa(code)] = engineOf(impl.Store{}, failedGoal(zeros, code))
	}
	return m
}

func needsOf(goals []impl.Goal) []string {
	var l []string
	for _, g := range goals {
		l = append(l, string(g.Drv))
	}
	return l
}

// brokenEngines are engines that are not valid, each in one way.
func brokenEngines() map[string]impl.Engine {
	m := map[string]impl.Engine{
		"13 goals":  engineOf(impl.Store{}, newGoals(13)...),
		"200 goals": engineOf(impl.Store{}, newGoals(200)...),
	}
	all := eachGoal()
	n := 0
	for what, s := range inOrder(brokenStores()) {
		m["a store: "+what] = engineOf(s, newGoals(n%3)...)
		n++
	}
	for what, j := range inOrder(brokenJobs()) {
		// They are too many to be tried in each state.
		g := []impl.Goal{runningGoal(j), waitingGoal(j), pausingGoal(j)}[n%3]
		m["a job: "+what] = engineOf(impl.Store{}, g)
		if name := nameOfDrv(j.D); name != string(j.Name) {
			// The Name may be what is wrong.
			g.Drv = []byte(name)
			m["a job of that D: "+what] = engineOf(impl.Store{}, g)
		}
		n++
	}
	for i, g := range all {
		for what, change := range changesOfGoals(g) {
			with := slices.Clone(all)
			with[i] = changedGoal(g, change)
			m["goal "+strconv.Itoa(i)+": "+what] = engineOf(fullStore(), with...)
		}
		for k, other := range all[:i] {
			with := slices.Clone(all)
			with[i] = newGoal(string(other.Drv))
			m["the same Drv, "+strconv.Itoa(k)+" and "+strconv.Itoa(i)] = engineOf(fullStore(), with...)
		}
	}
	m["the zero value as a goal"] = engineOf(impl.Store{}, impl.Goal{})
	return m
}

// changesOfGoals make a goal not valid, beside the others of eachGoal.
func changesOfGoals(g impl.Goal) map[string]func(g *impl.Goal) {
	m := map[string]func(g *impl.Goal){}
	for _, s := range noNames {
		m["Drv "+strconv.Quote(s)] = func(g *impl.Goal) { g.Drv = []byte(s) }
	}
	for _, n := range []int{-1, 5, 6, 255, 256, 257, 1 << 32, -256} {
		m["State "+strconv.Itoa(n)] = func(g *impl.Goal) { g.State = n }
	}
	for _, n := range []int{-1, 0, 1, 2, 3, 4, 5, 6, 7, 8, 9, 10, 256, 1 << 32, -256} {
		if g.State == impl.GoFail && (n < 1 || n > 8) || g.State != impl.GoFail && n != 0 {
			m["Err "+strconv.Itoa(n)] = func(g *impl.Goal) { g.Err = n }
		}
	}
	for _, s := range append([]string{absent(), last1}, noNames...) {
		m["a Need of no goal: "+strconv.Quote(s)] = func(g *impl.Goal) { g.Need = append(g.Need, []byte(s)) }
	}
	if g.State == impl.GoWait || g.State == impl.GoRun {
		m["a job of another Name"] = func(g *impl.Goal) { g.Job = jobOf(doing(emitOp("another"))) }
		m["another Drv"] = func(g *impl.Goal) { g.Drv = []byte(drvName(9)) }
		m["no job"] = func(g *impl.Goal) { g.Job = impl.Job{} }
	}
	switch g.State {
	case impl.GoRun:
		m["not begun"] = func(g *impl.Goal) { g.Begun = false }
		m["a Need"] = func(g *impl.Goal) { g.Need = texts(drvName(0)) }
		m["itself as a Need"] = func(g *impl.Goal) { g.Need = [][]byte{g.Drv} }
	case impl.GoNew, impl.GoDone, impl.GoFail:
		m["begun"] = func(g *impl.Goal) { g.Begun = true }
		m["Name"] = func(g *impl.Goal) { g.Job.Name = g.Drv }
		m["Name that is none"] = func(g *impl.Goal) { g.Job.Name = []byte{0} }
		m["Pc"] = func(g *impl.Goal) { g.Job.Pc = 1 }
		m["negative Pc"] = func(g *impl.Goal) { g.Job.Pc = -1 }
		m["Args"] = func(g *impl.Goal) { g.Job.Args = texts(zeros) }
		m["an empty Arg"] = func(g *impl.Goal) { g.Job.Args = [][]byte{nil} }
		m["Outs"] = func(g *impl.Goal) { g.Job.Outs = []impl.Tree{dir("")} }
		m["Outs of the zero value"] = func(g *impl.Goal) { g.Job.Outs = []impl.Tree{{}} }
		m["a whole job"] = func(g *impl.Goal) { g.Job = sampleJob(); g.Drv = g.Job.Name }
		m["a Need"] = func(g *impl.Goal) { g.Need = texts(drvName(1)) }
		m["itself as a Need"] = func(g *impl.Goal) { g.Need = [][]byte{g.Drv} }
	}
	return m
}

// The reference.

func sameGoal(a, b impl.Goal) bool {
	return bytes.Equal(a.Drv, b.Drv) && a.State == b.State && a.Err == b.Err && a.Begun == b.Begun && sameJob(a.Job, b.Job) && sameTexts(a.Need, b.Need)
}

func sameEngine(a, b impl.Engine) bool {
	return sameStore(a.Store, b.Store) && slices.EqualFunc(a.Goals, b.Goals, sameGoal)
}

func goalOf(e impl.Engine, drv string) int {
	for i, g := range e.Goals {
		if string(g.Drv) == drv {
			return i
		}
	}
	return -1
}

func validEngine(e impl.Engine) bool {
	if !validStore(e.Store) || len(e.Goals) > 12 {
		return false
	}
	for i, g := range e.Goals {
		if !isName(string(g.Drv)) || goalOf(e, string(g.Drv)) != i || g.State < 0 || g.State > 4 {
			return false
		}
		if g.State == 4 && (g.Err < 1 || g.Err > 8) || g.State != 4 && g.Err != 0 {
			return false
		}
		if g.State == 1 || g.State == 2 {
			if !validJob(g.Job) || string(g.Job.Name) != string(g.Drv) {
				return false
			}
		} else if len(g.Job.Name)+len(g.Job.Args)+len(g.Job.Outs) > 0 || g.Job.Pc != 0 || g.Begun || len(g.Need) > 0 {
			return false
		}
		if g.State == 1 && (!g.Begun || len(g.Need) > 0) {
			return false
		}
		for _, drv := range g.Need {
			if goalOf(e, string(drv)) < 0 {
				return false
			}
		}
	}
	return true
}

func over(g impl.Goal) bool { return g.State == impl.GoDone || g.State == impl.GoFail }

func readyOf(e impl.Engine) []int {
	var l []int
	for i, g := range e.Goals {
		waits := slices.ContainsFunc(g.Need, func(drv []byte) bool { return !over(e.Goals[goalOf(e, string(drv))]) })
		if !over(g) && !waits {
			l = append(l, i)
		}
	}
	return l
}

// withGoal returns e with g as its goal i.
func withGoal(e impl.Engine, i int, g impl.Goal) impl.Engine {
	e.Goals = slices.Clone(e.Goals)
	e.Goals[i] = g
	return e
}

// ended returns e in which goal i is finished with that code.
func ended(e impl.Engine, i, code int) impl.Engine {
	if code == impl.ErWell {
		return withGoal(e, i, doneGoal(string(e.Goals[i].Drv)))
	}
	return withGoal(e, i, failedGoal(string(e.Goals[i].Drv), code))
}

// bare returns e without what a result does not have.
func bare(e impl.Engine) impl.Engine {
	for i, g := range e.Goals {
		if g.State != impl.GoRun && g.State != impl.GoWait {
			g.Job.D = impl.Drv{}
			e = withGoal(e, i, g)
		}
	}
	return e
}

func realOf(s impl.Store, drv, out string) (string, bool) {
	for _, r := range s.Reals {
		if string(r.Drv) == drv && string(r.Out) == out {
			return string(r.Path), true
		}
	}
	return "", false
}

// acted returns what the document says of Act for a valid engine and a goal that is ready.
func acted(e impl.Engine, i int) impl.Engine {
	e = bare(e)
	switch e.Goals[i].State {
	case impl.GoNew:
		return begun(e, i)
	case impl.GoWait:
		return resumed(e, i)
	}
	return proceeded(e, i)
}

func requested(e impl.Engine, i int, drvs []string) impl.Engine {
	for _, drv := range drvs {
		if goalOf(e, drv) >= 0 {
			continue
		}
		if len(e.Goals) == 12 {
			return ended(e, i, impl.ErFull)
		}
		e.Goals = append(slices.Clone(e.Goals), newGoal(drv))
	}
	g := e.Goals[i]
	g.State, g.Need = impl.GoWait, texts(drvs...)
	return withGoal(e, i, g)
}

// newJobOf returns what the document says of JobNew for a valid store.
func newJobOf(s impl.Store, name string) (impl.Job, int) {
	o, ok := objOf(s, name)
	if !ok {
		return impl.Job{}, impl.ErNone
	}
	d, ok := impl.DrvRead(o.Tree.Data)
	if o.Kind != impl.ObText || !ok {
		return impl.Job{}, impl.ErMalformed
	}
	for _, src := range d.Srcs {
		if _, ok := objOf(s, string(src)); !ok {
			return impl.Job{}, impl.ErNone
		}
	}
	return jobOf(d, strs(d.Srcs)...), impl.ErWell
}

func begun(e impl.Engine, i int) impl.Engine {
	g := e.Goals[i]
	j, code := newJobOf(e.Store, string(g.Drv))
	if code != impl.ErWell {
		return ended(e, i, code)
	}
	left := 0
	for _, out := range j.D.Outs {
		if _, ok := realOf(e.Store, string(g.Drv), string(out)); !ok {
			left++
		}
	}
	if left == 0 {
		return ended(e, i, impl.ErWell)
	}
	g.Job = j
	var drvs []string
	for _, in := range j.D.Ins {
		drvs = append(drvs, string(in.Drv))
	}
	return requested(withGoal(e, i, g), i, sorted(drvs))
}

func resumed(e impl.Engine, i int) impl.Engine {
	g := e.Goals[i]
	for _, drv := range g.Need {
		if e.Goals[goalOf(e, string(drv))].State == impl.GoFail {
			return ended(e, i, impl.ErDep)
		}
	}
	ins, pc := g.Job.D.Ins, g.Job.Pc
	if g.Begun {
		if pc == len(g.Job.D.Ops) || g.Job.D.Ops[pc].Code != impl.OpBuild || len(g.Need) != 1 {
			return ended(e, i, impl.ErArg)
		}
		ins, pc = []impl.In{{Drv: g.Need[0], Out: g.Job.D.Ops[pc].Name}}, pc+1
	}
	args := strs(g.Job.Args)
	for _, in := range ins {
		path, ok := realOf(e.Store, string(in.Drv), string(in.Out))
		if !ok {
			return ended(e, i, impl.ErArg)
		}
		args = append(args, path)
	}
	if len(args) > 10 {
		return ended(e, i, impl.ErArg)
	}
	j := g.Job
	j.Args, j.Pc = texts(args...), pc
	return withGoal(e, i, runningGoal(j))
}

func proceeded(e impl.Engine, i int) impl.Engine {
	j := e.Goals[i].Job
	s, next, status, code := stepped(e.Store, j)
	e.Store = s
	switch status {
	case impl.JbRun:
		return withGoal(e, i, runningGoal(next))
	case impl.JbWait:
		return requested(e, i, []string{string(j.Args[j.D.Ops[j.Pc].Arg])})
	case impl.JbDone:
		e.Store, code = registered(s, j)
	}
	return ended(e, i, code)
}

// chosen returns which of n goals the document lets act for that pick.
func chosen(pick, n int) int { return int(uint64(pick) << 2 >> 2 % uint64(n)) }

// realised returns what the document says of Realise for valid arguments, and the engine at the end.
func realised(s impl.Store, drv, out string, picks []int) (impl.Engine, string, int) {
	e := engineOf(s, newGoal(drv))
	for n := 0; !over(e.Goals[0]); n++ {
		l := readyOf(e)
		if len(l) == 0 {
			e = ended(e, 0, impl.ErStuck)
		} else if n < len(picks) {
			e = acted(e, l[chosen(picks[n], len(l))])
		} else {
			e = acted(e, l[0])
		}
	}
	if e.Goals[0].State == impl.GoFail {
		return e, "", e.Goals[0].Err
	}
	path, ok := realOf(e.Store, drv, out)
	if !ok {
		return e, "", impl.ErArg
	}
	return e, path, impl.ErWell
}

// Random engines.

// randomEngine makes a valid engine of up to 12 goals in all states, in a store in which many of these are at home.
func randomEngine(random *rand.Rand) impl.Engine {
	s, plans := randomPlans(random)
	var e impl.Engine
	e.Store = s
	names := []string{drvName(0), drvName(1)}
	for _, d := range plans {
		names = append(names, nameOfDrv(d))
	}
	for _, o := range s.Objs {
		if random.Intn(12) == 0 {
			names = append(names, nameOf(o))
		}
	}
	random.Shuffle(len(names), func(i, k int) { names[i], names[k] = names[k], names[i] })
	names = names[:min(len(names), 1+random.Intn(12))]
	if random.Intn(4) == 0 {
		names = append(names, upToTwelve(names)...)
	}
	for _, name := range names {
		if goalOf(e, name) < 0 {
			e.Goals = append(e.Goals, randomGoal(random, s, name, plans))
		}
	}
	for i := range e.Goals {
		if e.Goals[i].State == impl.GoWait {
			e.Goals[i].Need = randomNeed(random, e, e.Goals[i])
		}
	}
	return e
}

// upToTwelve returns as many names as are missing.
func upToTwelve(names []string) []string {
	var l []string
	for i := range 12 - len(names) {
		l = append(l, drvName(50+i))
	}
	return l
}

func randomGoal(random *rand.Rand, s impl.Store, name string, plans []impl.Drv) impl.Goal {
	at := slices.IndexFunc(plans, func(d impl.Drv) bool { return nameOfDrv(d) == name })
	g := newGoal(name)
	switch state := random.Intn(8); {
	case state == 0 || state < 4 && at < 0:
		g = doneGoal(name)
	case state == 1 || state < 6 && at < 0:
		g = failedGoal(name, 1+random.Intn(8))
	case state < 7 && at >= 0:
		j := jobOf(plans[at], append(strs(plans[at].Srcs), randomArgs(random, s, 10-len(plans[at].Srcs))...)...)
		j.Pc = random.Intn(len(j.D.Ops) + 1)
		if random.Intn(3) == 0 {
			j.Outs[0] = randomDir(random, strs(j.Args))
		}
		return []impl.Goal{runningGoal(j), waitingGoal(j), pausingGoal(j)}[state%3]
	}
	if random.Intn(8) == 0 {
		g.Job.D = stray()
	}
	return g
}

// randomNeed is most often what g may be waiting for.
func randomNeed(random *rand.Rand, e impl.Engine, g impl.Goal) [][]byte {
	var need []string
	for _, other := range e.Goals {
		if over(other) && random.Intn(4) == 0 || random.Intn(12) == 0 {
			need = append(need, string(other.Drv))
		}
	}
	if g.Begun && len(need) > 1 && random.Intn(4) > 0 {
		need = need[:1]
	}
	return texts(need...)
}

// randomPlans makes a store of derivations, some of which are inputs of others, and some of which are made.
func randomPlans(random *rand.Rand) (impl.Store, []impl.Drv) {
	s := randomStore(random)
	if len(s.Objs) > 12 {
		s = storeOf(numbered(random.Intn(9))...)
	}
	var plans []impl.Drv
	for range 1 + random.Intn(7) {
		d := randomPlan(random, s, plans)
		plans = append(plans, d)
		if more, _, code := added(s, drvText(d)); code == impl.StWell && random.Intn(8) > 0 {
			s = more
		}
		if random.Intn(3) == 0 {
			s, _ = registered(s, finished(jobOf(d)))
		}
	}
	if random.Intn(4) == 0 {
		for i := range 24 - len(s.Objs) {
			s, _, _ = added(s, textOf("filling "+strconv.Itoa(i)))
		}
	}
	return s, plans
}

// randomPlan makes a derivation with inputs of some of the plans and objects of s as sources.
func randomPlan(random *rand.Rand, s impl.Store, plans []impl.Drv) impl.Drv {
	for {
		var srcs []string
		for _, o := range s.Objs {
			if random.Intn(8) == 0 {
				srcs = append(srcs, nameOf(o))
			}
		}
		srcs = sorted(srcs)
		d := randomTask(random, texts(srcs[:min(len(srcs), 2)]...))
		var ins []impl.In
		for _, p := range plans {
			for _, out := range p.Outs {
				if random.Intn(4) == 0 {
					ins = append(ins, impl.In{Drv: []byte(nameOfDrv(p)), Out: out})
				}
			}
		}
		d = needing(d, ins[:min(len(ins), 3)]...)
		if validDrv(d) {
			return d
		}
	}
}

// needing returns d with these inputs, in their order.
func needing(d impl.Drv, ins ...impl.In) impl.Drv {
	d.Ins = slices.Clone(ins)
	slices.SortFunc(d.Ins, func(a, b impl.In) int {
		return strings.Compare(string(a.Drv)+string(a.Out), string(b.Drv)+string(b.Out))
	})
	return d
}
