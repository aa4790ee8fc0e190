package tests

import (
	"bytes"
	"math"
	"math/rand"
	"slices"
	"strconv"
	"strings"

	"loop.example/g00538/impl"
)

// The jobs with which the tests of chapter 6 work, and what the document says
// of them, written once more in the plainest way.

func nameOfDrv(d impl.Drv) string { return nameFor('t', string(encodeDrv(d))) }

// drvText makes the object of a derivation.
func drvText(d impl.Drv, refs ...string) impl.Obj { return textOf(string(encodeDrv(d)), refs...) }

// jobOf makes a job that has done nothing, with these Args. If d is not valid, nothing else is wrong.
func jobOf(d impl.Drv, args ...string) impl.Job {
	j := impl.Job{D: d, Name: []byte(nameOfDrv(d)), Args: texts(args...)}
	for range d.Outs {
		j.Outs = append(j.Outs, dir(""))
	}
	return j
}

// finished returns j behind its last operation, with these outputs instead of its own.
func finished(j impl.Job, outs ...impl.Tree) impl.Job {
	j.Pc = len(j.D.Ops)
	if len(outs) > 0 {
		j.Outs = outs
	}
	return j
}

// holding returns j with these outputs.
func holding(j impl.Job, outs ...impl.Tree) impl.Job {
	j.Outs = outs
	return j
}

// workplace makes a store of objects of all Kinds, and returns its chain of
// four objects: a text, a tree, an output and a text, each of which refers to the one before it.
func workplace() (impl.Store, []impl.Obj) {
	c, outs := chain(4), outputs(3)
	s := storeOf(slices.Concat(c, numbered(3), outs, []impl.Obj{treeOf(sample().Kids[0])})...)
	return made(rooted(s, c[1], outs[2]), c[2], outs[0], outs[1]), c
}

// sampleJob is in the middle of its work, and has all that a job can have.
func sampleJob() impl.Job {
	j := jobOf(sampleDrv(), zeros, steep, zeros)
	j.Pc = 3
	return holding(j, sample(), dir("a", file("x")))
}

func validJobs() map[string]impl.Job {
	m := map[string]impl.Job{
		"the sample":          sampleJob(),
		"empty slices":        {D: doing(), Name: []byte(nameOfDrv(doing())), Args: [][]byte{}, Outs: []impl.Tree{dir("")}},
		"Args out of order":   jobOf(doing(), steep, zeros, drvName(0)),
		"the same Args":       jobOf(doing(), steep, steep, steep),
		"its name as an Arg":  jobOf(doing(), nameOfDrv(doing())),
		"the same outputs":    holding(jobOf(sampleDrv()), sample(), sample()),
		"the largest outputs": holding(jobOf(sampleDrv()), validTrees()["largest"], validTrees()["largest"]),
	}
	for what, d := range validDrvs() {
		for _, pc := range []int{0, len(d.Ops) / 2, len(d.Ops)} {
			j := jobOf(d, zeros, steep)
			j.Pc = pc
			m[what+", Pc "+strconv.Itoa(pc)] = j
		}
	}
	for n := range 11 {
		m[strconv.Itoa(n)+" Args"] = jobOf(doing(), ten()[:n]...)
	}
	for what, t := range validTrees() {
		if t.Kind == impl.KdDir {
			m["an output: "+what] = holding(jobOf(doing()), t)
			m["the second output: "+what] = holding(jobOf(sampleDrv()), dir(""), t)
		}
	}
	return m
}

// changedJob returns j after a change of its own lists.
func changedJob(j impl.Job, change func(j *impl.Job)) impl.Job {
	j.Name, j.Args, j.Outs = bytes.Clone(j.Name), slices.Clone(j.Args), slices.Clone(j.Outs)
	change(&j)
	return j
}

// brokenJobs are jobs that are not valid, each in one way.
func brokenJobs() map[string]impl.Job {
	m := map[string]impl.Job{"the zero value": {}}
	for what, change := range changesOfJobs() {
		m[what] = changedJob(jobOf(doing(eachOp()...), zeros), change)
		m[what+", without operations"] = changedJob(jobOf(doing()), change)
		m[what+", in the sample"] = changedJob(sampleJob(), change)
	}
	for what, t := range brokenTrees() {
		m["an output: "+what] = holding(jobOf(doing()), t)
		m["the second output: "+what] = holding(jobOf(sampleDrv()), dir(""), t)
	}
	for what, d := range brokenDrvs() {
		m["D: "+what] = jobOf(d, zeros)
		m["D, without outputs: "+what] = holding(jobOf(d, zeros))
	}
	return m
}

// changesOfJobs make a job not valid.
func changesOfJobs() map[string]func(j *impl.Job) {
	m := map[string]func(j *impl.Job){
		"Pc one too many":       func(j *impl.Job) { j.Pc = len(j.D.Ops) + 1 },
		"no outputs":            func(j *impl.Job) { j.Outs = nil },
		"one output too few":    func(j *impl.Job) { j.Outs = j.Outs[1:] },
		"one output too many":   func(j *impl.Job) { j.Outs = append(j.Outs, dir("")) },
		"many outputs":          func(j *impl.Job) { j.Outs = slices.Repeat([]impl.Tree{dir("")}, 258) },
		"another derivation":    func(j *impl.Job) { j.Name = []byte(nameOfDrv(doing(failOp()))) },
		"another D":             func(j *impl.Job) { j.D = doing(emitOp("another")); j.Pc, j.Outs = 0, []impl.Tree{dir("")} },
		"a name of letter f":    func(j *impl.Job) { j.Name = []byte(nameFor('f', string(encodeDrv(j.D)))) },
		"an object's name":      func(j *impl.Job) { j.Name = []byte(absent()) },
		"one character less":    func(j *impl.Job) { j.Name = j.Name[:15] },
		"one character more":    func(j *impl.Job) { j.Name = append(j.Name, '0') },
		"another character":     func(j *impl.Job) { j.Name[15] = digits[(strings.IndexByte(digits, j.Name[15])+1)%32] },
		"no Name":               func(j *impl.Job) { j.Name = nil },
		"eleven Args":           func(j *impl.Job) { j.Args = texts(append(ten(), zeros)...) },
		"eleven equal Args":     func(j *impl.Job) { j.Args = texts(slices.Repeat([]string{steep}, 11)...) },
		"many Args":             func(j *impl.Job) { j.Args = texts(slices.Repeat([]string{steep}, 266)...) },
		"eleven Args, one none": func(j *impl.Job) { j.Args = texts(append(ten(), "")...) },
	}
	for _, pc := range []int{math.MinInt, -256, -2, -1, 9, 10, 255, 256, 1 << 32, math.MaxInt} {
		m["Pc "+strconv.Itoa(pc)] = func(j *impl.Job) { j.Pc = pc }
	}
	for _, s := range noNames {
		m["Name "+strconv.Quote(s)] = func(j *impl.Job) { j.Name = []byte(s) }
		m["an Arg "+strconv.Quote(s)] = func(j *impl.Job) { j.Args = texts(s) }
		m["the last Arg "+strconv.Quote(s)] = func(j *impl.Job) { j.Args = texts(steep, zeros, s) }
		m["the first of ten Args "+strconv.Quote(s)] = func(j *impl.Job) { j.Args = texts(append([]string{s}, ten()[:9]...)...) }
	}
	for what, t := range map[string]impl.Tree{"the zero value": {}, "a file": file("x"), "a program": program("x"), "a link": link("x")} {
		m["the first output: "+what] = func(j *impl.Job) { j.Outs[0] = t }
		m["the last output: "+what] = func(j *impl.Job) { j.Outs[len(j.Outs)-1] = t }
	}
	return m
}

// The reference.

func sameJob(a, b impl.Job) bool {
	return sameDrv(a.D, b.D) && bytes.Equal(a.Name, b.Name) && a.Pc == b.Pc && sameTexts(a.Args, b.Args) && slices.EqualFunc(a.Outs, b.Outs, same)
}

func validJob(j impl.Job) bool {
	if !validDrv(j.D) || string(j.Name) != nameOfDrv(j.D) || j.Pc < 0 || j.Pc > len(j.D.Ops) || len(j.Args) > 10 || len(j.Outs) != len(j.D.Outs) {
		return false
	}
	for _, t := range j.Outs {
		if t.Kind != impl.KdDir || !valid(t) {
			return false
		}
	}
	for _, name := range j.Args {
		if !isName(string(name)) {
			return false
		}
	}
	return true
}

// strs is the reverse of texts.
func strs(l [][]byte) []string {
	var all []string
	for _, b := range l {
		all = append(all, string(b))
	}
	return all
}

func viewOf(s impl.Store, j impl.Job) []string { return closureOf(s, strs(j.Args)...) }

// stepped returns what the document says of JobStep for a valid store and a valid job.
func stepped(s impl.Store, j impl.Job) (impl.Store, impl.Job, int, int) {
	if j.Pc == len(j.D.Ops) {
		return s, j, impl.JbDone, impl.ErWell
	}
	o := j.D.Ops[j.Pc]
	if o.Code == impl.OpBuild && o.Arg < len(j.Args) {
		return s, j, impl.JbWait, impl.ErWell
	}
	next := changedJob(j, func(j *impl.Job) { j.Pc++ })
	more, code := s, impl.ErFail
	switch o.Code {
	case impl.OpWrite:
		code = written(&next, o)
	case impl.OpCopy:
		code = copied(s, &next, o)
	case impl.OpEmit:
		more, code = emitted(s, &next, o)
	case impl.OpBuild:
		code = impl.ErArg
	}
	if code != impl.ErWell {
		return more, j, impl.JbFail, code
	}
	return more, next, impl.JbRun, impl.ErWell
}

func written(j *impl.Job, o impl.Op) int {
	text, _, ok := fillOf(string(o.Text), strs(j.Args))
	if !ok || len(text) > 400 {
		return impl.ErArg
	}
	return putOut(j, o, file(text))
}

func copied(s impl.Store, j *impl.Job, o impl.Op) int {
	if o.Arg >= len(j.Args) {
		return impl.ErArg
	}
	source, ok := objOf(s, string(j.Args[o.Arg]))
	if !ok {
		return impl.ErNone
	}
	return putOut(j, o, source.Tree)
}

func putOut(j *impl.Job, o impl.Op, kid impl.Tree) int {
	kids := map[string]impl.Tree{string(o.Name): kid}
	names := []string{string(o.Name)}
	for i, name := range j.Outs[o.Out].Names {
		if string(name) != string(o.Name) {
			names, kids[string(name)] = append(names, string(name)), j.Outs[o.Out].Kids[i]
		}
	}
	t := dir(strings.Join(sorted(names), " "))
	for _, name := range sorted(names) {
		t.Kids = append(t.Kids, kids[name])
	}
	if !valid(t) {
		return impl.ErArg
	}
	j.Outs[o.Out] = t
	return impl.ErWell
}

func emitted(s impl.Store, j *impl.Job, o impl.Op) (impl.Store, int) {
	text, _, ok := fillOf(string(o.Text), strs(j.Args))
	if !ok || len(text) > 400 {
		return s, impl.ErArg
	}
	more, name, code := addedIn(s, textOf(text), viewOf(s, *j))
	if code != impl.StWell {
		return s, impl.ErFull
	}
	if len(j.Args) >= 10 {
		return more, impl.ErArg
	}
	j.Args = append(j.Args, []byte(name))
	return more, impl.ErWell
}

// registered returns what the document says of Register for a valid store and a valid job that is completed.
func registered(s impl.Store, j impl.Job) (impl.Store, int) {
	more := s
	for i, out := range j.D.Outs {
		o := outOf(string(j.Name), string(out), j.Outs[i])
		with, _, code := addedIn(more, o, viewOf(s, j))
		if code != impl.StWell || len(with.Reals) >= 24 {
			return s, impl.ErFull
		}
		r := impl.Real{Drv: o.From, Out: o.Out, Path: o.Name}
		reals := []impl.Real{r}
		for _, other := range with.Reals {
			if byOutput(other, r) != 0 {
				reals = append(reals, other)
			}
		}
		slices.SortFunc(reals, byOutput)
		with.Reals = reals
		more = with
	}
	return more, impl.ErWell
}

// randomTask makes a valid derivation with these Srcs, whose operations most often can be executed.
func randomTask(random *rand.Rand, srcs [][]byte) impl.Drv {
	for {
		d := impl.Drv{Srcs: srcs, Outs: words([]string{"out", "dev out"}[random.Intn(2)])}
		for range random.Intn(9) {
			d.Ops = append(d.Ops, randomWork(random, len(d.Outs)))
		}
		if validDrv(d) {
			return d
		}
	}
}

func randomWork(random *rand.Rand, outs int) impl.Op {
	out, arg := random.Intn(outs), random.Intn(4)
	name := []string{"a", "bin", "c", "k3", "lib.so", "z-9", "zz"}[random.Intn(7)]
	text := []string{"", "x", "see $0", "$1$0", "$2 $1", "$$", "$0$0$0", "$4", "$9", "$", "$x", strings.Repeat("$0", 25), strings.Repeat("$0", 25) + "x"}[random.Intn(13)]
	if random.Intn(3) == 0 {
		text = strconv.Itoa(random.Intn(10)) + " of $0"
	}
	ops := []impl.Op{writeOp(out, name, text), copyOp(out, name, arg), emitOp(text), buildOp(name, arg), failOp()}
	return ops[[]int{0, 0, 0, 1, 1, 1, 2, 2, 2, 3, 4}[random.Intn(11)]]
}

// randomArgs returns up to n names, most of which are names of objects of s.
func randomArgs(random *rand.Rand, s impl.Store, n int) []string {
	var args []string
	for range random.Intn(n + 1) {
		if len(s.Objs) == 0 || random.Intn(8) == 0 {
			args = append(args, drvName(random.Intn(10)))
		} else {
			args = append(args, nameOf(s.Objs[random.Intn(len(s.Objs))]))
		}
	}
	return args
}

// randomJob makes a valid job for s, somewhere in the middle of its work.
func randomJob(random *rand.Rand, s impl.Store) impl.Job {
	args := randomArgs(random, s, 10)
	if random.Intn(8) == 0 {
		args = append(args, slices.Repeat([]string{zeros}, 10-len(args))...)
	}
	j := jobOf(randomTask(random, nil), args...)
	j.Pc = random.Intn(len(j.D.Ops) + 1)
	for i := range j.Outs {
		j.Outs[i] = randomDir(random, args)
	}
	return j
}

// randomDir makes a valid directory, which often mentions some of the names, or has no room.
func randomDir(random *rand.Rand, names []string) impl.Tree {
	switch random.Intn(8) {
	case 0:
		return dir("")
	case 1:
		return wide(6, file(strconv.Itoa(random.Intn(10))))
	case 2:
		return crowd(39 + random.Intn(2))
	case 3, 4:
		return dir("a b", file(strings.Join(names, "-")), dir("c", link(strings.Join(names[:len(names)/2], ""))))
	}
	for {
		if t := randomTree(random, 4); t.Kind == impl.KdDir && valid(t) {
			return t
		}
	}
}
