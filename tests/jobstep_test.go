package tests

import (
	"math/rand"
	"slices"
	"strings"
	"testing"

	"loop.example/g00538/impl"
)

// The tests of promise 6, as far as it speaks of one operation: it leaves a
// valid store and a valid job, and removes nothing.

// checkKept fails if an object, a root or a realisation of before is not in
// after as it was, or after is not valid.
func checkKept(t *testing.T, what string, before, after impl.Store) {
	t.Helper()
	if !impl.StoreOk(after) {
		t.Fatalf("%s: %v is not valid", what, after)
	}
	for _, o := range before.Objs {
		if got, ok := impl.Find(after, o.Name); !ok || !sameObj(got, o) {
			t.Fatalf("%s: %v is now %v, %t", what, o, got, ok)
		}
	}
	for _, r := range before.Reals {
		if got, ok := impl.RealOf(after, r.Drv, r.Out); !ok || string(got) != string(r.Path) {
			t.Fatalf("%s: %v is now %q, %t", what, r, got, ok)
		}
	}
	if !sameTexts(before.Roots, after.Roots) {
		t.Fatalf("%s: the roots %q are now %q", what, before.Roots, after.Roots)
	}
}

// checkStep lets a valid job make a step in a valid store, and fails if anything
// but what the document names has changed.
func checkStep(t *testing.T, what string, s impl.Store, j impl.Job) (impl.Store, impl.Job, int, int) {
	t.Helper()
	r := checkCall(t, what+": JobStep", impl.JobStep, s, j)
	got, after, status, code := r[0].(impl.Store), r[1].(impl.Job), r[2].(int), r[3].(int)
	wantStore, wantJob, wantStatus, wantCode := stepped(s, j)
	if status != wantStatus || code != wantCode {
		t.Fatalf("%s: JobStep(%v, %v) = %d, %d instead of %d, %d", what, s, j, status, code, wantStatus, wantCode)
	}
	if !sameStore(got, wantStore) || !sameJob(after, wantJob) {
		t.Fatalf("%s: JobStep(%v, %v) = %v, %v, %d, %d", what, s, j, got, after, status, code)
	}
	checkKept(t, what, s, got)
	if len(got.Objs) > len(s.Objs)+1 || len(got.Reals) != len(s.Reals) || !impl.JobOk(after) {
		t.Fatalf("%s: JobStep(%v, %v) = %v, %v", what, s, j, got, after)
	}
	if status != impl.JbRun && !sameJob(after, j) || status == impl.JbRun && after.Pc != j.Pc+1 {
		t.Fatalf("%s: the job %v is now %v", what, j, after)
	}
	return got, after, status, code
}

// checkRuns fails if the step is not executed.
func checkRuns(t *testing.T, what string, s impl.Store, j impl.Job) (impl.Store, impl.Job) {
	t.Helper()
	got, after, status, code := checkStep(t, what, s, j)
	if status != impl.JbRun || code != impl.ErWell {
		t.Fatalf("%s: JobStep = %d, %d", what, status, code)
	}
	return got, after
}

// checkFails fails if the step does not fail with that code, or changes anything.
func checkFails(t *testing.T, what string, s impl.Store, j impl.Job, code int) {
	t.Helper()
	got, after, status, gotCode := checkStep(t, what, s, j)
	if status != impl.JbFail || gotCode != code || !sameStore(got, s) || !sameJob(after, j) {
		t.Fatalf("%s: JobStep = %v, %v, %d, %d", what, got, after, status, gotCode)
	}
}

// checkPuts fails if the step does anything but make that the first output.
func checkPuts(t *testing.T, what string, s impl.Store, j impl.Job, want impl.Tree) {
	t.Helper()
	got, after := checkRuns(t, what, s, j)
	if !sameStore(got, s) || !sameTexts(after.Args, j.Args) || !same(after.Outs[0], want) {
		t.Fatalf("%s: JobStep = %v, %v", what, got, after)
	}
}

func TestStepWrites(t *testing.T) {
	s, c := workplace()
	x, y := nameOf(c[0]), nameOf(c[1])
	two := dir("b d", link("1"), dir("e", program("2")))
	for _, w := range []struct {
		out        impl.Tree
		name, text string
		want       impl.Tree
	}{
		{dir(""), "a", "", dir("a", file(""))},
		{dir(""), "long.est", "x\x00\xff\n", dir("long.est", file("x\x00\xff\n"))},
		{dir(""), "a", "see $0", dir("a", file("see "+x))},
		{dir(""), "a", "$1$0$1", dir("a", file(y+x+y))},
		{dir(""), "a", "$$0 is $0", dir("a", file("$0 is "+x))},
		{two, "a", "x", dir("a b d", file("x"), link("1"), dir("e", program("2")))},
		{two, "c", "x", dir("b c d", link("1"), file("x"), dir("e", program("2")))},
		{two, "e", "x", dir("b d e", link("1"), dir("e", program("2")), file("x"))},
		{two, "b", "x", dir("b d", file("x"), dir("e", program("2")))},
		{two, "d", "$1", dir("b d", link("1"), file(y))},
	} {
		checkPuts(t, "writing "+w.text, s, holding(jobOf(doing(writeOp(0, w.name, w.text)), x, y), w.out), w.want)
	}
}

func TestStepWritesIntoEachOutput(t *testing.T) {
	s, c := workplace()
	for out := range 2 {
		for _, o := range []impl.Op{writeOp(out, "b", "the end"), copyOp(out, "b", 0)} {
			d := impl.Drv{Outs: words("dev out"), Ops: []impl.Op{failOp(), o, failOp()}}
			j := holding(jobOf(d, nameOf(c[0])), dir("a", file("dev")), dir("a", file("out")))
			j.Pc = 1
			_, after := checkRuns(t, show(o), s, j)
			if want := dir("a b", file([]string{"dev", "out"}[out]), file("the end")); !same(after.Outs[out], want) || !same(after.Outs[1-out], j.Outs[1-out]) {
				t.Errorf("%s: the outputs are %v", show(o), after.Outs)
			}
		}
	}
}

func TestStepCopies(t *testing.T) {
	s, c := workplace()
	for i, o := range s.Objs {
		for at := range 3 {
			args := []string{nameOf(c[3]), absent(), nameOf(c[0])}
			args[at] = nameOf(o)
			j := holding(jobOf(doing(copyOp(0, "c", at)), args...), dir("b d", file("1"), file("2")))
			checkPuts(t, "a new name", s, j, dir("b c d", file("1"), o.Tree, file("2")))
			j = holding(jobOf(doing(copyOp(0, "b", at)), args...), dir("b d", file("1"), file("2")))
			checkPuts(t, "an existing name", s, j, dir("b d", o.Tree, file("2")))
		}
		checkFails(t, "beyond the Args", s, jobOf(doing(copyOp(0, "c", i%9+1)), slices.Repeat([]string{nameOf(o)}, i%9+1)...), impl.ErArg)
	}
	// The workplace has objects of all Kinds, but not all Kinds of files.
	for _, tree := range []impl.Tree{file("x"), program("x"), link("x"), dir(""), sample().Kids[0]} {
		for _, o := range []impl.Obj{treeOf(tree), outOf(drvName(0), "out", tree)} {
			checkPuts(t, "a tree", storeOf(o), jobOf(doing(copyOp(0, "c", 0)), nameOf(o)), dir("c", tree))
		}
	}
}

func TestStepCopiesNothing(t *testing.T) {
	s, c := workplace()
	for at := range 10 {
		for n := range 11 {
			j := jobOf(doing(copyOp(0, "a", at)), slices.Repeat([]string{absent()}, n)...)
			code := impl.ErArg
			if at < n {
				code = impl.ErNone
			}
			checkFails(t, "Args that are not there", s, j, code)
			checkFails(t, "an empty store", impl.Store{}, j, code)
			// That the output has no room comes last.
			checkFails(t, "Args that are not there, no room", s, holding(j, wide(6, file(""))), code)
		}
	}
	checkFails(t, "Args of which one is not there", s, jobOf(doing(copyOp(0, "a", 1)), nameOf(c[0]), drvName(0), nameOf(c[1])), impl.ErNone)
	checkFails(t, "what Srcs only name", s, jobOf(impl.Drv{Srcs: namesOf(c[0]), Outs: words("out"), Ops: []impl.Op{copyOp(0, "a", 0)}}), impl.ErArg)
}

// checkRoom fails if the output does not take what the operation puts there exactly if it has room.
func checkRoom(t *testing.T, what string, out impl.Tree, name string, kid impl.Tree, room bool) {
	t.Helper()
	o := treeOf(kid)
	jobs := []impl.Job{jobOf(doing(copyOp(0, name, 0)), nameOf(o))}
	if kid.Kind == impl.KdFile && len(kid.Data) <= 100 {
		jobs = append(jobs, jobOf(doing(writeOp(0, name, string(kid.Data)))))
	}
	for _, j := range jobs {
		j = holding(j, out)
		if !room {
			checkFails(t, what, storeOf(o), j, impl.ErArg)
			continue
		}
		_, after := checkRuns(t, what, storeOf(o), j)
		if got, ok := impl.TreeAt(after.Outs[0], words(name)); !ok || !same(got, kid) {
			t.Errorf("%s: %q is %v, %t", what, name, got, ok)
		}
	}
}

func TestStepsAtLimitsOfTheOutput(t *testing.T) {
	checkRoom(t, "a sixth kid", wide(5, file("x")), "z", file("y"), true)
	checkRoom(t, "a seventh kid", wide(6, file("x")), "z", file("y"), false)
	checkRoom(t, "a seventh kid in front", wide(6, file("x")), "a", file("y"), false)
	checkRoom(t, "one of six kids", wide(6, file("x")), "k3", file("y"), true)
	checkRoom(t, "the last of six kids", wide(6, file("x")), "k5", dir(""), true)
	checkRoom(t, "40 nodes", dir("a", crowd(38)), "b", file("y"), true)
	checkRoom(t, "41 nodes", dir("a", crowd(39)), "b", file("y"), false)
	checkRoom(t, "40 nodes, one replaced", dir("a b", crowd(38), file("x")), "b", file("y"), true)
	checkRoom(t, "40 nodes, 39 replaced", dir("a", crowd(39)), "a", file("y"), true)
	checkRoom(t, "40 nodes by a tree", dir(""), "a", crowd(39), true)
	checkRoom(t, "41 nodes by a tree", dir(""), "a", crowd(40), false)
	checkRoom(t, "41 nodes by a tree, one replaced", dir("a b", file(""), dir("")), "b", crowd(39), false)
	for depth := 2; depth <= 4; depth++ {
		checkRoom(t, "depth by a tree", dir("a", file("")), "b", deep(depth, dir("")), depth < 4)
		checkRoom(t, "depth by a file below", dir("a", file("")), "a", deep(depth, file("")), depth < 4)
	}
	checkRoom(t, "a file beside what is deep", deep(4, file("")), "b", file("y"), true)
	checkRoom(t, "a file instead of what is deep", deep(4, dir("")), "d", file("y"), true)
	checkRoom(t, "the longest text", dir(""), "a", longest(impl.KdFile), true)
}

// refusedTexts cannot be filled with n arguments.
func refusedTexts(n int) []string {
	l := []string{"$", "x$", "$$$", "$x", "$ ", "$\x00", "$\xff", "$-1", "$a$", "see $", "$(0)", "$é"}
	for i := n; i < 10; i++ {
		l = append(l, "$"+digits[i:i+1], "see $"+digits[i:i+1]+"!")
	}
	if n > 0 {
		l = append(l, "$0$", "$0 $", "$x$0", "$0$x")
	}
	return l
}

func TestStepsWithTextsThatAreRefused(t *testing.T) {
	s, c := workplace()
	names := append(strs(namesOf(c...)), ten()[4:]...)
	for n := range 11 {
		for _, text := range refusedTexts(n) {
			checkFails(t, "writing "+text, s, jobOf(doing(writeOp(0, "a", text)), names[:n]...), impl.ErArg)
			checkFails(t, "emitting "+text, s, jobOf(doing(emitOp(text)), names[:n]...), impl.ErArg)
		}
	}
	// That the text is refused comes before that there is no room.
	full := fullStore()
	for _, text := range refusedTexts(10) {
		checkFails(t, "no room, writing "+text, full, holding(jobOf(doing(writeOp(0, "a", text)), ten()...), wide(6, file(""))), impl.ErArg)
		checkFails(t, "no room, emitting "+text, full, jobOf(doing(emitOp(text)), ten()...), impl.ErArg)
	}
}

// A text of at most 100 bytes may grow to more than MaxText.
func TestStepsWithTextsThatGrow(t *testing.T) {
	s, _ := workplace()
	names := strs(namesOf(s.Objs...))
	for n := 1; n <= 10; n++ {
		for marks := 22; marks <= 50; marks++ {
			for rest := 0; rest <= 20 && 2*marks+rest <= 100; rest++ {
				size := 16*marks + rest
				if size != 399 && size != 400 && size != 401 && rest != 0 {
					continue
				}
				text := strings.Repeat("$"+digits[n-1:n], marks) + strings.Repeat("x", rest)
				checkGrown(t, s, text, names[:n], size)
			}
		}
	}
	// Two dollar signs become one.
	for _, args := range [][]string{nil, names[:1], names[:10]} {
		checkGrown(t, s, strings.Repeat("$$", 50), args, 50)
		checkGrown(t, s, strings.Repeat("x", 100), args, 100)
		checkGrown(t, s, strings.Repeat("x", 98)+"$$", args, 99)
		checkGrown(t, s, "", args, 0)
	}
}

func checkGrown(t *testing.T, s impl.Store, text string, args []string, size int) {
	t.Helper()
	write, emit := jobOf(doing(writeOp(0, "a", text)), args...), jobOf(doing(emitOp(text)), args...)
	if size > 400 {
		checkFails(t, "writing "+text, s, write, impl.ErArg)
		checkFails(t, "emitting "+text, s, emit, impl.ErArg)
		return
	}
	if _, after := checkRuns(t, "writing "+text, s, write); len(after.Outs[0].Kids[0].Data) != size {
		t.Errorf("writing %q: %v", text, after.Outs[0])
	}
	got, after, _, code := checkStep(t, "emitting "+text, s, emit)
	want, _, _ := fillOf(text, args)
	o, ok := impl.Find(got, []byte(nameFor('t', want)))
	if !ok || len(want) != size || string(o.Tree.Data) != want || code == impl.ErWell && string(after.Args[len(args)]) != nameOf(o) || (code == impl.ErArg) != (len(args) == 10) {
		t.Errorf("emitting %q: %v, %d", text, o, code)
	}
}

// checkEmits fails if the step does not emit a text that refers to exactly these.
func checkEmits(t *testing.T, what string, s impl.Store, j impl.Job, refs ...impl.Obj) {
	t.Helper()
	got, after := checkRuns(t, what, s, j)
	o, ok := impl.Find(got, after.Args[len(j.Args)])
	if len(after.Args) != len(j.Args)+1 || !ok || o.Kind != impl.ObText || !sameTexts(o.Refs, namesOf(refs...)) {
		t.Fatalf("%s: Args are %q, and the object is %v, %t", what, after.Args, o, ok)
	}
	if !sameTexts(after.Args[:len(j.Args)], j.Args) || !same(after.Outs[0], j.Outs[0]) || !sameTexts(impl.RefsOf(got, o.Name), o.Refs) {
		t.Fatalf("%s: the job is %v", what, after)
	}
}

func TestStepEmits(t *testing.T) {
	c, n := chain(4), numbered(2)
	s := rooted(storeOf(append(n, c...)...), n[0])
	arg, other := nameOf(c[2]), nameOf(n[0])
	for _, x := range []struct {
		what, text string
		args       []string
		refs       []impl.Obj
	}{
		{"nothing", "", nil, nil},
		{"no name", "some text", []string{arg}, nil},
		{"an argument", "see $0", []string{arg}, c[2:3]},
		{"an argument by its name", "see " + arg, []string{arg}, c[2:3]},
		{"an argument twice", "$0$0", []string{arg}, c[2:3]},
		{"two arguments", "$0 $1", []string{other, arg}, []impl.Obj{n[0], c[2]}},
		{"one of two arguments", "$1", []string{other, arg}, c[2:3]},
		{"what an argument refers to", "see " + nameOf(c[1]), []string{arg}, c[1:2]},
		{"what an argument refers to indirectly", "see " + nameOf(c[0]) + nameOf(c[1]), []string{other, arg}, c[:2]},
		{"what refers to an argument", "see " + nameOf(c[3]), []string{arg}, nil},
		{"a name that is not in the view", "see " + other, []string{arg}, nil},
		{"a name that is not in the view, without Args", "see " + other, nil, nil},
		{"names inside and outside the view", "$0" + other + nameOf(n[1]), []string{arg}, c[2:3]},
		{"an argument that is not in the store", "see $0", []string{absent()}, nil},
		{"arguments of which one is not in the store", "$0$1", []string{absent(), arg}, c[2:3]},
		{"a part of a name", "see " + arg[:15], []string{arg}, nil},
		{"a dollar sign", "$$0", []string{arg}, nil},
		{"nine arguments", "$8", append(slices.Repeat([]string{absent()}, 8), arg), c[2:3]},
	} {
		j := holding(jobOf(doing(emitOp(x.text)), x.args...), sample())
		checkEmits(t, x.what, s, j, x.refs...)
	}
	// The objects of an earlier emission are in the view by their names.
	s, j := checkRuns(t, "first", s, jobOf(doing(emitOp("first"), emitOp("second, $0"), emitOp("third, $1")), nil...))
	s, j = checkRuns(t, "second", s, j)
	checkEmits(t, "third", s, j, textOf("second, "+nameOf(textOf("first"))))
}

// An object that exists remains as it is, also if it would now get other references.
func TestStepEmitsWhatExists(t *testing.T) {
	a, b := textOf("a"), textOf("b")
	both := nameOf(a) + nameOf(b)
	for _, x := range []struct {
		exists impl.Obj
		refs   []impl.Obj
	}{
		{textOf(both), nil}, {textOf(both, nameOf(b)), []impl.Obj{b}}, {textOf(both, nameOf(a), nameOf(b)), []impl.Obj{a, b}},
	} {
		s := storeOf(a, b, x.exists)
		checkEmits(t, "what exists", s, jobOf(doing(emitOp("$0$1")), nameOf(a), nameOf(b)), x.refs...)
		checkEmits(t, "what exists, outside the view", s, jobOf(doing(emitOp(both))), x.refs...)
		checkEmits(t, "what is an argument", s, jobOf(doing(emitOp(both)), nameOf(x.exists)), x.refs...)
	}
	checkEmits(t, "the file of a tree", storeOf(treeOf(file("a"))), jobOf(doing(emitOp("a"))))
}

func TestStepEmitsAtLimits(t *testing.T) {
	for n := 21; n <= 24; n++ {
		l := numbered(n)
		s := rooted(storeOf(l...), l[1])
		for args := range 11 {
			names := slices.Repeat([]string{nameOf(l[0])}, args)
			code, objs := impl.ErWell, n+1
			switch {
			case n == 24:
				code, objs = impl.ErFull, n
			case args == 10:
				code = impl.ErArg
			}
			checkEmission(t, "a new object", s, jobOf(doing(emitOp("new")), names...), code, objs)
			code = impl.ErWell
			if args == 10 {
				code = impl.ErArg
			}
			checkEmission(t, "what exists", s, jobOf(doing(emitOp("text 5")), names...), code, n)
		}
	}
	for _, o := range fullStore().Objs {
		if o.Kind == impl.ObText && len(o.Tree.Data) <= 100 {
			checkEmission(t, "what exists in a full store", fullStore(), jobOf(doing(emitOp(string(o.Tree.Data)))), impl.ErWell, 24)
		}
	}
}

// checkEmission fails if the step has another code, or leaves another number of objects.
func checkEmission(t *testing.T, what string, s impl.Store, j impl.Job, code, objs int) {
	t.Helper()
	got, after, status, gotCode := checkStep(t, what, s, j)
	if gotCode != code || (status == impl.JbRun) != (code == impl.ErWell) || len(got.Objs) != objs || (len(after.Args) == len(j.Args)+1) != (code == impl.ErWell) {
		t.Errorf("%s: with %d objects and %d Args: %d, %d, %d objects, %d Args", what, len(s.Objs), len(j.Args), status, gotCode, len(got.Objs), len(after.Args))
	}
}

func TestStepWaits(t *testing.T) {
	s, _ := workplace()
	for at := range 10 {
		for n := range 11 {
			for _, arg := range []string{absent(), nameOf(s.Objs[at])} {
				j := jobOf(doing(buildOp("out", at)), slices.Repeat([]string{arg}, n)...)
				if at >= n {
					checkFails(t, "no argument", s, j, impl.ErArg)
					continue
				}
				got, after, status, code := checkStep(t, "an argument", s, j)
				if status != impl.JbWait || code != impl.ErWell || !sameStore(got, s) || !sameJob(after, j) {
					t.Errorf("waiting for argument %d of %d: %v, %v, %d, %d", at, n, got, after, status, code)
				}
			}
		}
	}
}

func TestStepFails(t *testing.T) {
	s, c := workplace()
	for what, s := range map[string]impl.Store{"some objects": s, "no objects": {}, "full": fullStore()} {
		checkFails(t, what, s, jobOf(doing(failOp())), impl.ErFail)
		checkFails(t, what, s, holding(jobOf(doing(failOp(), writeOp(0, "a", "x")), append(ten()[:9], nameOf(c[0]))...), crowd(40)), impl.ErFail)
		j := jobOf(doing(writeOp(0, "a", "x"), failOp()), zeros)
		j.Pc = 1
		checkFails(t, what, s, j, impl.ErFail)
	}
}

// What has no operation left is done, again and again.
func TestStepIsDone(t *testing.T) {
	s, _ := workplace()
	for what, j := range validJobs() {
		for _, s := range []impl.Store{s, {}, fullStore()} {
			got, after, status, code := impl.JobStep(s, finished(j))
			if status != impl.JbDone || code != impl.ErWell || !sameStore(got, s) || !sameJob(after, finished(j)) {
				t.Errorf("%s: JobStep = %v, %v, %d, %d", what, got, after, status, code)
			}
		}
	}
}

// Whatever has been done, a step is what the operation at Pc makes of it.
func TestStepsOfEveryJob(t *testing.T) {
	s, _ := workplace()
	for what, j := range validJobs() {
		checkStep(t, what, s, j)
	}
}

func TestStepsOfRandomJobs(t *testing.T) {
	random := rand.New(rand.NewSource(64))
	seen := map[[2]int]int{}
	for range 800 {
		s := randomStore(random)
		_, _, status, code := checkStep(t, "at random", s, randomJob(random, s))
		seen[[2]int{status, code}]++
	}
	for _, sort := range [][2]int{{impl.JbRun, impl.ErWell}, {impl.JbWait, impl.ErWell}, {impl.JbDone, impl.ErWell}, {impl.JbFail, impl.ErArg}, {impl.JbFail, impl.ErNone}, {impl.JbFail, impl.ErFail}, {impl.JbFail, impl.ErFull}} {
		if seen[sort] < 5 {
			t.Error("too few of one sort:", seen)
		}
	}
}
