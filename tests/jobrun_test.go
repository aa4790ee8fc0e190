package tests

import (
	"bytes"
	"math/rand"
	"slices"
	"testing"

	"loop.example/g00538/impl"
)

// The tests of promise 6 for whole jobs, step by step from JobNew to the end:
// outputs exist under OutName and refer only to objects in the view of the job.

// checkRun runs the job for a derivation of s as far as it goes and registers
// its outputs if it is done. It returns the results of the last step. Where the
// job waits, it gets an object of s as its next argument, if there is room for it.
func checkRun(t *testing.T, what string, s impl.Store, d impl.Drv) (impl.Store, impl.Job, int, int) {
	t.Helper()
	j, code := impl.JobNew(s, []byte(nameOfDrv(d)))
	if code != impl.ErWell || !impl.JobOk(j) || !sameJob(j, jobOf(d, strs(d.Srcs)...)) {
		t.Fatalf("%s: JobNew = %v, %d", what, j, code)
	}
	for range len(d.Ops) {
		status := 0
		s, j, status, code = checkStep(t, what, s, j)
		if status == impl.JbWait && len(j.Args) < 10 {
			j.Args, j.Pc = append(j.Args, bytes.Clone(s.Objs[len(s.Objs)/2].Name)), j.Pc+1
		} else if status != impl.JbRun {
			return s, j, status, code
		}
	}
	got, after, status, code := checkStep(t, what, s, j)
	if status != impl.JbDone || code != impl.ErWell || !sameStore(got, s) || !sameJob(after, j) {
		t.Fatalf("%s: JobStep = %v, %v, %d, %d", what, got, after, status, code)
	}
	checkRegister(t, what, s, j)
	return s, j, status, code
}

func TestRun(t *testing.T) {
	low, tree, gone := textOf("low"), treeOf(dir("b c", program("#!"), link("low"))), textOf("other")
	d := impl.Drv{Srcs: namesOf(low, tree), Outs: words("dev out"), Ops: []impl.Op{
		emitOp("see $0"),
		writeOp(0, "a", "$2, $1"),
		buildOp("out", 2),
		copyOp(1, "lib", 3),
		emitOp("$2 " + nameOf(gone)),
		writeOp(1, "a", "$4"),
		writeOp(0, "a", "$0$1"),
		writeOp(0, "b", "$$"),
	}}
	first, second := nameOf(tree), nameOf(low)
	if string(d.Srcs[0]) == nameOf(low) {
		first, second = second, first
	}
	built := outOf(nameFor('t', "see "+first), "out", dir("x", link(second)), second)
	text := textOf("see "+first, first)
	last := textOf(nameOf(text)+" "+nameOf(gone), nameOf(text))
	s := made(rooted(storeOf(low, tree, gone, built, drvText(d)), gone), built)

	j, code := impl.JobNew(s, []byte(nameOfDrv(d)))
	if code != impl.ErWell {
		t.Fatal("JobNew:", code)
	}
	for pc := range d.Ops {
		status := 0
		s, j, status, code = checkStep(t, "the job", s, j)
		if pc == 2 {
			if status != impl.JbWait || code != impl.ErWell || j.Pc != pc {
				t.Fatalf("operation %d: %d, %d, %v", pc, status, code, j)
			}
			j.Args, j.Pc = append(j.Args, built.Name), 3
		} else if status != impl.JbRun || code != impl.ErWell || j.Pc != pc+1 {
			t.Fatalf("operation %d: %d, %d, %v", pc, status, code, j)
		}
	}
	want := made(rooted(storeOf(low, tree, gone, built, drvText(d), text, last), gone), built)
	if !sameStore(s, want) || !sameTexts(j.Args, texts(first, second, nameOf(text), nameOf(built), nameOf(last))) {
		t.Fatalf("the store is %v, and Args are %q", s, j.Args)
	}
	dev, out := dir("a b", file(first+second), file("$")), dir("a lib", file(nameOf(last)), built.Tree)
	if !same(j.Outs[0], dev) || !same(j.Outs[1], out) {
		t.Fatalf("the outputs are %v", j.Outs)
	}
	outs := []impl.Obj{outOf(nameOfDrv(d), "dev", dev, first, second), outOf(nameOfDrv(d), "out", out, nameOf(last), second)}
	want = made(rooted(storeOf(append(want.Objs, outs...)...), gone), append(outs, built)...)
	if got, code := checkRegister(t, "the job", s, j); code != impl.ErWell || !sameStore(got, want) {
		t.Fatalf("Register = %v, %d", got, code)
	}
}

// Each operation alone, each two and each three of them, one after the other.
func TestRunsOfEachOperation(t *testing.T) {
	l := someObjs(2)
	ops := []impl.Op{writeOp(0, "a", "$0"), copyOp(0, "b", 1), emitOp("new"), emitOp("see $0"), buildOp("c", 0), failOp(), {}}
	seen := map[[2]int]int{}
	run := func(srcs, outs int, ops ...impl.Op) {
		t.Helper()
		ops = slices.DeleteFunc(ops, func(o impl.Op) bool { return len(o.Name) == 0 && o.Code == impl.OpWrite })
		d := impl.Drv{Srcs: namesOf(l[:srcs]...), Outs: words("dev out")[:outs], Ops: ops}
		s := rooted(storeOf(append(l, drvText(d))...), l[1])
		got, j, status, code := checkRun(t, "in some order", s, d)
		checkKept(t, "in some order", s, got)
		seen[[2]int{status, code}]++
		fails := slices.IndexFunc(ops, func(o impl.Op) bool { return o.Code == impl.OpFail })
		if (code == impl.ErFail) != (fails >= 0 && j.Pc == fails) || status == impl.JbDone && j.Pc != len(ops) {
			t.Errorf("%v ends with %d, %d at %d", ops, status, code, j.Pc)
		}
	}
	for _, a := range ops {
		for _, b := range ops {
			for _, c := range ops {
				run(2, 1, a, b, c)
				run(0, 2, a, b, c)
			}
			run(1, 2, a, b)
			run(2, 2, a, b)
		}
	}
	if seen[[2]int{impl.JbDone, impl.ErWell}] < 100 || seen[[2]int{impl.JbFail, impl.ErFail}] < 100 || seen[[2]int{impl.JbFail, impl.ErArg}] < 100 {
		t.Error("too few of one sort:", seen)
	}
}

// A job that has all codes, and can be done but for the last one.
func TestRunOfAllCodes(t *testing.T) {
	l := someObjs(3)
	for n := range 4 {
		for _, outs := range []string{"out", "dev out"} {
			d := impl.Drv{Srcs: namesOf(l[:n]...), Outs: words(outs), Ops: []impl.Op{emitOp("$$"), writeOp(0, "a", "$0"), copyOp(0, "b", 0), buildOp("out", n), writeOp(0, "c", "$1"), failOp()}}
			s := storeOf(append(l, drvText(d))...)
			_, j, status, code := checkRun(t, "all codes", s, d)
			if status != impl.JbFail || code != impl.ErFail || j.Pc != 5 || len(j.Args) != n+2 || len(j.Outs[0].Kids) != 3 {
				t.Errorf("with %d Srcs: %v, %d, %d", n, j, status, code)
			}
			d.Ops = d.Ops[:5]
			s = storeOf(append(l, drvText(d))...)
			_, j, status, code = checkRun(t, "all codes but OpFail", s, d)
			if status != impl.JbDone || code != impl.ErWell || j.Pc != 5 || len(j.Args) != n+2 {
				t.Errorf("with %d Srcs: %v, %d, %d", n, j, status, code)
			}
		}
	}
}

// A job may emit as many objects as there is room for Args.
func TestRunUntilArgsAreFull(t *testing.T) {
	l := someObjs(3)
	for n := range 4 {
		d := impl.Drv{Srcs: namesOf(l[:n]...), Outs: words("out"), Ops: slices.Repeat([]impl.Op{emitOp("x")}, 8)}
		s := storeOf(append(l, drvText(d))...)
		got, j, status, code := checkRun(t, "emitting the same", s, d)
		if done := n <= 2; done != (status == impl.JbDone) || !done && (code != impl.ErArg || j.Pc != 7) || len(got.Objs) != 5 || len(j.Args) != min(n+8, 10) {
			t.Errorf("with %d Srcs: %v, %d, %d", n, j, status, code)
		}
	}
}

func TestRunsOfRandomTasks(t *testing.T) {
	random := rand.New(rand.NewSource(65))
	seen := map[[2]int]int{}
	for range 350 {
		s := randomStore(random)
		var srcs [][]byte
		if len(s.Objs) == 24 {
			s = impl.Store{}
		}
		for _, o := range s.Objs {
			if len(srcs) < 3 && random.Intn(6) == 0 {
				srcs = append(srcs, o.Name)
			}
		}
		d := randomTask(random, srcs)
		with := storeOf(append(slices.Clone(s.Objs), drvText(d))...)
		with.Roots, with.Reals = s.Roots, s.Reals
		got, _, status, code := checkRun(t, "at random", with, d)
		checkKept(t, "at random", with, got)
		seen[[2]int{status, code}]++
	}
	if seen[[2]int{impl.JbDone, impl.ErWell}] < 50 || seen[[2]int{impl.JbFail, impl.ErArg}] < 50 || seen[[2]int{impl.JbFail, impl.ErFail}] < 20 {
		t.Error("too few of one sort:", seen)
	}
}
