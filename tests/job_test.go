package tests

import (
	"math/rand"
	"reflect"
	"slices"
	"strconv"
	"testing"

	"loop.example/g00538/impl"
)

// The tests of promise 6 that concern every function of chapter 6: what is a
// valid job, what the functions return for others, and their memory.

func TestJobConstants(t *testing.T) {
	constants := []int{impl.JbRun, impl.JbWait, impl.JbDone, impl.JbFail, impl.ErWell, impl.ErMalformed, impl.ErArg, impl.ErFail, impl.ErDep, impl.ErFull, impl.ErNone, impl.ErStuck, impl.ErForm}
	checkConstants(t, constants, 0, 1, 2, 3, 0, 1, 2, 3, 4, 5, 6, 7, 8)
}

func TestJobOk(t *testing.T) {
	checkOk(t, "JobOk", impl.JobOk, validJob, validJobs(), brokenJobs())
}

// Each of these is valid by one number alone.
func TestJobOkOfEachNumber(t *testing.T) {
	for ops := range 9 {
		j := jobOf(doing(slices.Repeat([]impl.Op{failOp()}, ops)...))
		for pc := -3; pc < 12; pc++ {
			j.Pc = pc
			if ok := impl.JobOk(j); ok != (pc >= 0 && pc <= ops) {
				t.Errorf("Pc %d of %d operations: %t", pc, ops, ok)
			}
		}
	}
	for n := range 14 {
		if ok := impl.JobOk(jobOf(doing(), slices.Repeat([]string{last1}, n)...)); ok != (n <= 10) {
			t.Errorf("%d Args: %t", n, ok)
		}
		one, two := jobOf(doing()), jobOf(sampleDrv())
		one.Outs, two.Outs = slices.Repeat([]impl.Tree{dir("")}, n), slices.Repeat([]impl.Tree{dir("a", file(""))}, n)
		if impl.JobOk(one) != (n == 1) || impl.JobOk(two) != (n == 2) {
			t.Errorf("%d outputs: %t, %t", n, impl.JobOk(one), impl.JobOk(two))
		}
	}
}

// The limits of a tree are those of each output, not of all of them.
func TestJobOkOfEachTree(t *testing.T) {
	for n := 8; n <= 43; n++ {
		if ok := impl.JobOk(holding(jobOf(sampleDrv()), crowd(n), crowd(40))); ok != (n <= 40) {
			t.Errorf("%d nodes: %t", n, ok)
		}
	}
	for depth := 2; depth <= 6; depth++ {
		if ok := impl.JobOk(holding(jobOf(sampleDrv()), dir(""), deep(depth, file("")))); ok != (depth <= 4) {
			t.Errorf("depth %d: %t", depth, ok)
		}
	}
	for kind := -1; kind <= 5; kind++ {
		for i := range 2 {
			j := jobOf(sampleDrv())
			j.Outs[i].Kind = kind
			if ok := impl.JobOk(j); ok != (kind == impl.KdDir) {
				t.Errorf("output %d of Kind %d: %t", i, kind, ok)
			}
		}
	}
}

func TestJobOkOfRandomJobs(t *testing.T) {
	random := rand.New(rand.NewSource(61))
	seen := map[bool]int{}
	for range 3000 {
		s := randomStore(random)
		j := randomJob(random, s)
		if !impl.JobOk(j) || !validJob(j) {
			t.Fatalf("JobOk(%v) is false", j)
		}
		other := randomJob(random, s)
		switch random.Intn(6) {
		case 0:
			j.D = other.D
		case 1:
			j.Name = other.Name
		case 2:
			j.Pc = other.Pc
		case 3:
			j.Args = append(j.Args, other.Args...)
		case 4:
			j.Outs = other.Outs
		case 5:
			j.Outs[0] = randomTree(random, 5)
		}
		want := validJob(j)
		seen[want]++
		if got := impl.JobOk(j); got != want {
			t.Fatalf("JobOk(%v) = %t", j, got)
		}
	}
	if seen[true] < 500 || seen[false] < 500 {
		t.Fatal("too few jobs of one sort:", seen)
	}
}

// checkJobRefused fails if a function does not return its fixed results: s or j is not valid.
func checkJobRefused(t *testing.T, what string, s impl.Store, j impl.Job) {
	t.Helper()
	if got, after, status, code := impl.JobStep(s, j); status != impl.JbFail || code != impl.ErForm || !sameStore(got, impl.Store{}) || !sameJob(after, impl.Job{}) {
		t.Errorf("%s: JobStep = %.200v, %.200v, %d, %d", what, got, after, status, code)
	}
	if got := impl.View(s, j); len(got) != 0 {
		t.Errorf("%s: View = %q", what, got)
	}
	if got, code := impl.Register(s, j); code != impl.ErForm || !sameStore(got, impl.Store{}) {
		t.Errorf("%s: Register = %.200v, %d", what, got, code)
	}
}

func TestJobsInInvalidStores(t *testing.T) {
	_, c := workplace()
	for what, s := range brokenStores() {
		checkJobRefused(t, what, s, jobOf(doing(writeOp(0, "a", "x")), nameOf(c[0])))
		checkJobRefused(t, what+", nothing to do", s, jobOf(doing(), nameOf(c[0])))
		checkJobRefused(t, what+", no argument", s, jobOf(doing(copyOp(0, "a", 0))))
		checkJobRefused(t, what+", something to wait for", s, jobOf(doing(buildOp("a", 0)), zeros))
		checkJobRefused(t, what+", and no job", s, impl.Job{})
	}
}

func TestInvalidJobs(t *testing.T) {
	s, _ := workplace()
	for what, j := range brokenJobs() {
		checkJobRefused(t, what, s, j)
		checkJobRefused(t, what+", in an empty store", impl.Store{}, j)
		checkJobRefused(t, what+", in a full store", fullStore(), j)
	}
}

func checkJobMemory(t *testing.T, what string, s impl.Store, j impl.Job) {
	t.Helper()
	checkCall(t, what+": JobStep", impl.JobStep, s, j)
	checkCall(t, what+": View", impl.View, s, j)
	checkCall(t, what+": Register", impl.Register, s, j)
}

func TestJobMemory(t *testing.T) {
	s, c := workplace()
	for i, o := range append(eachOp(), emitOp("$0"), writeOp(0, "w", "$0$1"), copyOp(0, "tree", 0), copyOp(0, "none", 9)) {
		j := holding(jobOf(doing(o), nameOf(c[1]), nameOf(c[2]), nameOf(c[3])), sample())
		for how, s := range map[string]impl.Store{"": s, ", in a full store": fullStore(), ", in no store": {Roots: texts(zeros)}} {
			checkJobMemory(t, "operation "+strconv.Itoa(i)+how, s, j)
			checkJobMemory(t, "behind operation "+strconv.Itoa(i)+how, s, finished(j))
		}
	}
	small := made(rooted(storeOf(c[:3]...), c[1]), c[2])
	for what, j := range validJobs() {
		checkJobMemory(t, what, small, j)
	}
	for what, change := range changesOfJobs() {
		checkJobMemory(t, what, small, changedJob(sampleJob(), change))
	}
}

// The store and the job may share memory with each other, but the results do not.
func TestJobsOfSharedMemory(t *testing.T) {
	s, c := workplace()
	for _, o := range []impl.Op{writeOp(0, "a", "$0"), copyOp(0, "a", 1), emitOp("$0"), emitOp("the end"), buildOp("a", 0), failOp()} {
		d := doing(o)
		text := drvText(d)
		all := storeOf(append(s.Objs, text)...)
		all.Roots = [][]byte{text.Name}
		j := jobOf(d)
		j.Name, j.Args, j.Outs[0] = text.Name, [][]byte{text.Name, c[1].Name, c[1].Name}, c[1].Tree
		for what, results := range map[string][]any{
			"JobStep":  list(impl.JobStep(all, j)),
			"JobNew":   list(impl.JobNew(all, text.Name)),
			"View":     list(impl.View(all, j)),
			"Register": list(impl.Register(all, finished(j))),
			"done":     list(impl.JobStep(all, finished(j))),
		} {
			var values []reflect.Value
			for _, r := range results {
				values = append(values, reflect.ValueOf(r))
			}
			checkApart(t, what+" of "+show(o), regionsOf(values), regionsOf([]reflect.Value{reflect.ValueOf(all), reflect.ValueOf(j)}))
		}
	}
}
