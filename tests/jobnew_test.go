package tests

import (
	"math/rand"
	"slices"
	"strings"
	"testing"

	"loop.example/g00538/impl"
)

// The tests of promise 6, as far as it speaks of the beginning of a job and of its view.

func checkNew(t *testing.T, what string, s impl.Store, name string, want impl.Job, wantCode int) {
	t.Helper()
	r := checkCall(t, what+": JobNew", impl.JobNew, s, []byte(name))
	if got, code := r[0].(impl.Job), r[1].(int); code != wantCode || !sameJob(got, want) {
		t.Errorf("%s: JobNew(%q) = %v, %d", what, name, got, code)
	}
}

// checkNoJob fails if JobNew does not return that error code.
func checkNoJob(t *testing.T, what string, s impl.Store, name string, code int) {
	t.Helper()
	checkNew(t, what, s, name, impl.Job{}, code)
}

// someObjs makes objects whose names are usable as Srcs, ascending.
func someObjs(n int) []impl.Obj { return storeOf(numbered(n)...).Objs }

func TestJobNew(t *testing.T) {
	l := someObjs(4)
	for n := range 4 {
		for _, outs := range []string{"out", "dev out"} {
			d := impl.Drv{Srcs: namesOf(l[:n]...), Outs: words(outs), Ops: eachOp()}
			s := storeOf(append(l, drvText(d))...)
			checkNew(t, "a derivation", s, nameOfDrv(d), jobOf(d, strs(d.Srcs)...), impl.ErWell)
			checkNew(t, "with roots", rooted(s, l[3], drvText(d)), nameOfDrv(d), jobOf(d, strs(d.Srcs)...), impl.ErWell)
			j, _ := impl.JobNew(s, []byte(nameOfDrv(d)))
			if !impl.JobOk(j) || j.Pc != 0 || len(j.Args) != n || len(j.Outs) != len(d.Outs) {
				t.Errorf("JobNew = %v", j)
			}
		}
	}
	// Its own outputs may exist, and be made.
	d := doing(failOp())
	out := outOf(nameOfDrv(d), "out", dir("a", file("x")))
	checkNew(t, "what is made", made(storeOf(drvText(d), out), out), nameOfDrv(d), jobOf(d), impl.ErWell)
}

// Whatever a derivation is, only its Srcs must be there; the Drv of its Ins need not.
func TestJobNewOfEveryDerivation(t *testing.T) {
	for what, d := range validDrvs() {
		// The names of Srcs here are of no objects.
		code, want := impl.ErNone, impl.Job{}
		if len(d.Srcs) == 0 {
			code, want = impl.ErWell, jobOf(d)
		}
		checkNew(t, what, storeOf(append(numbered(2), drvText(d))...), nameOfDrv(d), want, code)
		checkNoJob(t, what+", not there", storeOf(numbered(2)...), nameOfDrv(d), impl.ErNone)
	}
}

// An Src may be an object of any Kind, also the derivation of another job.
func TestJobNewOfSrcsOfAllKinds(t *testing.T) {
	_, c := workplace()
	other := drvText(doing(failOp()))
	for _, o := range append(c, other) {
		d := impl.Drv{Srcs: namesOf(o), Outs: words("out")}
		checkNew(t, "an object of any Kind", storeOf(append(c, other, drvText(d, nameOf(o)))...), nameOfDrv(d), jobOf(d, nameOf(o)), impl.ErWell)
	}
	d := impl.Drv{Srcs: namesOf(c[1:]...), Outs: words("out")}
	checkNew(t, "three of them", storeOf(append(c, drvText(d))...), nameOfDrv(d), jobOf(d, strs(namesOf(c[1:]...))...), impl.ErWell)
}

func TestJobNewWithoutSrcs(t *testing.T) {
	l := someObjs(3)
	d := impl.Drv{Srcs: namesOf(l...), Outs: words("out")}
	for which, there := range map[string][]impl.Obj{
		"the first": l[1:], "the last": l[:2], "the second": {l[0], l[2]}, "the first two": l[2:], "the last two": l[:1], "all": nil,
	} {
		checkNoJob(t, which+" of Srcs is missing", storeOf(append(slices.Clone(there), drvText(d), textOf("other"))...), nameOfDrv(d), impl.ErNone)
	}
	alone := impl.Drv{Srcs: namesOf(l[0]), Outs: words("out")}
	checkNoJob(t, "the only one of Srcs is missing", storeOf(drvText(alone), l[1]), nameOfDrv(alone), impl.ErNone)
	// That an output of a derivation exists makes no object of the derivation.
	outs := outputs(2)
	user := impl.Drv{Srcs: texts(drvName(0)), Outs: words("out")}
	checkNoJob(t, "a derivation that is made as one of Srcs", made(storeOf(append(outs, drvText(user))...), outs...), nameOfDrv(user), impl.ErNone)
}

func TestJobNewOfNoObject(t *testing.T) {
	d := doing(failOp())
	s, _ := workplace()
	s = made(rooted(storeOf(append(s.Objs, drvText(d))...)), outputs(1)...)
	for what, s := range map[string]impl.Store{"no objects": {}, "some": s, "full": fullStore()} {
		for _, name := range append(slices.Clone(noNames), absent(), drvName(0), drvName(1), zeros, nameOfDrv(d)[:15], nameOfDrv(d)+"0", string(encodeDrv(d)), nameOfDrv(doing())) {
			checkNoJob(t, what, s, name, impl.ErNone)
		}
	}
}

// An object of any Kind that is no text of a derivation.
func TestJobNewOfOtherObjects(t *testing.T) {
	s, _ := workplace()
	for what, s := range map[string]impl.Store{"the workplace": s, "full": fullStore(), "other texts": storeOf(textOf(""), textOf("D"))} {
		for _, o := range s.Objs {
			checkNoJob(t, what, s, nameOf(o), impl.ErMalformed)
		}
	}
	d := impl.Drv{Srcs: someNames(1), Outs: words("out")}
	for what, d := range map[string]impl.Drv{"a derivation": doing(failOp()), "one whose Srcs are missing": d} {
		code := string(encodeDrv(d))
		for _, tree := range []impl.Tree{file(code), program(code), link(code), dir("a", file(code)), dir("a b", file(code[:3]), file(code[3:])), dir("a", dir("b", file(code)))} {
			for _, o := range []impl.Obj{treeOf(tree), outOf(drvName(0), "out", tree), outOf(nameOfDrv(d), "out", tree)} {
				checkNoJob(t, what+" that is no text", storeOf(o), nameOf(o), impl.ErMalformed)
				checkNoJob(t, what+" that is no text, beside one", storeOf(o, drvText(d)), nameOf(o), impl.ErMalformed)
			}
		}
	}
}

// checkMalformed fails if JobNew takes a text that is no encoding.
func checkMalformed(t *testing.T, what, text string) {
	t.Helper()
	checkNoJob(t, what, storeOf(textOf(text), textOf("other")), nameOf(textOf(text)), impl.ErMalformed)
}

func TestJobNewOfAlmostAnEncoding(t *testing.T) {
	for what, d := range map[string]impl.Drv{"the smallest": doing(), "an operation": doing(writeOp(0, "a", "x")), "the sample": sampleDrv()} {
		code := string(encodeDrv(d))
		for n := range code {
			checkMalformed(t, what+", cut short", code[:n])
		}
		for _, s := range []string{"\x00", "x", "D", code} {
			checkMalformed(t, what+", and more behind it", code+s)
			checkMalformed(t, what+", and more before it", s+code)
		}
		checkMalformed(t, what+", another letter", "E"+code[1:])
		for i := range code {
			for _, c := range []byte{0, 1, code[i] ^ 128, code[i] + 1, 255} {
				text := code[:i] + string([]byte{c}) + code[i+1:]
				if _, ok := impl.DrvRead([]byte(text)); !ok {
					checkMalformed(t, what+", one byte changed", text)
				}
			}
		}
	}
	malformed := 0
	for what, d := range brokenDrvs() {
		code := encodeDrv(d)
		if _, ok := impl.DrvRead(code); !ok && len(code) <= 400 {
			malformed++
			checkMalformed(t, what, string(code))
		}
	}
	if malformed < 300 {
		t.Error("only", malformed, "broken derivations are malformed")
	}
}

// Of several conditions, the first one decides.
func TestJobNewOfSeveralConditions(t *testing.T) {
	missing := impl.Drv{Srcs: someNames(1), Outs: words("out")}
	twice := encodeDrv(impl.Drv{Srcs: slices.Repeat(someNames(1), 2), Outs: words("out")})
	for what, text := range map[string]string{"a good one": string(encodeDrv(doing())), "Srcs are missing": string(encodeDrv(missing)), "malformed": "D", "malformed, and Srcs are missing": string(twice)} {
		for how, o := range map[string]impl.Obj{"text": textOf(text), "tree": treeOf(file(text)), "output": outOf(drvName(0), "out", file(text))} {
			s := storeOf(o, textOf("other"))
			if malformed := text == "D" || text == string(twice) || how != "text"; malformed {
				checkNoJob(t, what+", "+how, s, nameOf(o), impl.ErMalformed)
			}
			s.Roots = texts(absent())
			checkNoJob(t, what+", "+how+", in a store that is not valid", s, nameOf(o), impl.ErForm)
			s = storeOf(append(numbered(24), o)...)
			checkNoJob(t, what+", "+how+", in a store of 25 objects", s, nameOf(o), impl.ErForm)
		}
	}
	for what, s := range brokenStores() {
		for _, name := range []string{"", absent(), nameOf(textOf("a")), noNames[1]} {
			if got, code := impl.JobNew(s, []byte(name)); code != impl.ErForm || !sameJob(got, impl.Job{}) {
				t.Errorf("%s: JobNew(%q) = %v, %d", what, name, got, code)
			}
		}
		for _, o := range s.Objs[:min(len(s.Objs), 30)] {
			if got, code := impl.JobNew(s, o.Name); code != impl.ErForm || !sameJob(got, impl.Job{}) {
				t.Errorf("%s: JobNew(%q) = %v, %d", what, o.Name, got, code)
			}
		}
	}
}

func checkView(t *testing.T, what string, s impl.Store, j impl.Job, want [][]byte) {
	t.Helper()
	got := checkCall(t, what+": View", impl.View, s, j)[0].([][]byte)
	if !sameTexts(got, want) || !impl.Sorted(got) {
		t.Errorf("%s: View = %q", what, got)
	}
}

func TestView(t *testing.T) {
	c, d, n := chain(6), diamond(), numbered(2)
	s := storeOf(slices.Concat(c, d, n)...)
	for _, x := range []struct {
		what string
		args []string
		want []impl.Obj
	}{
		{"no Args", nil, nil},
		{"a text", []string{nameOf(n[0])}, n[:1]},
		{"two texts", []string{nameOf(n[0]), nameOf(n[1])}, n},
		{"the same Arg twice", []string{nameOf(n[1]), nameOf(n[1])}, n[1:]},
		{"the same Arg twice, with others", []string{nameOf(c[1]), nameOf(n[0]), nameOf(c[1])}, []impl.Obj{c[0], c[1], n[0]}},
		{"an Arg that refers to another one", []string{nameOf(c[2]), nameOf(c[1])}, c[:3]},
		{"an Arg that refers to others indirectly", []string{nameOf(c[5])}, c},
		{"one that refers to others in two ways", []string{nameOf(d[3])}, d},
		{"two that refer to the same one", []string{nameOf(d[2]), nameOf(d[1])}, d[:3]},
		{"an Arg that is not there", []string{absent()}, nil},
		{"Args that are not there", []string{absent(), zeros, drvName(0), absent()}, nil},
		{"Args of which one is there", []string{absent(), nameOf(c[1]), zeros}, c[:2]},
		{"ten Args", []string{zeros, nameOf(c[3]), steep, nameOf(n[1]), nameOf(d[0]), nameOf(d[1]), absent(), nameOf(c[0]), nameOf(n[1]), nameOf(c[3])}, []impl.Obj{c[0], c[1], c[2], c[3], d[0], d[1], n[1]}},
		{"what was built from a derivation", []string{string(c[2].From)}, nil},
	} {
		checkView(t, x.what, s, jobOf(doing(), x.args...), namesOf(x.want...))
		checkView(t, x.what+", with outputs", s, finished(jobOf(sampleDrv(), x.args...), dir("a", file(nameOf(n[0]))), sample()), namesOf(x.want...))
		checkView(t, x.what+", with roots", made(rooted(s, n[1], c[4]), c[2], c[5]), jobOf(doing(), x.args...), namesOf(x.want...))
	}
	// What an Arg mentions, but does not refer to, is not in the view; neither are Srcs that are no Args.
	mention := textOf("see " + nameOf(n[0]))
	checkView(t, "a mention", storeOf(n[0], mention), jobOf(doing(), nameOf(mention)), namesOf(mention))
	checkView(t, "Srcs", s, jobOf(impl.Drv{Srcs: namesOf(n...), Outs: words("out")}), nil)
	checkView(t, "an empty store", impl.Store{}, jobOf(doing(), nameOf(n[0])), nil)
}

func TestViewOfRandomJobs(t *testing.T) {
	random := rand.New(rand.NewSource(62))
	names := 0
	for range 500 {
		s := randomStore(random)
		j := randomJob(random, s)
		want := texts(viewOf(s, j)...)
		checkView(t, "at random", s, j, want)
		names += len(want)
	}
	if names < 2000 {
		t.Fatal("too few names:", names)
	}
}

func TestJobNewOfRandomTexts(t *testing.T) {
	random := rand.New(rand.NewSource(63))
	seen := map[int]int{}
	for range 400 {
		s := randomStore(random)
		if len(s.Objs) == 0 || len(s.Objs) == 24 {
			continue
		}
		args := sorted(randomArgs(random, s, 3))
		d := randomTask(random, texts(args...))
		text := encodeDrv(d)
		code, want := impl.ErWell, jobOf(d, args...)
		for _, name := range args {
			if _, there := objOf(s, name); !there {
				code, want = impl.ErNone, impl.Job{}
			}
		}
		if random.Intn(3) == 0 {
			text = append(text, 'x')
			code, want = impl.ErMalformed, impl.Job{}
		}
		o := textOf(string(text))
		checkNew(t, "at random", storeOf(append(slices.Clone(s.Objs), o)...), nameOf(o), want, code)
		checkNoJob(t, "at random, not there", s, nameOf(o), impl.ErNone)
		seen[code]++
	}
	if seen[impl.ErWell] < 100 || seen[impl.ErNone] < 30 || seen[impl.ErMalformed] < 50 {
		t.Fatal("too few of one sort:", seen)
	}
}

// Elements behind the length of a list are none of the job.
func TestJobsStayWithinLength(t *testing.T) {
	s, c := workplace()
	all := jobOf(doing(slices.Repeat([]impl.Op{failOp()}, 3)...), nameOf(c[3]), nameOf(c[0]), strings.Repeat("0", 15))
	j := all
	j.Args, j.D.Ops, j.Name = all.Args[:2], all.D.Ops[:2], []byte(nameOfDrv(doing(failOp(), failOp())))
	if !impl.JobOk(j) || impl.JobOk(all) {
		t.Error("what is behind the length counts")
	}
	checkView(t, "fewer Args", s, changedJob(j, func(j *impl.Job) { j.Args = j.Args[1:] }), namesOf(c[0]))
	if _, _, status, _ := impl.JobStep(s, finished(j)); status != impl.JbDone {
		t.Error("an operation behind the length is executed")
	}
}
