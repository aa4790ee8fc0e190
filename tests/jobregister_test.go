package tests

import (
	"math/rand"
	"slices"
	"strconv"
	"testing"

	"loop.example/g00538/impl"
)

// The tests of promise 6, as far as it speaks of outputs: they exist under
// OutName and refer only to objects in the view of the job.

// checkRegister registers the outputs of a completed job, and fails if anything
// but what the document names has changed.
func checkRegister(t *testing.T, what string, s impl.Store, j impl.Job) (impl.Store, int) {
	t.Helper()
	r := checkCall(t, what+": Register", impl.Register, s, j)
	got, code := r[0].(impl.Store), r[1].(int)
	want, wantCode := registered(s, j)
	if code != wantCode || !sameStore(got, want) {
		t.Fatalf("%s: Register(%v, %v) = %v, %d instead of %d", what, s, j, got, code, wantCode)
	}
	checkKept(t, what, s, got)
	if code != impl.ErWell && !sameStore(got, s) {
		t.Fatalf("%s: Register(%v, %v) = %v, %d", what, s, j, got, code)
	}
	if code == impl.ErWell {
		checkOutputs(t, what, s, got, j)
	}
	return got, code
}

// checkOutputs fails if an output of j is not in got, or refers to what is not in the view.
func checkOutputs(t *testing.T, what string, s, got impl.Store, j impl.Job) {
	t.Helper()
	view := impl.View(s, j)
	for i, out := range j.D.Outs {
		name, _ := impl.OutName(j.Name, out)
		o, ok := impl.Find(got, name)
		if path, made := impl.RealOf(got, j.Name, out); !ok || !made || string(path) != string(name) || o.Kind != impl.ObOut {
			t.Fatalf("%s: output %d is %v, %t, and is made as %q, %t", what, i, o, ok, path, made)
		}
		if _, exists := objOf(s, string(name)); exists {
			continue
		}
		if !same(o.Tree, j.Outs[i]) || !sameTexts(o.Refs, impl.Scan(impl.TreeData(j.Outs[i]), view)) {
			t.Fatalf("%s: output %d is %v", what, i, o)
		}
	}
	// Everything exists now, and there is nothing to be added.
	again, code := impl.Register(got, j)
	if len(got.Reals) < 24 && code != impl.ErWell || !sameStore(again, got) {
		t.Fatalf("%s: Register again = %v, %d", what, again, code)
	}
}

// checkFullStore fails if Register does not return the store and ErFull.
func checkFullStore(t *testing.T, what string, s impl.Store, j impl.Job) {
	t.Helper()
	if got, code := checkRegister(t, what, s, j); code != impl.ErFull || !sameStore(got, s) {
		t.Errorf("%s: Register = %v, %d", what, got, code)
	}
}

// checkRegistered fails if Register does not leave exactly these objects more, and all outputs of j made.
func checkRegistered(t *testing.T, what string, s impl.Store, j impl.Job, more ...impl.Obj) {
	t.Helper()
	got, code := checkRegister(t, what, s, j)
	if code != impl.ErWell || len(got.Objs) != len(s.Objs)+len(more) {
		t.Errorf("%s: Register = %v, %d", what, got, code)
	}
	for _, o := range more {
		if found, ok := impl.Find(got, o.Name); !ok || !sameObj(found, o) {
			t.Errorf("%s: the output is %v, %t", what, found, ok)
		}
	}
}

func one() impl.Drv { return doing(failOp()) }

func two() impl.Drv { return impl.Drv{Outs: words("dev out"), Ops: []impl.Op{failOp()}} }

// outsOf returns the outputs of two, with these files.
func outsOf(dev, out string) []impl.Obj {
	return []impl.Obj{outOf(nameOfDrv(two()), "dev", dir("n", file(dev))), outOf(nameOfDrv(two()), "out", dir("n", file(out)))}
}

// twoDone is a completed job for two.
func twoDone(args ...string) impl.Job {
	return finished(jobOf(two(), args...), dir("n", file("dev")), dir("n", file("out")))
}

func TestRegister(t *testing.T) {
	c, n := chain(4), numbered(2)
	s := rooted(storeOf(append(n, c...)...), n[0])
	text, tree, out, top, other := nameOf(c[0]), nameOf(c[1]), nameOf(c[2]), nameOf(c[3]), nameOf(n[0])
	for _, x := range []struct {
		what string
		args []string
		out  impl.Tree
		refs []string
	}{
		{"nothing", nil, dir(""), nil},
		{"no names", []string{out}, sample(), nil},
		{"an argument", []string{other}, dir("a", file("see "+other)), []string{other}},
		{"an argument, further down", []string{other}, dir("a b", file("x"), dir("c", dir("d", link(other)))), []string{other}},
		{"an argument in two files", []string{other}, dir("a b c", file("x"+other[:7]), dir(""), program(other[7:])), []string{other}},
		{"an argument twice", []string{other, other}, dir("a b", file(other), file(other)), []string{other}},
		{"what an argument refers to", []string{out}, dir("a", file(tree)), []string{tree}},
		{"all of the view", []string{out}, dir("a", file(text+tree+out)), []string{text, tree, out}},
		{"what refers to an argument", []string{out}, dir("a", file(top)), nil},
		{"names outside the view", []string{out}, dir("a", file(other+nameOf(n[1]))), nil},
		{"names inside and outside the view", []string{other, tree}, dir("a b", file(out+tree), link(other+top)), []string{other, tree}},
		{"names of objects, without Args", nil, dir("a", file(text+other)), nil},
		{"an argument that is not in the store", []string{absent()}, dir("a", file(absent())), nil},
		{"its own derivation", []string{other}, dir("a", file(nameOfDrv(one()))), nil},
		{"its own name", []string{other}, dir("a", file(nameOf(outOf(nameOfDrv(one()), "out", dir(""))))), nil},
		{"a part of a name", []string{other}, dir("a", file(other[1:])), nil},
	} {
		j := finished(jobOf(one(), x.args...), x.out)
		checkRegistered(t, x.what, s, j, outOf(nameOfDrv(one()), "out", x.out, x.refs...))
		j = finished(jobOf(two(), x.args...), x.out, dir("n", file("out")))
		checkRegistered(t, x.what+", the first of two", s, j, outOf(nameOfDrv(two()), "dev", x.out, x.refs...), outsOf("", "out")[1])
		j = finished(jobOf(two(), x.args...), dir("n", file("dev")), x.out)
		checkRegistered(t, x.what+", the second of two", s, j, outOf(nameOfDrv(two()), "out", x.out, x.refs...), outsOf("dev", "")[0])
	}
	// A derivation without operations is completed at once; it need not be in the store.
	checkRegistered(t, "no operations", impl.Store{}, jobOf(doing()), outOf(nameOfDrv(doing()), "out", dir("")))
}

// The view is that of the store that is given: the first output is not in the view of the second one.
func TestRegisterOutputsThatMentionEachOther(t *testing.T) {
	dev, out := nameOf(outsOf("", "")[0]), nameOf(outsOf("", "")[1])
	mention := func(name string) impl.Tree { return dir("n", file("see "+name)) }
	for _, args := range [][]string{nil, {dev}, {dev, out}, {out, dev}} {
		j := finished(jobOf(two(), args...), mention(out), mention(dev))
		checkRegistered(t, "both are new", impl.Store{}, j, outOf(nameOfDrv(two()), "dev", mention(out)), outOf(nameOfDrv(two()), "out", mention(dev)))
	}
	s := storeOf(outsOf("before", "")[0])
	j := finished(jobOf(two(), dev), mention(out), mention(dev))
	checkRegistered(t, "the first one is an argument", s, j, outOf(nameOfDrv(two()), "out", mention(dev), dev))
	j = finished(jobOf(two()), mention(out), mention(dev))
	checkRegistered(t, "the first one exists", s, j, outOf(nameOfDrv(two()), "out", mention(dev)))
	s = storeOf(outsOf("", "before")[1])
	j = finished(jobOf(two(), out), mention(out), mention(dev))
	checkRegistered(t, "the second one is an argument", s, j, outOf(nameOfDrv(two()), "dev", mention(out), out))
}

func TestRegisterWhatIsNotCompleted(t *testing.T) {
	s, c := workplace()
	for what, j := range validJobs() {
		for _, s := range []impl.Store{s, {}, fullStore()} {
			if got, code := impl.Register(s, j); j.Pc < len(j.D.Ops) && (code != impl.ErForm || !sameStore(got, impl.Store{})) {
				t.Errorf("%s: Register = %v, %d", what, got, code)
			}
		}
		checkRegister(t, what, s, finished(j))
	}
	for ops := range 9 {
		j := jobOf(doing(slices.Repeat([]impl.Op{writeOp(0, "a", "x")}, ops)...), nameOf(c[0]))
		for pc := range ops + 1 {
			j.Pc = pc
			if _, code := impl.Register(s, j); (code == impl.ErWell) != (pc == ops) || (code == impl.ErForm) != (pc < ops) {
				t.Errorf("Register at Pc %d of %d: %d", pc, ops, code)
			}
		}
	}
}

// What exists stays as it is, also its tree, whatever the job has made.
func TestRegisterWhatExists(t *testing.T) {
	c := chain(4)
	before := outOf(nameOfDrv(two()), "dev", dir("n", file("before "+nameOf(c[1]))), nameOf(c[1]))
	other := outOf(nameOfDrv(two()), "out", program("before"))
	j := finished(jobOf(two(), nameOf(c[2])), dir("n", file(nameOf(c[0]))), dir("n", file(nameOf(c[2]))))
	out := outOf(nameOfDrv(two()), "out", j.Outs[1], nameOf(c[2]))
	for what, s := range map[string]impl.Store{
		"not made":                made(storeOf(append(c, before)...), c[2]),
		"made":                    made(storeOf(append(c, before)...), before),
		"made, and a root":        made(rooted(storeOf(append(c, before)...), before, c[3]), c[2], before),
		"made, and an argument":   made(storeOf(append(c, before, textOf(nameOf(before), nameOf(before)))...), before),
		"not made, and mentioned": storeOf(append(c, before, textOf(nameOf(before)))...),
	} {
		checkRegistered(t, "the first one exists, "+what, s, j, out)
	}
	all := storeOf(append(c, before, other)...)
	for what, s := range map[string]impl.Store{
		"neither is made": all, "the first one is made": made(all, before), "the second one is made": made(all, other), "both are made": made(all, before, other, c[2]),
	} {
		checkRegistered(t, "both exist, "+what, s, j)
	}
	s := made(all, before, other, c[2])
	if got, code := impl.Register(s, j); code != impl.ErWell || !sameStore(got, s) {
		t.Errorf("where everything exists, Register = %v, %d", got, code)
	}
	if o, _ := impl.Find(s, other.Name); !same(o.Tree, program("before")) {
		t.Errorf("the output is %v", o)
	}
}

// The limits: of n outputs of other derivations some are made; of the outputs of
// the job, some exist, and some of these are made.
func TestRegisterAtLimits(t *testing.T) {
	outs := outsOf("before", "before")
	seen := map[int]int{}
	for n := 19; n <= 24; n++ {
		for exist := range 4 {
			for are := range 4 {
				objs, reals := outputs(n), outputs(n)
				for i, o := range outs {
					if exist>>i&1 > 0 {
						objs = append(objs, o)
					}
					if are>>i&1 > 0 {
						reals = append(reals, o)
					}
				}
				if exist&are != are || len(objs) > 24 {
					continue
				}
				for fewer := range min(n, 4) {
					what := strconv.Itoa(len(objs)) + " objects, " + strconv.Itoa(len(reals)-fewer) + " realisations"
					_, code := checkRegister(t, what, made(storeOf(objs...), reals[fewer:]...), twoDone())
					seen[code]++
				}
			}
		}
	}
	if seen[impl.ErWell] < 20 || seen[impl.ErFull] < 20 {
		t.Error("too few of one sort:", seen)
	}
}

func TestRegisterWithoutRoomForObjects(t *testing.T) {
	outs, l := outsOf("dev", "out"), numbered(24)
	checkRegistered(t, "22 objects", storeOf(l[:22]...), twoDone(), outs...)
	checkFullStore(t, "23 objects: the second one has no room", storeOf(l[:23]...), twoDone())
	checkFullStore(t, "24 objects", storeOf(l...), twoDone())
	checkFullStore(t, "24 objects, the first one exists", storeOf(append(outs[:1:1], l[:23]...)...), twoDone())
	checkFullStore(t, "24 objects, the second one exists", storeOf(append(outs[1:2:2], l[:23]...)...), twoDone())
	checkRegistered(t, "23 objects, the first one exists", storeOf(append(outs[:1:1], l[:22]...)...), twoDone(), outs[1])
	checkRegistered(t, "24 objects, both exist", storeOf(append(outs, l[:22]...)...), twoDone())
	checkFullStore(t, "24 objects, one output", storeOf(l...), finished(jobOf(one())))
	checkRegistered(t, "23 objects, one output", storeOf(l[:23]...), finished(jobOf(one())), outOf(nameOfDrv(one()), "out", dir("")))
}

// Where there are MaxObjs Reals, none is replaced either.
func TestRegisterWithoutRoomForReals(t *testing.T) {
	outs, others := outsOf("dev", "out"), outputs(24)
	with := func(n int, reals ...impl.Obj) impl.Store {
		return made(storeOf(append(others[:n:n], outs...)...), append(reals, others[:n]...)...)
	}
	checkRegistered(t, "22 realisations", with(22), twoDone())
	checkRegistered(t, "23, the first one is made", with(22, outs[0]), twoDone())
	checkFullStore(t, "23, the second one is made: it has no room behind the first one", with(22, outs[1]), twoDone())
	checkFullStore(t, "24, both are made", with(22, outs...), twoDone())
	checkRegistered(t, "23, both are made", with(21, outs...), twoDone())
	checkFullStore(t, "24, and the objects are new", made(storeOf(others...), others...), twoDone())

	alone := outOf(nameOfDrv(one()), "out", dir(""))
	j := finished(jobOf(one()))
	checkFullStore(t, "24, the only one is made", made(storeOf(append(others[:23:23], alone)...), append(others[:23:23], alone)...), j)
	checkRegistered(t, "23, the only one exists", made(storeOf(append(others[:23:23], alone)...), others[:23]...), j)
	checkRegistered(t, "23, the only one is made", made(storeOf(append(others[:22:22], alone)...), append(others[:22:22], alone)...), j)
}

// The realisations stay ascending, wherever the new ones belong.
func TestRegisterKeepsTheOrder(t *testing.T) {
	before := outputs(8)
	places := map[int]int{}
	for i := range 60 {
		for _, outs := range []string{"a", "a zz", "dev out", "out z"} {
			d := impl.Drv{Outs: words(outs), Ops: []impl.Op{emitOp(strconv.Itoa(i))}}
			own := []impl.Obj{outOf(nameOfDrv(d), "b", dir("")), outOf(nameOfDrv(d), "zzz", file("x"))}
			s := made(storeOf(append(before, own...)...), append(before, own...)...)
			got, code := checkRegister(t, outs, s, finished(jobOf(d)))
			if code != impl.ErWell || len(got.Reals) != 10+len(d.Outs) || !slices.IsSortedFunc(got.Reals, byOutput) {
				t.Errorf("Register = %v, %d", got.Reals, code)
			}
			places[slices.IndexFunc(got.Reals, func(r impl.Real) bool { return string(r.Drv) == nameOfDrv(d) })]++
		}
	}
	if len(places) < 4 {
		t.Error("the new ones belong to the same place:", places)
	}
}

func TestRegisterOfRandomJobs(t *testing.T) {
	random := rand.New(rand.NewSource(66))
	seen := map[int]int{}
	for range 400 {
		s := randomStore(random)
		j := finished(randomJob(random, s))
		if o := outOf(string(j.Name), string(j.D.Outs[0]), sample()); random.Intn(4) == 0 && len(s.Objs) < 24 {
			s = made(storeOf(append(slices.Clone(s.Objs), o)...), o)
		}
		_, code := checkRegister(t, "at random", s, j)
		seen[code]++
	}
	if seen[impl.ErWell] < 200 || seen[impl.ErFull] < 10 {
		t.Error("too few of one sort:", seen)
	}
}
