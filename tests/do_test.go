package tests

import (
	"math"
	"math/rand"
	"slices"
	"strconv"
	"strings"
	"testing"

	"loop.example/g00538/impl"
)

// The tests of promise 13 for single commands: each is executed on the head,
// what it leaves is committed, and survives a crash.

// checkDo executes a valid command on a valid journal, and fails if Do does not
// return what the document says, or if what it committed does not survive.
func checkDo(t *testing.T, what string, j impl.Journal, c impl.Cmd) (impl.Journal, impl.Told) {
	t.Helper()
	r := checkCall(t, what+": Do", impl.Do, j, c)
	got, told := r[0].(impl.Journal), r[1].(impl.Told)
	at := standOf(j)
	checkDone(t, what, at, c, done(at, c), got, told)
	return got, told
}

// checkDone fails if the command did not lead from one stand to the other.
func checkDone(t *testing.T, what string, at stand, c impl.Cmd, want stand, got impl.Journal, told impl.Told) {
	t.Helper()
	if !sameTold(told, want.told) || !sameJournal(got, want.journal) {
		t.Fatalf("%s: Do(%v, %v) = %v, %v instead of %v, %v", what, at.journal, c, got, told, want.journal, want.told)
	}
	head, ok := impl.Head(got)
	if !impl.JournalOk(got) || !ok || !sameStore(head, want.head) || impl.StoreCmp(head, want.head) != 0 {
		t.Fatalf("%s: Do(%v, %v) = %v, whose head is %v, %t", what, at.journal, c, got, head, ok)
	}
	n := min(len(got.Regs), len(at.journal.Regs))
	if !sameStore(got.Base, at.journal.Base) || !sameRegs(got.Regs[:n], at.journal.Regs[:n]) || n < at.journal.Safe {
		t.Fatalf("%s: Do(%v, %v) = %v, which does not go on from there", what, at.journal, c, got)
	}
	if c.Kind != impl.CmCrash && (want.kept || told.Code != impl.ErFull) {
		checkSurvives(t, what, got, want.head)
		checkReplied(t, what, got, at.head, c, told)
	}
}

// checkSurvives fails if a crash that keeps nothing loses anything of the head.
func checkSurvives(t *testing.T, what string, j impl.Journal, head impl.Store) {
	t.Helper()
	left, told := impl.Do(j, crashCmd(0))
	s, ok := impl.Head(left)
	if !ok || !sameStore(s, head) || !sameTold(told, impl.Told{}) || !sameJournal(left, j) || impl.Loose(j) != 0 {
		t.Fatalf("%s: a crash leaves %v of %v, and the head is %v instead of %v", what, left, j, s, head)
	}
	for _, o := range head.Objs {
		if found, ok := impl.Find(s, o.Name); !ok || !sameObj(found, o) {
			t.Fatalf("%s: a crash leaves %v, %t of %v", what, found, ok, o)
		}
	}
	for _, name := range head.Roots {
		if !impl.IsRoot(s, name) {
			t.Fatalf("%s: a crash removes the root %q", what, name)
		}
	}
	for _, r := range head.Reals {
		if path, ok := impl.RealOf(s, r.Drv, r.Out); !ok || string(path) != string(r.Path) {
			t.Fatalf("%s: a crash leaves %q, %t of %v", what, path, ok, r)
		}
	}
}

// checkReplied fails if, after a crash, the head does not have what the reply of a committed command tells.
func checkReplied(t *testing.T, what string, j impl.Journal, before impl.Store, c impl.Cmd, told impl.Told) {
	t.Helper()
	left, _ := impl.Crash(j, 0)
	s, _ := impl.Head(left)
	o, exists := impl.Find(s, told.Name)
	if exists != (len(told.Name) > 0) || told.Code != 0 && exists {
		t.Fatalf("%s: %v replies %v, and there is %v", what, c, told, o)
	}
	if c.Kind == impl.CmText || c.Kind == impl.CmTree || c.Kind == impl.CmBuild || told.Code != 0 {
		checkKept(t, what, before, s)
	}
	if told.Code != 0 {
		return
	}
	ok := true
	switch c.Kind {
	case impl.CmText:
		ok = o.Kind == impl.ObText && same(o.Tree, file(string(c.Text)))
	case impl.CmTree:
		ok = o.Kind == impl.ObTree && same(o.Tree, c.Tree)
	case impl.CmBuild:
		path, made := impl.RealOf(s, c.Name, c.Out)
		ok = o.Kind == impl.ObOut && made && string(path) == string(told.Name)
	case impl.CmRoot, impl.CmUnroot:
		ok = impl.IsRoot(s, c.Name) == (c.Kind == impl.CmRoot)
	case impl.CmGc:
		again, gone := impl.Gc(s)
		ok = len(gone) == 0 && sameStore(again, s) && sameTexts(s.Roots, before.Roots)
	case impl.CmLook:
		ok = string(told.Name) == string(c.Name) && sameStore(s, before)
	}
	if !ok {
		t.Fatalf("%s: %v replies %v, and then the head is %v", what, c, told, s)
	}
}

// checkReply executes a command on each of the journals with that head, and
// fails if the reply and the head are not these.
func checkReply(t *testing.T, what string, s impl.Store, c impl.Cmd, code int, name string, want impl.Store) {
	t.Helper()
	for which, j := range inOrder(journalsAt(s)) {
		got, told := checkDo(t, what+", "+which, j, c)
		head, ok := impl.Head(got)
		if told.Code != code || string(told.Name) != name || !ok || !sameStore(head, want) {
			t.Errorf("%s, %s: Do = %v, and the head is %v, %t", what, which, told, head, ok)
		}
	}
}

// checkUnchanged is checkReply for a command that changes nothing: no record is added, but all are safe.
func checkUnchanged(t *testing.T, what string, s impl.Store, c impl.Cmd, code int, name string) {
	t.Helper()
	for which, j := range inOrder(journalsAt(s)) {
		got, told := checkDo(t, what+", "+which, j, c)
		if told.Code != code || string(told.Name) != name || !sameJournal(got, safe(j, len(j.Regs))) {
			t.Errorf("%s, %s: Do(%v) = %v, %v", what, which, j, got, told)
		}
	}
}

// shelf is a store with roots and realisations that need some of its objects, and with others.
func shelf() impl.Store {
	c, outs := chain(6), outputs(3)
	return made(rooted(storeOf(slices.Concat(c, outs, numbered(3))...), c[3], outs[1]), c[2], c[5], outs[0], outs[1])
}

func TestDoText(t *testing.T) {
	s := shelf()
	low, top := s.Objs[0], s.Objs[len(s.Objs)-1]
	for _, o := range []impl.Obj{
		textOf("new"), textOf(""), textOf(strings.Repeat("x", 400)), textOf("\x00\xff\n"), textOf(absent()),
		textOf("see "+nameOf(low), nameOf(low)), textOf(nameOf(top)+nameOf(low), nameOf(low), nameOf(top)),
		textOf(strings.Repeat("x", 368)+nameOf(top)+nameOf(low), nameOf(low), nameOf(top)),
		drvText(pair()),
	} {
		c := textCmd(string(o.Tree.Data))
		checkReply(t, "a new text", s, c, impl.StWell, nameOf(o), with(s, o))
		checkUnchanged(t, "a text that exists", with(s, o), c, impl.StWell, nameOf(o))
	}
	for _, o := range s.Objs {
		if o.Kind == impl.ObText {
			checkUnchanged(t, "a text that exists", s, textCmd(string(o.Tree.Data)), impl.StWell, nameOf(o))
		}
	}
	full := storeOf(numbered(24)...)
	checkUnchanged(t, "24 objects", full, textCmd("new"), impl.StFull, "")
	checkUnchanged(t, "one of 24 objects", full, textCmd("text 7"), impl.StWell, nameOf(numbered(8)[7]))
	checkReply(t, "23 objects", storeOf(numbered(23)...), textCmd("new"), impl.StWell, nameOf(textOf("new")), storeOf(append(numbered(23), textOf("new"))...))
	checkUnchanged(t, "a full store with roots", fullStore(), textCmd("new"), impl.StFull, "")
}

func TestDoTree(t *testing.T) {
	s := shelf()
	low, top := s.Objs[0], s.Objs[len(s.Objs)-1]
	for _, o := range []impl.Obj{
		treeOf(file("new")), treeOf(impl.Tree{}), treeOf(sample()), treeOf(dir("")), treeOf(crowd(40)), treeOf(validTrees()["largest"]),
		treeOf(dir("a b", link(nameOf(low)), program(nameOf(top))), nameOf(low), nameOf(top)),
		treeOf(dir("a b", file(nameOf(low)[:5]), dir("c", file(nameOf(low)[5:]))), nameOf(low)),
	} {
		checkReply(t, "a new tree", s, treeCmd(o.Tree), impl.StWell, nameOf(o), with(s, o))
		checkUnchanged(t, "a tree that exists", with(s, o), treeCmd(o.Tree), impl.StWell, nameOf(o))
	}
	// A tree that is a file is not the text with its data.
	checkReply(t, "a text as a tree", storeOf(textOf("a")), treeCmd(file("a")), impl.StWell, nameOf(treeOf(file("a"))), storeOf(textOf("a"), treeOf(file("a"))))
	checkReply(t, "a tree as a text", storeOf(treeOf(file("a"))), textCmd("a"), impl.StWell, nameOf(textOf("a")), storeOf(textOf("a"), treeOf(file("a"))))
	full := storeOf(append(numbered(23), treeOf(sample()))...)
	checkUnchanged(t, "24 objects", full, treeCmd(file("new")), impl.StFull, "")
	checkUnchanged(t, "one of 24 objects", full, treeCmd(sample()), impl.StWell, nameOf(treeOf(sample())))
	checkReply(t, "23 objects", storeOf(numbered(23)...), treeCmd(sample()), impl.StWell, nameOf(treeOf(sample())), full)
}

// What exists remains as it is, also if it would now get other references.
func TestDoDoesNotChangeObjects(t *testing.T) {
	a := textOf("a")
	for _, o := range []impl.Obj{textOf("see " + nameOf(a)), treeOf(link(nameOf(a)))} {
		c := textCmd(string(o.Tree.Data))
		if o.Kind == impl.ObTree {
			c = treeCmd(o.Tree)
		}
		checkUnchanged(t, "a mention", storeOf(a, o), c, impl.StWell, nameOf(o))
	}
}

func TestDoBuild(t *testing.T) {
	random := rand.New(rand.NewSource(102))
	codes := map[int]int{}
	for what, b := range inOrder(builds()) {
		for n, picks := range [][]int{nil, {0, 1, 2, 0, 1, 2, 0, 1, 2}, {math.MaxInt, math.MinInt, -1, -2, 1 << 62, 5, -7}, somePicks(random)} {
			end, path, code := realised(b.store, b.top, "out", picks)
			which := what + ", picks " + strconv.Itoa(n)
			codes[code]++
			for kind, j := range inOrder(journalsAt(b.store)) {
				if n > 0 && !strings.Contains(kind, "some") {
					continue
				}
				got, told := checkDo(t, which+", "+kind, j, buildCmd(b.top, "out", picks...))
				if told.Code != code || string(told.Name) != path || !b.free && code != b.code {
					t.Errorf("%s, %s: Do = %v", which, kind, told)
				}
				if head, _ := impl.Head(got); !sameStore(head, end.Store) {
					t.Errorf("%s, %s: the head is %v", which, kind, head)
				}
			}
			if code == impl.ErWell {
				checkUnchanged(t, which+", again", end.Store, buildCmd(b.top, "out", picks...), impl.ErWell, path)
			}
		}
	}
	for _, code := range []int{impl.ErWell, impl.ErMalformed, impl.ErArg, impl.ErFail, impl.ErDep, impl.ErFull, impl.ErNone} {
		if codes[code] == 0 {
			t.Errorf("no build has the code %d: %v", code, codes)
		}
	}
}

func TestDoBuildOfOtherOutputs(t *testing.T) {
	d := pair()
	s := stocked(storeOf(textOf("a")), d)
	all, _ := registered(s, finished(jobOf(d), dir("h", file("dev")), dir("b", file("out"))))
	for _, out := range words("dev out") {
		o := outOf(nameOfDrv(d), string(out), dir(""))
		checkReply(t, "one of two outputs", s, buildCmd(nameOfDrv(d), string(out)), impl.ErWell, nameOf(o), all)
		checkUnchanged(t, "one of two outputs, again", all, buildCmd(nameOfDrv(d), string(out), 5), impl.ErWell, nameOf(o))
	}
	for _, out := range words("a lib ou outs de devs -") {
		checkReply(t, "no such output", s, buildCmd(nameOfDrv(d), string(out)), impl.ErArg, "", all)
		checkUnchanged(t, "no such output, again", all, buildCmd(nameOfDrv(d), string(out)), impl.ErArg, "")
	}
	checkUnchanged(t, "no such object", s, buildCmd(absent(), "out"), impl.ErNone, "")
	checkUnchanged(t, "no such object in an empty store", impl.Store{}, buildCmd(absent(), "out"), impl.ErNone, "")
	checkUnchanged(t, "no derivation", s, buildCmd(nameOf(textOf("a")), "out"), impl.ErMalformed, "")
	for _, o := range shelf().Objs {
		checkUnchanged(t, "no derivation", shelf(), buildCmd(nameOf(o), "out"), impl.ErMalformed, "")
	}
	picks := slices.Repeat([]int{-1, 1 << 62, 3}, 334)[:1000]
	checkReply(t, "1000 picks", s, buildCmd(nameOfDrv(d), "out", picks...), impl.ErWell, nameOf(outOf(nameOfDrv(d), "out", dir(""))), all)
}

// The picks of the command decide which goal acts: what the text of the race refers to tells it.
func TestDoBuildWithPicks(t *testing.T) {
	s, top, refs := race()
	text := nameFor('t', string(bytesOf(someObjs(3))))
	for _, p := range []int{0, 1, 2, 3, 4, 5, 100, -1, -2, -3, math.MinInt, math.MinInt + 1, math.MinInt + 2, math.MaxInt, math.MaxInt - 1, 1 << 62, 1<<62 + 1} {
		got, told := checkDo(t, "pick "+strconv.Itoa(p), journalOf(s), buildCmd(top, "out", slices.Repeat([]int{p}, 100)...))
		head, _ := impl.Head(got)
		if o, ok := impl.Find(head, []byte(text)); told.Code != impl.ErWell || !ok || !sameTexts(o.Refs, texts(refs[low62(p, 3)])) {
			t.Errorf("pick %d: %v, and the text is %v", p, told, o)
		}
	}
}

// What was added before a build failed is committed.
func TestDoBuildThatFails(t *testing.T) {
	l := textOf("a text")
	d := sourced(doing(emitOp("first"), emitOp("see $0"), failOp()), nameOf(l))
	s := rooted(stocked(storeOf(l), d), l)
	want := with(s, textOf("first"), textOf("see "+nameOf(l), nameOf(l)))
	checkReply(t, "a failure", s, buildCmd(nameOfDrv(d), "out"), impl.ErFail, "", want)
	checkUnchanged(t, "a failure, again", want, buildCmd(nameOfDrv(d), "out"), impl.ErFail, "")

	top := above("top", low(), d)
	s = stocked(s, low(), top)
	want, _ = registered(stocked(want, low(), top), finished(jobOf(low()), dir("a", file("low"))))
	checkReply(t, "a failing input", s, buildCmd(nameOfDrv(top), "out"), impl.ErDep, "", want)

	// With a code that is also the one of a store that cannot be committed.
	e := doing(emitOp("x"), emitOp("y"))
	s = stocked(storeOf(numbered(22)...), e)
	checkReply(t, "no room", s, buildCmd(nameOfDrv(e), "out"), impl.ErFull, "", with(s, textOf("x")))
}

func TestDoRoots(t *testing.T) {
	for what, s := range inOrder(map[string]impl.Store{"some": shelf(), "a diamond": rooted(storeOf(diamond()...), diamond()[1]), "full": fullStore()}) {
		var roots, others []impl.Obj
		for _, o := range s.Objs {
			if hasText(s.Roots, nameOf(o)) {
				roots = append(roots, o)
			} else {
				others = append(others, o)
			}
		}
		if what == "full" {
			roots, others = roots[:1], others[len(others)-1:]
			s = rooted(s, roots...)
		}
		for i, o := range others {
			with := rooted(s, append(slices.Clone(roots), o)...)
			checkReply(t, what+", root "+strconv.Itoa(i), s, rootCmd(nameOf(o)), impl.StWell, "", with)
			checkReply(t, what+", no root "+strconv.Itoa(i), with, unrootCmd(nameOf(o)), impl.StWell, "", s)
			checkUnchanged(t, what+", what is no root", s, unrootCmd(nameOf(o)), impl.StNone, "")
		}
		for i, o := range roots {
			without := rooted(s, slices.Delete(slices.Clone(roots), i, i+1)...)
			checkUnchanged(t, what+", a root", s, rootCmd(nameOf(o)), impl.StWell, "")
			checkReply(t, what+", a root is dropped", s, unrootCmd(nameOf(o)), impl.StWell, "", without)
		}
		checkUnchanged(t, what+", a root that is no object", s, rootCmd(absent()), impl.StNone, "")
		checkUnchanged(t, what+", what is no root and no object", s, unrootCmd(absent()), impl.StNone, "")
	}
	for _, name := range []string{absent(), zeros, "zzzzzzzzzzzzzzzz"} {
		checkUnchanged(t, "an empty store", impl.Store{}, rootCmd(name), impl.StNone, "")
		checkUnchanged(t, "an empty store", impl.Store{}, unrootCmd(name), impl.StNone, "")
	}
}

func TestDoGc(t *testing.T) {
	c, d, outs := chain(6), diamond(), outputs(3)
	s := made(storeOf(slices.Concat(c, d, outs, numbered(3))...), c[2], c[5], d[3], outs[0], outs[1])
	for _, x := range []struct {
		what  string
		roots []impl.Obj
		left  []impl.Obj
		outs  []impl.Obj
	}{
		{"no root", nil, nil, nil},
		{"the middle of a chain", c[4:5], c[:5], c[2:3]},
		{"the top of a diamond", d[3:], d, d[3:]},
		{"both sides of a diamond", d[1:3], d[:3], nil},
		{"an output", outs[1:2], outs[1:2], outs[1:2]},
		{"a text and an output", append(numbered(1), outs[0]), append(numbered(1), outs[0]), outs[:1]},
	} {
		want := made(rooted(storeOf(x.left...), x.roots...), x.outs...)
		checkReply(t, x.what, rooted(s, x.roots...), gcCmd(), 0, "", want)
		checkUnchanged(t, x.what+", again", want, gcCmd(), 0, "")
	}
	checkUnchanged(t, "every object is a root", rooted(s, s.Objs...), gcCmd(), 0, "")
	checkUnchanged(t, "an empty store", impl.Store{}, gcCmd(), 0, "")
	for what, s := range inOrder(validStores()) {
		want, _ := collected(s)
		j := safe(journalOf(impl.Store{}, recordsFor(s)...), 0)
		got, told := checkDo(t, what, j, gcCmd())
		if head, ok := impl.Head(got); !ok || !sameStore(head, want) || !sameTold(told, impl.Told{}) {
			t.Errorf("%s: the head is %v, %t", what, head, ok)
		}
	}
}

// A crash is the only command that commits nothing.
func TestDoCrash(t *testing.T) {
	fill := filledJournal()
	a := textOf("a")
	for n := range len(fill.Regs) + 1 {
		for keep := range len(fill.Regs) + 3 {
			got, told := checkDo(t, "a crash", safe(fill, n), crashCmd(keep))
			left := min(n+keep, len(fill.Regs))
			if want := safe(journalOf(fill.Base, fill.Regs[:left]...), left); !sameJournal(got, want) || !sameTold(told, impl.Told{}) {
				t.Errorf("%d safe, Keep %d: Do = %v, %v", n, keep, got, told)
			}
		}
		for _, keep := range []int{1 << 32, math.MaxInt - 200, math.MaxInt - 1, math.MaxInt} {
			if got, told := checkDo(t, "a crash", safe(fill, n), crashCmd(keep)); !sameJournal(got, safe(fill, len(fill.Regs))) || !sameTold(told, impl.Told{}) {
				t.Errorf("%d safe, Keep %d: Do = %v, %v", n, keep, got, told)
			}
		}
	}
	for _, n := range []int{199, 200} {
		for _, x := range [][3]int{{0, 0, 0}, {0, 1, 1}, {0, 198, 198}, {3, 0, 3}, {3, 190, 193}, {3, 197, min(n, 200)}, {n, 0, n}, {n, 1, n}, {n - 1, 0, n - 1}, {n - 1, math.MaxInt, n}} {
			got, told := impl.Do(safe(journalOf(storeOf(a), toggling(a, n)...), x[0]), crashCmd(x[1]))
			if want := safe(journalOf(storeOf(a), toggling(a, x[2])...), x[2]); !sameJournal(got, want) || !sameTold(told, impl.Told{}) {
				t.Errorf("%d records, %d safe, Keep %d: %d records, %d safe, %v", n, x[0], x[1], len(got.Regs), got.Safe, told)
			}
		}
	}
	for what, j := range inOrder(validJournals()) {
		if len(j.Regs) < 100 {
			checkDo(t, what, j, crashCmd(0))
			checkDo(t, what, j, crashCmd(2))
		}
	}
}

func TestDoLook(t *testing.T) {
	for what, s := range inOrder(map[string]impl.Store{"some": shelf(), "a diamond": storeOf(diamond()...), "24 texts": storeOf(numbered(24)...)}) {
		for i, o := range s.Objs {
			if what != "24 texts" || i%8 == 7 {
				checkUnchanged(t, what, s, lookCmd(nameOf(o)), 0, nameOf(o))
			}
		}
		for _, name := range []string{absent(), drvName(0), zeros, "zzzzzzzzzzzzzzzz"} {
			checkUnchanged(t, what+", no object", s, lookCmd(name), impl.StNone, "")
		}
	}
	checkUnchanged(t, "an empty store", impl.Store{}, lookCmd(zeros), impl.StNone, "")
	// Only what is there now is found.
	a := textOf("a")
	for _, regs := range [][]impl.Reg{{objReg(a), nameReg(impl.RgGone, nameOf(a))}, {objReg(a), nameReg(impl.RgGone, nameOf(a)), objReg(a)}} {
		_, told := checkDo(t, "what was removed", journalOf(impl.Store{}, regs...), lookCmd(nameOf(a)))
		if there := len(regs) == 3; there != (told.Code == 0) || there != (string(told.Name) == nameOf(a)) {
			t.Errorf("%d records: Do = %v", len(regs), told)
		}
	}
}

func TestDoOfEveryJournal(t *testing.T) {
	for what, j := range inOrder(validJournals()) {
		if len(j.Regs) >= 100 {
			continue
		}
		l := eachCmd()
		for i, o := range headOf(j).Objs {
			if i%6 == 0 {
				l = append(l, rootCmd(nameOf(o)), unrootCmd(nameOf(o)), lookCmd(nameOf(o)), textCmd(nameOf(o)))
			}
		}
		at := standOf(j)
		for _, c := range l {
			got, told := impl.Do(j, c)
			checkDone(t, what, at, c, done(at, c), got, told)
		}
	}
}

func TestDoOfEveryCommand(t *testing.T) {
	for what, c := range inOrder(validCmds()) {
		for _, j := range []impl.Journal{{}, filledJournal(), safe(journalOf(impl.Store{}, recordsFor(stocked(shelf(), low()))...), 4)} {
			checkDo(t, what, j, c)
		}
	}
}
