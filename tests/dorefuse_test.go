package tests

import (
	"math/rand"
	"reflect"
	"slices"
	"strconv"
	"strings"
	"testing"

	"loop.example/g00538/impl"
)

// The tests of promise 13 for what a single command refuses: stores that cannot
// be committed, and arguments that are not valid; and those of memory.

// checkNotKept fails if Do does not return the same journal and ErFull alone.
func checkNotKept(t *testing.T, what string, j impl.Journal, c impl.Cmd) {
	t.Helper()
	if got, told := checkDo(t, what, j, c); !sameJournal(got, j) || !sameTold(told, impl.Told{Code: impl.ErFull}) {
		t.Errorf("%s: Do(%v) = %v, %v", what, c, got, told)
	}
}

// step is a command and the number of records that it makes.
type step struct {
	cmd  impl.Cmd
	regs int
}

// steps returns a store and commands of each Kind that changes it, or that changes nothing.
func steps() (impl.Store, []step) {
	a, b, x := textOf("a"), textOf("b"), textOf("x of "+nameOf(textOf("b")), nameOf(textOf("b")))
	e := emitter("e", inner(), "out")
	two := doing(emitOp("one"), emitOp("two"), failOp())
	out := outputs(1)[0]
	s := made(rooted(stocked(storeOf(a, b, x, out), low(), pair(), e, two), b), out)
	return s, []step{
		{textCmd("new"), 1}, {textCmd("a"), 0}, {textCmd("see " + nameOf(a) + nameOf(b)), 1},
		{treeCmd(file("new")), 1}, {treeCmd(dir("a", link(nameOf(a)))), 1},
		// An object and a realisation for each output; the emission, too.
		{buildCmd(nameOfDrv(low()), "out"), 2}, {buildCmd(nameOfDrv(pair()), "dev", 7), 4}, {buildCmd(nameOfDrv(e), "out"), 5},
		{buildCmd(nameOfDrv(low()), "none"), 2}, {buildCmd(nameOfDrv(two), "out"), 2}, {buildCmd(nameOf(a), "out"), 0}, {buildCmd(absent(), "out"), 0},
		{rootCmd(nameOf(x)), 1}, {rootCmd(nameOf(b)), 0}, {rootCmd(absent()), 0},
		{unrootCmd(nameOf(b)), 1}, {unrootCmd(nameOf(x)), 0},
		// All but b, which is the root, and the realisation.
		{gcCmd(), len(s.Objs) - 1 + 1},
		{lookCmd(nameOf(a)), 0}, {lookCmd(absent()), 0},
	}
}

// A journal whose records with those of the command are MaxRegs, fewer, or more.
func TestDoAtLimits(t *testing.T) {
	s, l := steps()
	root := textOf("b")
	for i, x := range l {
		for _, more := range []int{-2, 0, 1, 2} {
			n := 200 - x.regs + more
			if n > 200 {
				continue
			}
			// What toggles is a root at the end, as it is in s.
			base, regs := s, toggling(root, n+1)[1:]
			if n%2 == 1 {
				base, regs = rooted(s), toggling(root, n)
			}
			for _, safeOnes := range []int{0, n / 2, n} {
				what := "command " + strconv.Itoa(i) + ", " + strconv.Itoa(n) + " records, " + strconv.Itoa(safeOnes) + " of them safe"
				j := safe(journalOf(base, regs...), safeOnes)
				if more > 0 {
					checkNotKept(t, what, j, x.cmd)
					continue
				}
				got, told := checkDo(t, what, j, x.cmd)
				if told.Code == impl.ErFull || len(got.Regs) != n+x.regs || got.Safe != n+x.regs {
					t.Errorf("%s: %d records, %d of them safe, %v", what, len(got.Regs), got.Safe, told)
				}
			}
		}
	}
}

// With MaxRegs records, only what changes nothing is committed, and a crash or a snapshot makes room again.
func TestDoWithoutRoom(t *testing.T) {
	s, l := steps()
	root := textOf("b")
	j := safe(journalOf(s, toggling(root, 201)[1:]...), 120)
	for i, x := range l {
		what := "command " + strconv.Itoa(i)
		if x.regs > 0 {
			checkNotKept(t, what, j, x.cmd)
		} else if got, told := checkDo(t, what, j, x.cmd); !sameJournal(got, safe(j, 200)) || told.Code == impl.ErFull {
			t.Errorf("%s: Do = %v, %v", what, got, told)
		}
		// What is lost makes room, and what is kept does not.
		left, _ := impl.Do(j, crashCmd(0))
		if got, told := impl.Do(left, x.cmd); len(got.Regs) != 120+x.regs || told.Code == impl.ErFull {
			t.Errorf("%s, after a crash: %d records, %v", what, len(got.Regs), told)
		}
		left, _ = impl.Do(j, crashCmd(80))
		if got, told := impl.Do(left, x.cmd); len(got.Regs) != 200 || got.Safe != 200 || (x.regs > 0) != (told.Code == impl.ErFull) {
			t.Errorf("%s, after a crash that keeps all: %d records, %v", what, len(got.Regs), told)
		}
		left, _ = impl.Snapshot(j)
		if got, told := impl.Do(left, x.cmd); len(got.Regs) != x.regs || told.Code == impl.ErFull {
			t.Errorf("%s, after a snapshot: %d records, %v", what, len(got.Regs), told)
		}
	}
}

// checkNotDone fails if Do does not return the zero value and ErForm alone.
func checkNotDone(t *testing.T, what string, j impl.Journal, c impl.Cmd) {
	t.Helper()
	if got, told := impl.Do(j, c); !sameJournal(got, impl.Journal{}) || !sameTold(told, impl.Told{Code: impl.ErForm}) {
		t.Errorf("%s: Do = %.200v, %v", what, got, told)
	}
}

func TestDoOfInvalidJournals(t *testing.T) {
	commands, n := eachCmd(), 0
	broken := slices.Collect(func(yield func(impl.Cmd) bool) {
		for _, c := range inOrder(brokenCmds()) {
			if !yield(c) {
				return
			}
		}
	})
	for what, j := range inOrder(brokenJournals()) {
		for _, c := range commands {
			checkNotDone(t, what+", command "+strconv.Itoa(c.Kind), j, c)
		}
		checkNotDone(t, what+", and the command", j, broken[n%len(broken)])
		n++
	}
}

func TestDoOfInvalidCommands(t *testing.T) {
	full := journalOf(storeOf(textOf("a")), toggling(textOf("a"), 200)...)
	for what, c := range brokenCmds() {
		for _, j := range []impl.Journal{{}, filledJournal(), safe(full, 200), safe(journalOf(storeOf(numbered(24)...)), 0)} {
			checkNotDone(t, what, j, c)
		}
	}
}

func TestDoStaysWithinLength(t *testing.T) {
	fill := filledJournal()
	j := safe(journalOf(fill.Base, slices.Clone(fill.Regs)[:3]...), 2)
	c := textCmd("new" + "more")
	c.Text, c.Picks = c.Text[:3], []int{1, 2}[:0]
	got, told := impl.Do(j, c)
	if string(told.Name) != nameOf(textOf("new")) || len(got.Regs) != 4 || !sameObj(got.Regs[3].Obj, textOf("new")) || !sameRegs(j.Regs[:9], fill.Regs) {
		t.Errorf("Do = %v, %v, and behind the length is %v", got, told, j.Regs[:9])
	}
	if got, _ := impl.Do(j, crashCmd(5)); !sameJournal(got, safe(j, 3)) {
		t.Errorf("a crash leaves %v", got)
	}
	// The picks behind the length do not count.
	s, top, refs := race()
	b := buildCmd(top, "out", 0, 2, 2, 2, 2, 2)
	b.Picks = b.Picks[:1]
	got, _ = impl.Do(journalOf(s), b)
	head, _ := impl.Head(got)
	if o, _ := impl.Find(head, []byte(nameFor('t', string(bytesOf(someObjs(3)))))); !sameTexts(o.Refs, texts(refs[0])) {
		t.Errorf("the text of the race is %v", o)
	}
}

func TestDeskMemory(t *testing.T) {
	random := rand.New(rand.NewSource(103))
	journals := map[string]impl.Journal{}
	for what, j := range inOrder(validJournals()) {
		if len(j.Base.Objs) < 12 && len(j.Regs) < 12 || what == "200 records" || strings.HasSuffix(what, "a base: full") {
			journals[what] = j
		}
	}
	for i := range 10 {
		journals["at random "+strconv.Itoa(i)] = randomJournal(random)
	}
	for what, j := range brokenJournals() {
		for _, some := range []string{"circle of 2", "25 objects", "safe", "201 records", "record 1 alone"} {
			if strings.Contains(what, some) && !strings.Contains(what, "cyclic") {
				journals["not valid: "+what] = j
			}
		}
	}
	s, _ := steps()
	journals["for builds"] = journalOf(s)
	commands := append(eachCmd(), drvCmd(low()), buildCmd(nameOfDrv(low()), "out"), textCmd(strings.Repeat("x", 401)), crashCmd(-1))
	for what, j := range inOrder(journals) {
		for i, c := range commands {
			checkCall(t, what+": Do command "+strconv.Itoa(i), impl.Do, j, c)
		}
		for i, l := range [][]impl.Cmd{nil, commands[:1], commands[:10], commands[4:], slices.Repeat(commands[7:8], 20), slices.Repeat(commands[:1], 21)} {
			checkCall(t, what+": Run script "+strconv.Itoa(i), impl.Run, j, l)
		}
		checkCall(t, what+": StoreText", impl.StoreText, j.Base)
	}
	for what, c := range inOrder(brokenCmds()) {
		if !strings.Contains(what, "cyclic") && random.Intn(6) == 0 {
			checkCall(t, what+": Do", impl.Do, filledJournal(), c)
			checkCall(t, what+": Run", impl.Run, filledJournal(), append(eachCmd(), c))
		}
	}
}

// The parts of the arguments may share memory with each other, but those of the results do not.
func TestDeskOfSharedMemory(t *testing.T) {
	low := textOf("low")
	d := doing(emitOp("low"), copyOp(0, "a", 0))
	base := rooted(stocked(storeOf(low), d), low)
	base.Roots = [][]byte{low.Name}
	regs := []impl.Reg{objReg(low), nameReg(impl.RgRoot, ""), nameReg(impl.RgUnroot, "")}
	regs[1].Name, regs[2].Name = low.Name, low.Name
	j := safe(journalOf(base, regs...), 1)
	name := []byte(nameOfDrv(d))
	text := []byte("a" + nameOf(low) + "b")
	tree := dir("a b")
	tree.Kids = []impl.Tree{{Data: text}, {Data: text[1:17]}}
	l := []impl.Cmd{
		{Kind: impl.CmText, Text: text}, {Kind: impl.CmText, Text: text}, {Kind: impl.CmText, Text: low.Name}, {Kind: impl.CmTree, Tree: tree}, {Kind: impl.CmTree, Tree: tree},
		{Kind: impl.CmBuild, Name: name, Out: d.Outs[0]}, {Kind: impl.CmBuild, Name: name, Out: d.Outs[0]},
		{Kind: impl.CmRoot, Name: name}, {Kind: impl.CmLook, Name: name}, {Kind: impl.CmLook, Name: name}, {Kind: impl.CmLook, Name: low.Name},
		{Kind: impl.CmUnroot, Name: low.Name}, {Kind: impl.CmRoot, Name: low.Name}, {Kind: impl.CmGc}, {Kind: impl.CmCrash, Keep: 2},
	}
	given := []reflect.Value{reflect.ValueOf(j), reflect.ValueOf(l)}
	check := func(what string, results ...any) {
		t.Helper()
		var values []reflect.Value
		for _, r := range results {
			values = append(values, reflect.ValueOf(r))
		}
		checkApart(t, what, regionsOf(values), regionsOf(given))
	}
	for n := range len(l) + 1 {
		check("Run of "+strconv.Itoa(n), list(impl.Run(j, l[:n]))...)
	}
	for i, c := range l {
		check("Do command "+strconv.Itoa(i), list(impl.Do(j, c))...)
	}
	check("a text", impl.StoreText(base))
}
