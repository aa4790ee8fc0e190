package tests

import (
	"math"
	"math/rand"
	"slices"
	"strconv"
	"testing"

	"loop.example/g00538/impl"
)

// The tests of promise 13 for scripts: Run executes the commands one by one, as
// Do does, and their effects survive a crash.

// checkScript runs a valid script and fails if Run does not return what Do returns
// for its commands one after the other, or not what the document says.
func checkScript(t *testing.T, what string, j impl.Journal, l []impl.Cmd) (impl.Journal, []impl.Told) {
	t.Helper()
	return checkHistory(t, what, j, l, history(j, l))
}

// checkHistory is checkScript with the stands after each of the commands.
func checkHistory(t *testing.T, what string, j impl.Journal, l []impl.Cmd, want []stand) (impl.Journal, []impl.Told) {
	t.Helper()
	at, after := standOf(j), j
	var replies []impl.Told
	for i, c := range l {
		got, told := impl.Do(after, c)
		checkDone(t, what+", command "+strconv.Itoa(i), at, c, want[i], got, told)
		at, after, replies = want[i], got, append(replies, told)
	}
	got, all, ok := impl.Run(j, l)
	if !ok || !sameJournal(got, after) || !slices.EqualFunc(all, replies, sameTold) || !impl.JournalOk(got) {
		t.Fatalf("%s: Run(%v, %v) = %v, %v, %t instead of %v, %v", what, j, l, got, all, ok, after, replies)
	}
	// A script that goes on where another one ended.
	for _, n := range []int{len(l) / 2, len(l) - 1} {
		if n < 0 {
			continue
		}
		half, first, _ := impl.Run(j, l[:n])
		whole, second, ok := impl.Run(half, l[n:])
		if !ok || !sameJournal(whole, got) || !slices.EqualFunc(append(first, second...), all, sameTold) {
			t.Fatalf("%s: Run of %d commands and the others = %v, %v and %v, %t", what, n, whole, first, second, ok)
		}
	}
	return got, all
}

func TestRunOfOneCommand(t *testing.T) {
	for what, j := range inOrder(validJournals()) {
		if len(j.Regs) >= 100 {
			continue
		}
		for _, c := range eachCmd() {
			checkScript(t, what, j, []impl.Cmd{c})
		}
	}
	for what, c := range inOrder(validCmds()) {
		checkScript(t, what, filledJournal(), []impl.Cmd{c})
	}
}

// Without commands nothing happens: what is not safe is not safe afterwards.
func TestRunOfNoCommands(t *testing.T) {
	for what, j := range inOrder(validJournals()) {
		for _, l := range [][]impl.Cmd{nil, {}, eachCmd()[:0]} {
			if got, replies, ok := impl.Run(j, l); !ok || len(replies) != 0 || !sameJournal(got, j) {
				t.Errorf("%s: Run = %v, %v, %t", what, got, replies, ok)
			}
		}
	}
}

func TestRunOfEachNumber(t *testing.T) {
	a := textOf("a")
	j := safe(journalOf(storeOf(a), toggling(a, 4)...), 1)
	for n := range 45 {
		var l []impl.Cmd
		for i := range n {
			l = append(l, textCmd("text "+strconv.Itoa(i)))
		}
		got, replies, ok := impl.Run(j, l)
		if n > impl.MaxScript {
			if ok || len(replies) != 0 || !sameJournal(got, impl.Journal{}) {
				t.Errorf("%d commands: Run = %v, %v, %t", n, got, replies, ok)
			}
			continue
		}
		checkScript(t, strconv.Itoa(n)+" commands", j, l)
		if !ok || len(replies) != n || n > 0 && (len(got.Regs) != 4+n || got.Safe != 4+n) {
			t.Errorf("%d commands: Run = %v, %v, %t", n, got, replies, ok)
		}
		for i, told := range replies {
			if !sameTold(told, impl.Told{Name: textOf("text " + strconv.Itoa(i)).Name}) {
				t.Errorf("%d commands: reply %d is %v", n, i, told)
			}
		}
	}
	for _, n := range []int{21, 256, 276, 10000} {
		for _, c := range eachCmd() {
			checkNoScript(t, strconv.Itoa(n)+" commands", j, slices.Repeat([]impl.Cmd{c}, n))
		}
	}
}

// checkNoScript fails if Run does not return the zero value, nil and false.
func checkNoScript(t *testing.T, what string, j impl.Journal, l []impl.Cmd) {
	t.Helper()
	if got, replies, ok := impl.Run(j, l); ok || len(replies) != 0 || !sameJournal(got, impl.Journal{}) {
		t.Errorf("%s: Run = %.200v, %v, %t", what, got, replies, ok)
	}
}

func TestRunOfInvalidJournals(t *testing.T) {
	for what, j := range brokenJournals() {
		checkNoScript(t, what+", no commands", j, nil)
		checkNoScript(t, what, j, eachCmd())
		checkNoScript(t, what+", one command", j, eachCmd()[6:7])
		checkNoScript(t, what+", and the command", j, []impl.Cmd{crashCmd(-1)})
		checkNoScript(t, what+", and too many commands", j, slices.Repeat(eachCmd(), 3))
	}
}

// One command that is not valid: the others have no effect.
func TestRunOfInvalidCommands(t *testing.T) {
	good := []impl.Cmd{textCmd("new"), drvCmd(low()), buildCmd(nameOfDrv(low()), "out"), rootCmd(nameOfDrv(low())), gcCmd(), crashCmd(0)}
	for what, c := range brokenCmds() {
		for _, j := range []impl.Journal{{}, filledJournal()} {
			checkNoScript(t, what+", alone", j, []impl.Cmd{c})
			for at := range len(good) + 1 {
				checkNoScript(t, what+", at "+strconv.Itoa(at), j, slices.Insert(slices.Clone(good), at, c))
			}
			checkNoScript(t, what+", the last of 20", j, append(slices.Repeat(good[:1], 19), c))
			checkNoScript(t, what+", the first of 20", j, append([]impl.Cmd{c}, slices.Repeat(good[:1], 19)...))
			checkNoScript(t, what+", the last of 21", j, append(slices.Repeat(good[:1], 20), c))
		}
	}
	checkScript(t, "only valid commands", filledJournal(), good)
}

// A command behind the length of the script is none of it.
func TestRunStaysWithinLength(t *testing.T) {
	l := []impl.Cmd{textCmd("a"), textCmd("b"), crashCmd(-1), textCmd("c")}
	got, replies, ok := impl.Run(impl.Journal{}, l[:2])
	if !ok || len(replies) != 2 || !sameJournal(got, safe(journalOf(impl.Store{}, objReg(textOf("a")), objReg(textOf("b"))), 2)) {
		t.Errorf("Run = %v, %v, %t", got, replies, ok)
	}
	many := slices.Repeat([]impl.Cmd{textCmd("a")}, 40)
	if _, replies, ok := impl.Run(impl.Journal{}, many[:20]); !ok || len(replies) != 20 {
		t.Errorf("20 of 40 commands: %v, %t", replies, ok)
	}
}

// A script of all Kinds, with each reply and the records that it leaves.
func TestRunOfAllKinds(t *testing.T) {
	d := sourced(doing(writeOp(0, "a", "see $0")), nameOf(textOf("low")))
	drv := drvText(d, nameOf(textOf("low")))
	out := outOf(nameOf(drv), "out", dir("a", file("see "+nameOf(textOf("low")))), nameOf(textOf("low")))
	tree := treeOf(dir("l", link(nameOf(out))), nameOf(out))
	l := []impl.Cmd{
		textCmd("low"), drvCmd(d), lookCmd(nameOf(out)), buildCmd(nameOf(drv), "out"), treeCmd(tree.Tree), rootCmd(nameOf(tree)), crashCmd(0),
		buildCmd(nameOf(drv), "out", 4), buildCmd(nameOf(drv), "dev"), unrootCmd(nameOf(drv)), rootCmd(absent()), buildCmd(absent(), "out"), buildCmd(nameOf(tree), "out"),
		gcCmd(), lookCmd(nameOf(drv)), lookCmd(nameOf(out)), unrootCmd(nameOf(tree)), crashCmd(7), gcCmd(), lookCmd(nameOf(out)),
	}
	told := func(code int, o ...impl.Obj) impl.Told {
		return impl.Told{Code: code, Name: slices.Concat(namesOf(o...)...)}
	}
	want := []impl.Told{
		told(0, textOf("low")), told(0, drv), told(impl.StNone), told(0, out), told(0, tree), told(0), told(0),
		told(0, out), told(impl.ErArg), told(impl.StNone), told(impl.StNone), told(impl.ErNone), told(impl.ErMalformed),
		told(0), told(impl.StNone), told(0, out), told(0), told(0), told(0), told(impl.StNone),
	}
	regs := []impl.Reg{
		objReg(textOf("low")), objReg(drv), objReg(out), madeReg(impl.RgReal, out), objReg(tree), nameReg(impl.RgRoot, nameOf(tree)),
		nameReg(impl.RgGone, nameOf(drv)), nameReg(impl.RgUnroot, nameOf(tree)), madeReg(impl.RgUnreal, out),
		nameReg(impl.RgGone, nameOf(tree)), nameReg(impl.RgGone, nameOf(out)), nameReg(impl.RgGone, nameOf(textOf("low"))),
	}
	got, replies := checkScript(t, "all Kinds", impl.Journal{}, l)
	if !slices.EqualFunc(replies, want, sameTold) {
		t.Errorf("Run replies %v instead of %v", replies, want)
	}
	if !sameJournal(got, safe(journalOf(impl.Store{}, regs...), len(regs))) {
		t.Errorf("Run leaves %v", got)
	}
	for what, j := range inOrder(journalsAt(shelf())) {
		checkScript(t, what, j, l)
	}
}

// A script goes on behind replies that report errors, also behind an ErFull of what is not committed.
func TestRunGoesOn(t *testing.T) {
	a := textOf("a")
	full := safe(journalOf(storeOf(a), toggling(a, 199)...), 50)
	l := []impl.Cmd{textCmd("b"), textCmd("c"), rootCmd(nameOf(a)), unrootCmd(nameOf(a)), lookCmd(nameOf(textOf("b"))), gcCmd(), lookCmd(nameOf(a)), treeCmd(file("x")), crashCmd(0), lookCmd(nameOf(textOf("b")))}
	got, replies := checkScript(t, "199 records", full, l)
	want := []int{0, 5, 0, 5, 0, 5, 0, 5, 0, 0}
	for i, told := range replies {
		if told.Code != want[i] || told.Code != 0 && len(told.Name) > 0 {
			t.Errorf("199 records: reply %d is %v", i, told)
		}
	}
	if len(got.Regs) != 200 || got.Safe != 200 {
		t.Errorf("199 records: %d, %d of them safe", len(got.Regs), got.Safe)
	}
	// What cannot be committed makes nothing safe, so that a crash makes room.
	full = safe(journalOf(storeOf(a), toggling(a, 200)...), 50)
	got, replies = checkScript(t, "200 records", full, []impl.Cmd{textCmd("b"), crashCmd(0), textCmd("b"), lookCmd(nameOf(textOf("b")))})
	if len(got.Regs) != 51 || got.Safe != 51 || replies[0].Code != impl.ErFull || replies[2].Code != 0 || replies[3].Code != 0 {
		t.Errorf("200 records: %d, %d of them safe, %v", len(got.Regs), got.Safe, replies)
	}
	// A look makes them safe, so that no crash makes room.
	got, replies = checkScript(t, "200 records and a look", full, []impl.Cmd{lookCmd(nameOf(a)), textCmd("b"), crashCmd(0), textCmd("b")})
	if len(got.Regs) != 200 || replies[1].Code != impl.ErFull || replies[3].Code != impl.ErFull {
		t.Errorf("200 records and a look: %d, %v", len(got.Regs), replies)
	}
	// Objects without room, until a collection.
	var fill []impl.Cmd
	for i := range 9 {
		fill = append(fill, textCmd("more "+strconv.Itoa(i)))
	}
	got, replies = checkScript(t, "objects without room", journalOf(storeOf(numbered(16)...)), append(fill, lookCmd(nameOf(textOf("more 7"))), gcCmd(), textCmd("more 8")))
	if head, _ := impl.Head(got); replies[7].Code != 0 || replies[8].Code != impl.StFull || replies[9].Code != 0 || replies[11].Code != 0 || !sameStore(head, storeOf(textOf("more 8"))) {
		t.Errorf("objects without room: %v, and the head is %v", replies, head)
	}
}

// A crash anywhere in a script removes nothing that was committed before it.
func TestCrashesInScripts(t *testing.T) {
	s, l := steps()
	var script []impl.Cmd
	for _, x := range l {
		if len(script) < 19 {
			script = append(script, x.cmd)
		}
	}
	for what, j := range inOrder(journalsAt(s)) {
		without, replies := checkScript(t, what, j, script)
		for at := range len(script) + 1 {
			for _, keep := range []int{0, 1, 3, math.MaxInt} {
				got, told, ok := impl.Run(j, slices.Insert(slices.Clone(script), at, crashCmd(keep)))
				if !ok || len(told) != 20 || !sameTold(told[at], impl.Told{}) {
					t.Fatalf("%s, a crash at %d: Run = %v, %v, %t", what, at, got, told, ok)
				}
				// At the beginning, the crash may remove what is not safe.
				if at > 0 && (!sameJournal(got, without) || !slices.EqualFunc(slices.Delete(told, at, at+1), replies, sameTold)) {
					t.Errorf("%s, a crash at %d: Run = %v, %v instead of %v, %v", what, at, got, told, without, replies)
				}
			}
		}
	}
	for what, j := range inOrder(validJournals()) {
		if len(j.Regs) >= 100 {
			continue
		}
		for keep := range 4 {
			checkScript(t, what, j, []impl.Cmd{crashCmd(keep), textCmd("new"), crashCmd(0), lookCmd(nameOf(textOf("new"))), crashCmd(keep), gcCmd(), crashCmd(0)})
		}
	}
}

func TestScriptsForEveryJournal(t *testing.T) {
	random := rand.New(rand.NewSource(104))
	for what, j := range inOrder(validJournals()) {
		n := 20
		if len(j.Regs) >= 100 || len(headOf(j).Objs) > 20 {
			n = 8
		}
		l, want := randomScript(random, j, n)
		checkHistory(t, what, j, l, want)
	}
}

func TestRandomScripts(t *testing.T) {
	random := rand.New(rand.NewSource(105))
	seen, codes := map[int]int{}, map[int]int{}
	kept, lost := 0, 0
	for i := range 120 {
		j := randomJournal(random)
		if i%2 == 0 {
			all := journalsAt(randomBuild(random).store)
			j = all[[]string{"a base", "records, none of them safe", "records, some of them safe", "both, and more than the head"}[random.Intn(4)]]
		}
		l, want := randomScript(random, j, 1+random.Intn(20))
		checkHistory(t, "at random", j, l, want)
		at := standOf(j)
		for i, c := range l {
			seen[c.Kind]++
			if c.Kind == impl.CmBuild {
				codes[want[i].told.Code]++
			}
			kept += max(0, len(want[i].journal.Regs)-len(at.journal.Regs))
			lost += max(0, len(at.journal.Regs)-len(want[i].journal.Regs))
			at = want[i]
		}
	}
	for kind := range 8 {
		if seen[kind] < 40 {
			t.Error("too few commands of one Kind:", seen)
		}
	}
	if codes[impl.ErWell] < 50 || codes[impl.ErNone] == 0 || codes[impl.ErMalformed] == 0 || codes[impl.ErArg] == 0 || kept < 500 || lost < 20 {
		t.Error("too few of one sort:", codes, kept, lost)
	}
}

// A journal that grows until there is no room, script by script.
func TestScriptsUntilThereIsNoRoom(t *testing.T) {
	random := rand.New(rand.NewSource(106))
	j, refused := journalOf(stocked(impl.Store{}, low(), pair())), 0
	for range 40 {
		l, want := randomScript(random, j, 10)
		j, _ = checkHistory(t, "one after the other", j, l, want)
		for _, at := range want {
			if !at.kept && at.told.Code == impl.ErFull {
				refused++
			}
		}
		if refused > 20 {
			break
		}
	}
	if refused < 10 || len(j.Regs) < 190 {
		t.Errorf("%d records, and %d commands were refused", len(j.Regs), refused)
	}
}
