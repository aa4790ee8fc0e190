package tests

import (
	"math"
	"math/rand"
	"reflect"
	"slices"
	"strconv"
	"strings"
	"testing"

	"loop.example/g00538/impl"
)

// The tests of promise 11 that concern what a valid journal is, what is told of
// it, its snapshot, and what the functions return for others; and their memory.

func TestJournalOk(t *testing.T) {
	checkOk(t, "JournalOk", impl.JournalOk, validJournal, validJournals(), brokenJournals())
}

func TestJournalOkOfEachNumber(t *testing.T) {
	a := textOf("a")
	for n := 190; n <= 210; n++ {
		for _, regs := range [][]impl.Reg{toggling(a, n), toggling(a, 1)[:n%2]} {
			for _, safeOnes := range []int{math.MinInt, -1, 0, 1, len(regs) - 1, len(regs), len(regs) + 1, 200, 201, math.MaxInt} {
				want := len(regs) <= 200 && safeOnes >= 0 && safeOnes <= len(regs)
				if got := impl.JournalOk(safe(journalOf(storeOf(a), regs...), safeOnes)); got != want {
					t.Errorf("JournalOk of %d records, %d of them safe: %t", len(regs), safeOnes, got)
				}
			}
		}
	}
}

// Each record is applied to what those before it have made: in another order, some cannot be applied.
func TestJournalOkOfEachOrder(t *testing.T) {
	c := chain(3)
	regs := []impl.Reg{objReg(c[0]), objReg(c[1]), nameReg(impl.RgRoot, nameOf(c[1])), nameReg(impl.RgUnroot, nameOf(c[1])), nameReg(impl.RgGone, nameOf(c[1]))}
	seen := map[bool]int{}
	for code := range 5 * 5 * 5 * 5 * 5 {
		j := journalOf(impl.Store{})
		for rest := code; len(j.Regs) < 5; rest /= 5 {
			j.Regs = append(j.Regs, regs[rest%5])
		}
		want := validJournal(j)
		seen[want]++
		if got := impl.JournalOk(j); got != want {
			t.Fatalf("JournalOk(%v) = %t", j, got)
		}
	}
	if seen[true] < 100 || seen[false] < 100 {
		t.Fatal("too few of one sort:", seen)
	}
}

func TestJournalOkOfRandomJournals(t *testing.T) {
	random := rand.New(rand.NewSource(85))
	seen := map[bool]int{}
	for range 500 {
		j := randomJournal(random)
		if !impl.JournalOk(j) || !validJournal(j) {
			t.Fatalf("JournalOk(%v) is false", j)
		}
		if len(j.Regs) == 0 {
			continue
		}
		i, k := random.Intn(len(j.Regs)), random.Intn(len(j.Regs))
		switch random.Intn(4) {
		case 0:
			j.Regs[i], j.Regs[k] = j.Regs[k], j.Regs[i]
		case 1:
			j.Regs[i] = randomReg(random, j.Base)
		case 2:
			j.Regs = append(j.Regs[:i], j.Regs[i+1:]...)
		case 3:
			j.Regs = append(j.Regs, randomReg(random, j.Base))
		}
		want := validJournal(j)
		seen[want]++
		if got := impl.JournalOk(j); got != want {
			t.Fatalf("JournalOk(%v) = %t", j, got)
		}
	}
	if seen[true] < 50 || seen[false] < 50 {
		t.Fatal("too few journals of one sort:", seen)
	}
}

// checkJournalTold compares all that is told of a valid journal with the reference.
func checkJournalTold(t *testing.T, what string, j impl.Journal) {
	t.Helper()
	head := headOf(j)
	if got, ok := impl.Head(j); !ok || !sameStore(got, head) || impl.StoreCmp(got, head) != 0 {
		t.Fatalf("%s: Head(%v) = %v, %t instead of %v", what, j, got, ok, head)
	}
	counts, all := map[int]int{}, 0
	for _, r := range j.Regs {
		counts[r.Kind]++
	}
	for kind := -2; kind <= 8; kind++ {
		got := impl.CountRegs(j, kind)
		if all += got; got != counts[kind] {
			t.Fatalf("%s: CountRegs(%v, %d) = %d", what, j, kind, got)
		}
	}
	if all != len(j.Regs) || impl.CountRegs(j, math.MinInt) != 0 || impl.CountRegs(j, math.MaxInt) != 0 || impl.CountRegs(j, 256) != 0 {
		t.Fatalf("%s: CountRegs(%v) adds up to %d", what, j, all)
	}
	if got := impl.Loose(j); got != len(j.Regs)-j.Safe {
		t.Fatalf("%s: Loose(%v) = %d", what, j, got)
	}
	got, ok := impl.Snapshot(j)
	if !ok || !sameJournal(got, journalOf(head)) || !impl.JournalOk(got) {
		t.Fatalf("%s: Snapshot(%v) = %v, %t", what, j, got, ok)
	}
	if again, ok := impl.Head(got); !ok || !sameStore(again, head) {
		t.Fatalf("%s: the head of the snapshot of %v is %v, %t", what, j, again, ok)
	}
}

func TestToldOfEveryJournal(t *testing.T) {
	for what, j := range validJournals() {
		checkJournalTold(t, what, j)
	}
}

func TestToldOfRandomJournals(t *testing.T) {
	random := rand.New(rand.NewSource(86))
	for range 150 {
		checkJournalTold(t, "at random", randomJournal(random))
	}
}

func TestHead(t *testing.T) {
	c := chain(4)
	stores := []impl.Store{
		{}, storeOf(c[:1]...), storeOf(c[:2]...), storeOf(c[:3]...), storeOf(c...), made(storeOf(c...), c[2]),
		made(rooted(storeOf(c...), c[3]), c[2]), made(storeOf(c...), c[2]), storeOf(c...), storeOf(c[:3]...),
	}
	for n, want := range stores {
		for safeOnes := range n + 1 {
			if got, ok := impl.Head(safe(journalOf(impl.Store{}, eachReg()[:n]...), safeOnes)); !ok || !sameStore(got, want) {
				t.Errorf("Head of %d records, %d of them safe = %v, %t", n, safeOnes, got, ok)
			}
		}
	}
}

func TestCountRegs(t *testing.T) {
	j := filledJournal()
	for kind, want := range []int{4, 1, 1, 1, 1, 1} {
		if got := impl.CountRegs(j, kind); got != want {
			t.Errorf("CountRegs(%d) = %d", kind, got)
		}
	}
	if impl.CountRegs(j, -1) != 0 || impl.CountRegs(j, 6) != 0 || impl.Loose(j) != 4 {
		t.Errorf("CountRegs = %d and %d, Loose = %d", impl.CountRegs(j, -1), impl.CountRegs(j, 6), impl.Loose(j))
	}
}

// The fixed results for journals that are not valid.
func TestInvalidJournals(t *testing.T) {
	broken := brokenStores()["25 objects"]
	for what, j := range brokenJournals() {
		if got, ok := impl.Head(j); ok || !sameStore(got, impl.Store{}) {
			t.Errorf("%s: Head = %.200v, %t", what, got, ok)
		}
		for _, s := range []impl.Store{{}, j.Base, broken} {
			checkJournalRefused(t, what+": Commit", list(impl.Commit(j, s)))
		}
		for _, keep := range []int{math.MinInt, -1, 0, 1, 200, math.MaxInt} {
			checkJournalRefused(t, what+": Crash", list(impl.Crash(j, keep)))
		}
		checkJournalRefused(t, what+": Snapshot", list(impl.Snapshot(j)))
		for kind := -1; kind <= 6; kind++ {
			if got := impl.CountRegs(j, kind); got != -1 {
				t.Errorf("%s: CountRegs(%d) = %d", what, kind, got)
			}
		}
		if got := impl.Loose(j); got != -1 {
			t.Errorf("%s: Loose = %d", what, got)
		}
	}
}

// checkJournalRefused fails if the results are not the zero value and false.
func checkJournalRefused(t *testing.T, what string, results []any) {
	t.Helper()
	if got := results[0].(impl.Journal); results[1].(bool) || !sameJournal(got, impl.Journal{}) {
		t.Errorf("%s = %.200v, %t", what, got, results[1])
	}
}

// Records behind the length of a slice are none of the journal.
func TestJournalsStayWithinLength(t *testing.T) {
	fill := filledJournal()
	j := safe(journalOf(fill.Base, slices.Clone(fill.Regs)[:3]...), 2)
	checkJournalTold(t, "three of nine records", j)
	more := storeOf(append(headOf(j).Objs, textOf("a"))...)
	more.Roots, more.Reals = headOf(j).Roots, headOf(j).Reals
	got, ok := impl.Commit(j, more)
	if !ok || len(got.Regs) != 4 || got.Safe != 4 || !sameRegs(j.Regs[:9], fill.Regs) {
		t.Errorf("Commit = %v, %t, and behind the length is %v", got, ok, j.Regs[:9])
	}
	if got, ok := impl.Crash(j, 5); !ok || !sameJournal(got, safe(j, 3)) {
		t.Errorf("Crash = %v, %t", got, ok)
	}
	if j.Safe = 4; impl.JournalOk(j) {
		t.Error("a record behind the length is safe")
	}
}

func TestJournalMemory(t *testing.T) {
	random := rand.New(rand.NewSource(87))
	journals := map[string]impl.Journal{}
	for what, j := range validJournals() {
		if len(j.Base.Objs) < 20 && len(j.Regs) < 20 || strings.HasPrefix(what, "200") || strings.HasSuffix(what, ": full") {
			journals[what] = j
		}
	}
	for i := range 20 {
		journals["at random "+strconv.Itoa(i)] = randomJournal(random)
	}
	for what, j := range brokenJournals() {
		for _, some := range []string{"circle of 2", "25 objects", "safe", "201 records", "record 1", "the zero value"} {
			if strings.Contains(what, some) && !strings.Contains(what, "cyclic") {
				journals["not valid: "+what] = j
			}
		}
	}
	stores := []impl.Store{{}, headOf(journalOf(impl.Store{}, eachReg()...)), storeOf(numbered(24)...), brokenStores()["25 objects"]}
	for what, j := range journals {
		for how, f := range map[string]any{"JournalOk": impl.JournalOk, "Head": impl.Head, "Snapshot": impl.Snapshot, "Loose": impl.Loose} {
			checkCall(t, what+": "+how, f, j)
		}
		checkCall(t, what+": CountRegs", impl.CountRegs, j, impl.RgObj)
		for _, keep := range []int{0, 1, 300} {
			checkCall(t, what+": Crash", impl.Crash, j, keep)
		}
		for _, s := range stores {
			checkCall(t, what+": Commit", impl.Commit, j, s)
		}
	}
}

// The parts of an argument may share memory with each other, but those of a result do not.
func TestJournalsOfSharedMemory(t *testing.T) {
	low := textOf("low")
	out := outOf(nameOf(low), "out", program(nameOf(low)))
	out.From, out.Tree.Data, out.Refs = low.Name, low.Name, [][]byte{low.Name}
	with := made(rooted(storeOf(low, out), low), out)
	with.Roots, with.Reals[0].Drv, with.Reals[0].Path, with.Reals[0].Out = out.Refs, low.Name, out.Name, out.Out
	regs := []impl.Reg{objReg(low), objReg(out), madeReg(impl.RgReal, out), nameReg(impl.RgRoot, ""), nameReg(impl.RgUnroot, "")}
	regs[3].Name, regs[4].Name = low.Name, low.Name
	j := safe(journalOf(impl.Store{}, regs...), 1)
	above := safe(journalOf(with, regs...), 2)
	for what, results := range map[string][]any{
		"Apply":             list(impl.Apply(with, objReg(low))),
		"Apply to nothing":  list(impl.Apply(impl.Store{}, objReg(low))),
		"Apply RgReal":      list(impl.Apply(storeOf(low, out), regs[2])),
		"Apply RgRoot":      list(impl.Apply(storeOf(low, out), regs[3])),
		"Apply a misfit":    list(impl.Apply(with, nameReg(impl.RgGone, nameOf(low)))),
		"Changes":           list(impl.Changes(impl.Store{}, with)),
		"Changes back":      list(impl.Changes(with, impl.Store{})),
		"Head":              list(impl.Head(j)),
		"Head above":        list(impl.Head(above)),
		"Commit":            list(impl.Commit(j, with)),
		"Commit above":      list(impl.Commit(above, with)),
		"Commit to nothing": list(impl.Commit(above, impl.Store{})),
		"Commit, refused":   list(impl.Commit(above, storeOf(numbered(24)...))),
		"Crash":             list(impl.Crash(j, 2)),
		"Crash above":       list(impl.Crash(above, 9)),
		"Snapshot":          list(impl.Snapshot(j)),
		"Snapshot above":    list(impl.Snapshot(above)),
	} {
		var values []reflect.Value
		for _, r := range results {
			values = append(values, reflect.ValueOf(r))
		}
		given := []reflect.Value{reflect.ValueOf(j), reflect.ValueOf(above), reflect.ValueOf(with)}
		checkApart(t, what, regionsOf(values), regionsOf(given))
	}
}
