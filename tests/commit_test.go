package tests

import (
	"math"
	"math/rand"
	"strconv"
	"testing"

	"loop.example/g00538/impl"
)

// The tests of promise 11: what is committed is Safe, and the head is that
// store; a crash leaves a prefix that contains all Safe records.

// checkCommit fails if Commit does not return what the document says for a valid journal and a valid store.
func checkCommit(t *testing.T, what string, j impl.Journal, s impl.Store) (impl.Journal, bool) {
	t.Helper()
	got, ok := impl.Commit(j, s)
	want, wantOk := committed(j, s)
	if ok != wantOk || !sameJournal(got, want) {
		t.Fatalf("%s: Commit(%v, %v) = %v, %t instead of %v, %t", what, j, s, got, ok, want, wantOk)
	}
	if !impl.JournalOk(got) || !sameStore(got.Base, j.Base) || !sameRegs(got.Regs[:len(j.Regs)], j.Regs) {
		t.Fatalf("%s: Commit(%v, %v) = %v, which does not go on from there", what, j, s, got)
	}
	if !ok {
		return got, false
	}
	if head, ok := impl.Head(got); !ok || !sameStore(head, s) || impl.StoreCmp(head, s) != 0 {
		t.Fatalf("%s: the head is %v, %t instead of %v", what, head, ok, s)
	}
	if got.Safe != len(got.Regs) || impl.Loose(got) != 0 {
		t.Fatalf("%s: %d of %d records are safe, and %d are not", what, got.Safe, len(got.Regs), impl.Loose(got))
	}
	if again, ok := impl.Commit(got, s); !ok || !sameJournal(again, got) {
		t.Fatalf("%s: Commit again = %v, %t instead of %v", what, again, ok, got)
	}
	return got, true
}

// checkCrash fails if Crash does not leave a prefix that contains all safe records.
func checkCrash(t *testing.T, what string, j impl.Journal, keep int) impl.Journal {
	t.Helper()
	got, ok := impl.Crash(j, keep)
	if want := crashed(j, keep); !ok || !sameJournal(got, want) {
		t.Fatalf("%s: Crash(%v, %d) = %v, %t instead of %v", what, j, keep, got, ok, want)
	}
	n := len(got.Regs)
	if !impl.JournalOk(got) || n < j.Safe || n > len(j.Regs) || !sameRegs(got.Regs, j.Regs[:n]) || got.Safe != n || !sameStore(got.Base, j.Base) {
		t.Fatalf("%s: Crash(%v, %d) = %v", what, j, keep, got)
	}
	if keep <= 0 && len(j.Regs)-n != impl.Loose(j) {
		t.Fatalf("%s: Crash removes %d records, and Loose is %d", what, len(j.Regs)-n, impl.Loose(j))
	}
	if again, ok := impl.Crash(got, 0); !ok || !sameJournal(again, got) {
		t.Fatalf("%s: what is left does not survive another crash: %v, %t", what, again, ok)
	}
	return got
}

// checkCrashes tries every number of records to keep.
func checkCrashes(t *testing.T, what string, j impl.Journal) {
	t.Helper()
	for keep := -2; keep <= len(j.Regs)-j.Safe+2; keep++ {
		checkCrash(t, what, j, keep)
	}
	for _, keep := range []int{math.MinInt, math.MinInt + 1, -1 << 32, -256, 256, 1 << 32, math.MaxInt - 1, math.MaxInt} {
		checkCrash(t, what, j, keep)
	}
}

// checkNotCommitted fails if Commit does not return the same journal and false.
func checkNotCommitted(t *testing.T, what string, j impl.Journal, s impl.Store) {
	t.Helper()
	if got, ok := checkCommit(t, what, j, s); ok || !sameJournal(got, j) {
		t.Errorf("%s: Commit = %v, %t", what, got, ok)
	}
}

func TestCommitOfStoresOneAfterTheOther(t *testing.T) {
	c, d, outs := chain(5), diamond(), outputs(4)
	stores := []impl.Store{
		storeOf(c[0]),
		storeOf(c...),
		made(rooted(storeOf(c...), c[4], c[1]), c[2]),
		made(rooted(storeOf(append(outs, c...)...), c[1], outs[3]), c[2], outs[0], outs[1], outs[2]),
		rooted(storeOf(append(outs, c[:2]...)...), c[1]),
		rooted(storeOf(append(outs, c[:2]...)...), c[1]),
		rooted(storeOf(d...), d[1], d[3]),
		{},
		made(storeOf(d...), d[3]),
	}
	for _, base := range []impl.Store{{}, storeOf(c[0]), stores[3], rooted(storeOf(numbered(3)...), numbered(3)...)} {
		j := journalOf(base)
		for i, s := range stores {
			before := len(j.Regs)
			more, ok := checkCommit(t, "store "+strconv.Itoa(i), j, s)
			if !ok {
				t.Fatalf("store %d is not committed", i)
			}
			checkCrashes(t, "store "+strconv.Itoa(i), more)
			checkCrashes(t, "store "+strconv.Itoa(i)+", not safe", safe(more, before))
			j = more
		}
	}
}

// A journal whose last records are not safe: a crash may lose them, and a commit makes them safe.
func TestCommitMakesAllSafe(t *testing.T) {
	fill := filledJournal()
	head := headOf(fill)
	for n := range len(fill.Regs) + 1 {
		got, ok := checkCommit(t, "the head", safe(fill, n), head)
		if !ok || !sameJournal(got, safe(fill, len(fill.Regs))) {
			t.Errorf("Commit of the head = %v, %t", got, ok)
		}
		more := rooted(head, head.Objs...)
		got, ok = checkCommit(t, "all are roots", safe(fill, n), more)
		if !ok || len(got.Regs) != len(fill.Regs)+len(head.Objs)-1 {
			t.Errorf("Commit = %v, %t", got, ok)
		}
		checkCrashes(t, "before the commit", safe(fill, n))
		checkCrashes(t, "behind the commit", got)
	}
}

// A commit that is refused makes nothing safe.
func TestCommitRefused(t *testing.T) {
	a, b := textOf("a"), textOf("b")
	full := storeOf(numbered(24)...)
	data := nameOf(a) + nameOf(b)
	for n := range 3 {
		j := safe(journalOf(full, toggling(numbered(1)[0], 2)...), n)
		checkNotCommitted(t, "another object beside 24", j, storeOf(a))
		checkNotCommitted(t, "one of 24 is another one", j, storeOf(append(numbered(23), a)...))
		j = safe(journalOf(storeOf(a, b, textOf(data, nameOf(a))), toggling(a, 2)...), n)
		checkNotCommitted(t, "an object that is not equal", j, storeOf(a, b, textOf(data)))
		checkNotCommitted(t, "an object that is not equal, and more", j, rooted(storeOf(a, b, textOf(data, nameOf(b)), textOf("c")), b))
		j = safe(journalOf(storeOf(b), objReg(textOf("x")), objReg(outOf(zeros, "out", file("x")))), n)
		checkNotCommitted(t, "an output that is not equal", j, storeOf(b, outOf(zeros, "out", file("y"))))
	}
}

func TestCommitAtLimits(t *testing.T) {
	l := outputs(12)
	stores := []impl.Store{{}, storeOf(l[0]), storeOf(l...), made(storeOf(l...), l...), made(rooted(storeOf(l...), l...), l...)}
	for n := 155; n <= 200; n++ {
		// With an even number of records, the head is the store at the beginning.
		a := textOf("a")
		base := journalOf(storeOf(a), toggling(a, n)...)
		for i, s := range stores {
			s.Objs = storeOf(append(s.Objs, a)...).Objs
			more := []int{0, 1, 12, 24, 36}[i] + n%2
			got, ok := checkCommit(t, strconv.Itoa(n)+" records and "+strconv.Itoa(more), safe(base, n/2), s)
			if ok != (n+more <= 200) || ok && len(got.Regs) != n+more {
				t.Errorf("%d records and %d more: %d, %t", n, more, len(got.Regs), ok)
			}
			if !ok && !sameJournal(got, safe(base, n/2)) {
				t.Errorf("%d records and %d more: %v", n, more, got)
			}
		}
	}
	a := textOf("a")
	j := safe(journalOf(storeOf(a), toggling(a, 200)...), 3)
	if got, ok := checkCommit(t, "the head of 200 records", j, storeOf(a)); !ok || got.Safe != 200 {
		t.Errorf("Commit = %v, %t", got, ok)
	}
	checkNotCommitted(t, "one record more than 200", j, rooted(storeOf(a), a))
	checkNotCommitted(t, "more records than 200, which cannot be applied", j, storeOf(numbered(24)...))
}

func TestCommitOfInvalidStores(t *testing.T) {
	for what, s := range brokenStores() {
		for _, j := range []impl.Journal{{}, filledJournal(), journalOf(storeOf(textOf("a")), toggling(textOf("a"), 200)...)} {
			checkJournalRefused(t, what+": Commit", list(impl.Commit(j, s)))
		}
	}
}

func TestCommitsAndCrashesOfEveryJournal(t *testing.T) {
	for what, j := range validJournals() {
		if len(j.Regs) < 100 {
			checkCrashes(t, what, j)
		}
		for _, s := range []impl.Store{{}, j.Base, headOf(j), filledJournal().Base, storeOf(numbered(20)...)} {
			checkCommit(t, what, j, s)
		}
	}
}

func TestCrash(t *testing.T) {
	a := textOf("a")
	for _, n := range []int{0, 1, 2, 7, 199, 200} {
		for _, safeOnes := range []int{0, 1, 2, n / 2, n - 1, n} {
			if safeOnes < 0 || safeOnes > n {
				continue
			}
			j := safe(journalOf(storeOf(a), toggling(a, n)...), safeOnes)
			for _, x := range [][2]int{{math.MinInt, 0}, {-1, 0}, {0, 0}, {1, 1}, {2, 2}, {n - safeOnes - 1, n - safeOnes - 1}, {n - safeOnes, n - safeOnes}, {n - safeOnes + 1, n}, {n, n}, {200, n}, {math.MaxInt - 200, n}, {math.MaxInt, n}} {
				want := safeOnes + max(0, min(x[1], n-safeOnes))
				if got := checkCrash(t, "toggling", j, x[0]); len(got.Regs) != want || got.Safe != want {
					t.Errorf("Crash of %d records, %d of them safe, with keep %d: %d, %d", n, safeOnes, x[0], len(got.Regs), got.Safe)
				}
			}
		}
	}
}

// Commits, crashes and snapshots at random: what was committed last is the head until a later record is kept.
func TestRandomHistories(t *testing.T) {
	random := rand.New(rand.NewSource(88))
	seen := map[string]int{}
	for range 25 {
		j := randomJournal(random)
		for range 12 {
			head := headOf(j)
			switch random.Intn(4) {
			case 0, 1:
				s := randomVariant(random, head)
				more, ok := checkCommit(t, "at random", j, s)
				if j = more; ok {
					seen["committed"]++
				} else {
					seen["refused"]++
				}
				if left := checkCrash(t, "at random", j, 0); ok && !sameJournal(left, j) {
					t.Fatalf("what is committed does not survive: %v", left)
				}
			case 2:
				j = safe(j, random.Intn(len(j.Regs)+1))
				before := len(j.Regs)
				j = checkCrash(t, "at random", j, random.Intn(10)-2)
				seen["lost"] += before - len(j.Regs)
			case 3:
				checkJournalTold(t, "at random", j)
				if random.Intn(3) == 0 {
					j, _ = impl.Snapshot(j)
					seen["snapshot"]++
				}
			}
		}
	}
	if seen["committed"] < 50 || seen["refused"] < 10 || seen["lost"] < 100 || seen["snapshot"] < 10 {
		t.Fatal("too few of one sort:", seen)
	}
}
