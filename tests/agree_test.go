package tests

import (
	"bytes"
	"math/rand"
	"slices"
	"strconv"
	"testing"

	"loop.example/g00538/impl"
)

// The tests of what promises 1, 2, 4, 7 and 11 say of functions that tell of the
// same value: they agree with each other.

// kindsOf adds the nodes at and below the path to counts, as TreeNames and TreeAt tell of them.
func kindsOf(t *testing.T, tree impl.Tree, path [][]byte, counts map[int]int) {
	t.Helper()
	at, ok := impl.TreeAt(tree, path)
	if !ok {
		t.Fatalf("TreeAt(%v, %q) is false", tree, path)
	}
	counts[at.Kind]++
	size := 1
	for _, name := range impl.TreeNames(at) {
		below := append(slices.Clone(path), name)
		kid, _ := impl.TreeAt(tree, below)
		if direct, ok := impl.TreeAt(at, [][]byte{name}); !ok || !same(direct, kid) {
			t.Fatalf("TreeAt(%v, %q) = %v, %t", at, name, direct, ok)
		}
		size += impl.TreeSize(kid)
		kindsOf(t, tree, below, counts)
	}
	if impl.TreeSize(at) != size {
		t.Fatalf("TreeSize(%v) = %d", at, impl.TreeSize(at))
	}
	for _, name := range words("no.kid a k0 k5 z") {
		_, ok := impl.TreeAt(tree, append(slices.Clone(path), name))
		if ok != slices.ContainsFunc(impl.TreeNames(at), func(b []byte) bool { return bytes.Equal(b, name) }) {
			t.Fatalf("TreeAt(%v, %q) of %q: %t", tree, path, name, ok)
		}
	}
}

func checkTreeAgrees(t *testing.T, tree impl.Tree) {
	t.Helper()
	counts, all := map[int]int{}, 0
	kindsOf(t, tree, nil, counts)
	for kind := -1; kind <= 4; kind++ {
		got := impl.CountKind(tree, kind)
		if all += got; got != counts[kind] {
			t.Fatalf("CountKind(%v, %d) = %d, but there are %d", tree, kind, got, counts[kind])
		}
	}
	if size := impl.TreeSize(tree); all != size || bytes.Count(impl.TreeText(tree), []byte("\n")) != size {
		t.Fatalf("TreeSize(%v) = %d, and all kinds have %d nodes", tree, size, all)
	}
}

func TestTreesAgree(t *testing.T) {
	for _, tree := range validTrees() {
		checkTreeAgrees(t, tree)
	}
	random := rand.New(rand.NewSource(109))
	for range 500 {
		if tree := randomTree(random, 4); impl.TreeOk(tree) {
			checkTreeAgrees(t, tree)
		}
	}
}

func checkStoreAgrees(t *testing.T, s impl.Store) {
	t.Helper()
	names, counts, all := impl.ObjNames(s), map[int]int{}, 0
	if !impl.Sorted(names) {
		t.Fatalf("ObjNames(%v) = %q", s, names)
	}
	for _, name := range names {
		o, ok := impl.Find(s, name)
		if !ok || !bytes.Equal(o.Name, name) || !sameTexts(impl.RefsOf(s, name), o.Refs) {
			t.Fatalf("Find(%v, %q) = %v, %t", s, name, o, ok)
		}
		counts[o.Kind]++
		users := impl.UsersOf(s, name)
		for _, other := range names {
			refers := slices.ContainsFunc(impl.RefsOf(s, other), func(b []byte) bool { return bytes.Equal(b, name) })
			if refers != slices.ContainsFunc(users, func(b []byte) bool { return bytes.Equal(b, other) }) {
				t.Fatalf("%v: UsersOf(%q) = %q, RefsOf(%q) = %q", s, name, users, other, impl.RefsOf(s, other))
			}
		}
		for _, other := range slices.Concat(users, impl.RefsOf(s, name)) {
			if _, ok := impl.Find(s, other); !ok {
				t.Fatalf("%v: no object %q", s, other)
			}
		}
		if !impl.Sorted(users) {
			t.Fatalf("UsersOf(%v, %q) = %q", s, name, users)
		}
	}
	for kind := -1; kind <= 3; kind++ {
		got := impl.CountObjs(s, kind)
		if all += got; got != counts[kind] {
			t.Fatalf("CountObjs(%v, %d) = %d, but there are %d", s, kind, got, counts[kind])
		}
	}
	if all != len(names) || len(names) != len(s.Objs) {
		t.Fatalf("%v: all kinds have %d objects, and there are %d names", s, all, len(names))
	}
}

func TestStoresAgree(t *testing.T) {
	for _, s := range validStores() {
		checkStoreAgrees(t, s)
	}
	random := rand.New(rand.NewSource(110))
	for range 60 {
		checkStoreAgrees(t, randomStore(random))
		s, _ := randomPlans(random)
		checkStoreAgrees(t, s)
	}
}

func checkDrvAgrees(t *testing.T, d impl.Drv) {
	t.Helper()
	all := 0
	for code := impl.OpWrite; code <= impl.OpFail; code++ {
		all += impl.CountOps(d, code)
	}
	if all != len(d.Ops) || impl.CountOps(d, impl.OpWrite-1) != 0 || impl.CountOps(d, impl.OpFail+1) != 0 {
		t.Fatalf("%v: all codes have %d operations", d, all)
	}
	wants := impl.Wants(d)
	if len(wants) != len(d.Srcs)+len(d.Ins) {
		t.Fatalf("Wants(%v) = %q", d, wants)
	}
	for i, name := range d.Srcs {
		if !bytes.Equal(wants[i], name) {
			t.Fatalf("Wants(%v) = %q", d, wants)
		}
	}
	for i, in := range d.Ins {
		if !bytes.Equal(wants[len(d.Srcs)+i], in.Drv) {
			t.Fatalf("Wants(%v) = %q", d, wants)
		}
	}
}

func TestDrvsAgree(t *testing.T) {
	for _, d := range validDrvs() {
		checkDrvAgrees(t, d)
	}
	random := rand.New(rand.NewSource(111))
	for range 500 {
		if d := randomDrv(random); impl.DrvOk(d) {
			checkDrvAgrees(t, d)
		}
	}
}

func checkEngineAgrees(t *testing.T, e impl.Engine) {
	t.Helper()
	all := 0
	for state := impl.GoNew; state <= impl.GoFail; state++ {
		all += impl.CountGoals(e, state)
	}
	if all != len(e.Goals) || impl.CountGoals(e, impl.GoNew-1) != 0 || impl.CountGoals(e, impl.GoFail+1) != 0 {
		t.Fatalf("%v: all states have %d goals", e, all)
	}
	finished := impl.CountGoals(e, impl.GoDone) + impl.CountGoals(e, impl.GoFail)
	if impl.Over(e) != (finished == all) || finished == all && len(impl.Ready(e)) != 0 {
		t.Fatalf("%v: Over is %t, and ready are %v", e, impl.Over(e), impl.Ready(e))
	}
	for i, g := range e.Goals {
		if impl.GoalAt(e, g.Drv) != i {
			t.Fatalf("GoalAt(%v, %q) = %d", e, g.Drv, impl.GoalAt(e, g.Drv))
		}
	}
	if impl.CountGoals(e, impl.GoNew)+impl.CountGoals(e, impl.GoRun) > len(impl.Ready(e)) {
		t.Fatalf("Ready(%v) = %v", e, impl.Ready(e))
	}
}

func TestEnginesAgree(t *testing.T) {
	for _, e := range validEngines() {
		checkEngineAgrees(t, e)
	}
	finished := func(e impl.Engine) impl.Engine {
		for i, g := range e.Goals {
			e = ended(e, i, []int{impl.ErWell, impl.ErDep}[len(g.Job.Args)%2])
		}
		return e
	}
	random := rand.New(rand.NewSource(112))
	for range 100 {
		e := randomEngine(random)
		checkEngineAgrees(t, e)
		checkEngineAgrees(t, finished(e))
		if !impl.Over(finished(e)) {
			t.Fatalf("Over(%v) is false", finished(e))
		}
	}
	for _, b := range inOrder(builds()) {
		e, _ := impl.EngineNew(b.store, []byte(b.top))
		for len(impl.Ready(e)) > 0 {
			checkEngineAgrees(t, e)
			e, _ = impl.Act(e, impl.Ready(e)[0])
		}
		checkEngineAgrees(t, e)
	}
}

func checkJournalAgrees(t *testing.T, what string, j impl.Journal) {
	t.Helper()
	all := 0
	for kind := impl.RgObj; kind <= impl.RgGone; kind++ {
		all += impl.CountRegs(j, kind)
	}
	if all != len(j.Regs) || impl.CountRegs(j, impl.RgObj-1) != 0 || impl.CountRegs(j, impl.RgGone+1) != 0 {
		t.Fatalf("%s: all kinds of %v have %d records", what, j, all)
	}
	left, ok := impl.Crash(j, 0)
	after, told := impl.Do(j, crashCmd(0))
	if lost := len(j.Regs) - len(left.Regs); !ok || lost != impl.Loose(j) || impl.Loose(left) != 0 || !sameJournal(left, after) || !sameTold(told, impl.Told{}) {
		t.Fatalf("%s: a crash removes %d records of %v, and Loose is %d", what, lost, j, impl.Loose(j))
	}
	count := 0
	for kind := impl.RgObj; kind <= impl.RgGone; kind++ {
		count += impl.CountRegs(j, kind) - impl.CountRegs(left, kind)
	}
	if count != impl.Loose(j) {
		t.Fatalf("%s: the kinds of %v have %d records less, and Loose is %d", what, j, count, impl.Loose(j))
	}
}

func TestJournalsAgree(t *testing.T) {
	for what, j := range validJournals() {
		checkJournalAgrees(t, what, j)
		for n := 0; n <= len(j.Regs); n += 3 {
			checkJournalAgrees(t, what+", safe "+strconv.Itoa(n), safe(j, n))
		}
	}
	random := rand.New(rand.NewSource(113))
	for range 60 {
		j := randomJournal(random)
		checkJournalAgrees(t, "at random", j)
		l, _ := randomScript(random, j, 5)
		after, _, _ := impl.Run(j, l)
		checkJournalAgrees(t, "after a script", after)
	}
}
