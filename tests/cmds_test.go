package tests

import (
	"bytes"
	"fmt"
	"math"
	"math/rand"
	"slices"
	"strconv"
	"strings"

	"loop.example/g00538/impl"
)

// The commands and scripts with which the tests of chapter 10 work, and what
// the document says of them, written once more in the plainest way.

func textCmd(data string) impl.Cmd { return impl.Cmd{Kind: impl.CmText, Text: []byte(data)} }

// drvCmd adds a derivation.
func drvCmd(d impl.Drv) impl.Cmd { return textCmd(string(encodeDrv(d))) }

func treeCmd(t impl.Tree) impl.Cmd { return impl.Cmd{Kind: impl.CmTree, Tree: t} }

func buildCmd(drv, out string, picks ...int) impl.Cmd {
	return impl.Cmd{Kind: impl.CmBuild, Name: []byte(drv), Out: []byte(out), Picks: picks}
}

func rootCmd(name string) impl.Cmd { return impl.Cmd{Kind: impl.CmRoot, Name: []byte(name)} }

func unrootCmd(name string) impl.Cmd { return impl.Cmd{Kind: impl.CmUnroot, Name: []byte(name)} }

func gcCmd() impl.Cmd { return impl.Cmd{Kind: impl.CmGc} }

func crashCmd(keep int) impl.Cmd { return impl.Cmd{Kind: impl.CmCrash, Keep: keep} }

func lookCmd(name string) impl.Cmd { return impl.Cmd{Kind: impl.CmLook, Name: []byte(name)} }

// eachCmd has one valid command of each Kind, in their order.
func eachCmd() []impl.Cmd {
	return []impl.Cmd{
		textCmd("a text"), treeCmd(sample()), buildCmd(nameOfDrv(low()), "out", 2, -1), rootCmd(nameOfDrv(low())),
		unrootCmd(nameOfDrv(low())), gcCmd(), crashCmd(3), lookCmd(nameOfDrv(low())),
	}
}

// cmdFields are the fields that the commands of each Kind use.
func cmdFields(kind int) []string {
	return strings.Fields([]string{"Text", "Tree", "Name Out Picks", "Name", "Name", "", "Keep", "Name"}[kind])
}

// withEmpty returns c in which what is nil is an empty slice.
func withEmpty(c impl.Cmd) impl.Cmd {
	for _, b := range []*[]byte{&c.Text, &c.Tree.Data, &c.Name, &c.Out} {
		if *b == nil {
			*b = []byte{}
		}
	}
	if c.Tree.Names == nil {
		c.Tree.Names, c.Tree.Kids = [][]byte{}, []impl.Tree{}
	}
	if c.Picks == nil {
		c.Picks = []int{}
	}
	return c
}

func validCmds() map[string]impl.Cmd {
	m := map[string]impl.Cmd{
		"the zero value": {},
		"all bytes":      textCmd(string(pattern(256))),
		"great picks":    buildCmd(zeros, "out", math.MinInt, math.MaxInt, -1, 0, 1<<62),
		"a long script":  buildCmd(zeros, "a.b-c.d9", make([]int, 1000)...),
	}
	for i, c := range eachCmd() {
		m["command "+strconv.Itoa(i)] = c
		m["command "+strconv.Itoa(i)+", empty slices"] = withEmpty(c)
	}
	for _, n := range []int{0, 1, 127, 128, 399, 400} {
		m[strconv.Itoa(n)+" bytes of Text"] = textCmd(string(pattern(n)))
	}
	for what, t := range validTrees() {
		m["a tree: "+what] = treeCmd(t)
	}
	for _, n := range []int{0, 1, 2, 999, 1000} {
		m[strconv.Itoa(n)+" Picks"] = buildCmd(zeros, "out", make([]int, n)...)
	}
	for _, name := range overlapping() {
		m["a build of "+name] = buildCmd(name, "z")
		m["a root "+name] = rootCmd(name)
		m["no root "+name] = unrootCmd(name)
		m["a look at "+name] = lookCmd(name)
	}
	for _, out := range words("- 0 a z9 a.. aaaaaaaa zzzzzzzz a.b-c.d9") {
		m["an output "+string(out)] = buildCmd(zeros, string(out))
	}
	for _, keep := range []int{0, 1, 2, 199, 200, 201, 256, 1 << 32, math.MaxInt - 1, math.MaxInt} {
		m["Keep "+strconv.Itoa(keep)] = crashCmd(keep)
	}
	return m
}

// brokenCmds are commands that are not valid, each in one way.
func brokenCmds() map[string]impl.Cmd {
	m := map[string]impl.Cmd{}
	for what, t := range brokenTrees() {
		m["a tree: "+what] = treeCmd(t)
	}
	for _, n := range []int{401, 402, 656, 1000, 50001} {
		m[strconv.Itoa(n)+" bytes of Text"] = textCmd(string(pattern(n)))
	}
	for _, n := range []int{1001, 1002, 1256, 100000} {
		m[strconv.Itoa(n)+" Picks"] = buildCmd(zeros, "out", make([]int, n)...)
	}
	for _, s := range noNames {
		m["a build of "+strconv.Quote(s)] = buildCmd(s, "out")
		m["a root "+strconv.Quote(s)] = rootCmd(s)
		m["no root "+strconv.Quote(s)] = unrootCmd(s)
		m["a look at "+strconv.Quote(s)] = lookCmd(s)
	}
	for _, s := range noEntries {
		m["an output "+strconv.Quote(s)] = buildCmd(zeros, s)
	}
	m["Name and Out exchanged"] = buildCmd("out", zeros)
	for _, keep := range []int{-1, -2, -256, -1 << 32, math.MinInt + 1, math.MinInt} {
		m["Keep "+strconv.Itoa(keep)] = crashCmd(keep)
	}
	for i, c := range eachCmd() {
		for what, change := range strayCmdFields(c.Kind) {
			with := c
			change(&with)
			m["command "+strconv.Itoa(i)+", "+what] = with
		}
		for _, kind := range []int{-1, 8, 9, -2, 255, 256, 257, -256, 1 << 32, math.MinInt, math.MaxInt} {
			with := c
			with.Kind = kind
			m["command "+strconv.Itoa(i)+", Kind "+strconv.Itoa(kind)] = with
			m["only Kind "+strconv.Itoa(kind)] = impl.Cmd{Kind: kind}
		}
	}
	return m
}

// strayCmdFields fill a field that must be zero in a command of that Kind.
func strayCmdFields(kind int) map[string]func(c *impl.Cmd) {
	m := map[string]func(c *impl.Cmd){}
	used := cmdFields(kind)
	if !slices.Contains(used, "Text") {
		m["Text"] = func(c *impl.Cmd) { c.Text = []byte("x") }
		m["one zero byte of Text"] = func(c *impl.Cmd) { c.Text = []byte{0} }
		m["401 bytes of Text"] = func(c *impl.Cmd) { c.Text = pattern(401) }
	}
	if !slices.Contains(used, "Tree") {
		m["a tree"] = func(c *impl.Cmd) { c.Tree = sample() }
		m["a file"] = func(c *impl.Cmd) { c.Tree = file("x") }
		m["one zero byte of Data"] = func(c *impl.Cmd) { c.Tree.Data = []byte{0} }
		m["a Kind of the tree"] = func(c *impl.Cmd) { c.Tree.Kind = impl.KdRun }
		m["an empty directory"] = func(c *impl.Cmd) { c.Tree = dir("") }
		m["a negative Kind of the tree"] = func(c *impl.Cmd) { c.Tree.Kind = -1 }
		m["a great Kind of the tree"] = func(c *impl.Cmd) { c.Tree.Kind = 1 << 32 }
		m["Names"] = func(c *impl.Cmd) { c.Tree.Names = words("a") }
		m["an empty name of a kid"] = func(c *impl.Cmd) { c.Tree.Names = [][]byte{nil} }
		m["Kids"] = func(c *impl.Cmd) { c.Tree.Kids = []impl.Tree{{}} }
		m["a cyclic tree"] = func(c *impl.Cmd) { c.Tree = cyclic(1) }
	}
	if !slices.Contains(used, "Name") {
		m["Name"] = func(c *impl.Cmd) { c.Name = []byte(zeros) }
		m["Name that is none"] = func(c *impl.Cmd) { c.Name = []byte{0} }
	}
	if !slices.Contains(used, "Out") {
		m["Out"] = func(c *impl.Cmd) { c.Out = []byte("out") }
		m["Out that is no entry"] = func(c *impl.Cmd) { c.Out = []byte{0} }
	}
	if !slices.Contains(used, "Picks") {
		m["Picks"] = func(c *impl.Cmd) { c.Picks = []int{1} }
		m["a pick of 0"] = func(c *impl.Cmd) { c.Picks = []int{0} }
		m["1001 picks"] = func(c *impl.Cmd) { c.Picks = make([]int, 1001) }
	}
	if !slices.Contains(used, "Keep") {
		for _, keep := range []int{1, -1, 256, 1 << 32, math.MinInt, math.MaxInt} {
			m["Keep "+strconv.Itoa(keep)] = func(c *impl.Cmd) { c.Keep = keep }
		}
	}
	return m
}

// The reference.

func validCmd(c impl.Cmd) bool {
	if c.Kind < 0 || c.Kind > 7 {
		return false
	}
	for field, ok := range map[string][2]bool{ // valid, zero
		"Text":  {len(c.Text) <= 400, len(c.Text) == 0},
		"Tree":  {valid(c.Tree), zero(c.Tree)},
		"Name":  {isName(string(c.Name)), len(c.Name) == 0},
		"Out":   {isEntry(c.Out), len(c.Out) == 0},
		"Picks": {len(c.Picks) <= 1000, len(c.Picks) == 0},
		"Keep":  {c.Keep >= 0, c.Keep == 0},
	} {
		used := slices.Contains(cmdFields(c.Kind), field)
		if used && !ok[0] || !used && !ok[1] {
			return false
		}
	}
	return true
}

func sameTold(a, b impl.Told) bool { return a.Code == b.Code && bytes.Equal(a.Name, b.Name) }

// stand is how things are after a command.
type stand struct {
	journal impl.Journal
	head    impl.Store
	told    impl.Told
	kept    bool // whether the store of the command was committed
}

func standOf(j impl.Journal) stand { return stand{journal: j, head: headOf(j)} }

// done returns what the document says of Do for a valid journal and a valid command.
func done(at stand, c impl.Cmd) stand {
	if c.Kind == impl.CmCrash {
		return standOf(crashed(at.journal, c.Keep))
	}
	s, name, code := commanded(at.head, c)
	j, ok := committedFrom(at.journal, at.head, s)
	if !ok {
		return stand{journal: j, head: at.head, told: impl.Told{Code: 5}}
	}
	return stand{journal: j, head: s, told: impl.Told{Code: code, Name: []byte(name)}, kept: true}
}

// commanded returns the store after a command, and the name and the code that it tells.
func commanded(s impl.Store, c impl.Cmd) (impl.Store, string, int) {
	_, exists := objOf(s, string(c.Name))
	isRoot := hasText(s.Roots, string(c.Name))
	switch c.Kind {
	case 0:
		return added(s, textOf(string(c.Text)))
	case 1:
		return added(s, treeOf(c.Tree))
	case 2:
		end, path, code := realised(s, string(c.Name), string(c.Out), c.Picks)
		return end.Store, path, code
	case 3:
		if !exists {
			return s, "", 3
		}
		s.Roots = texts(sorted(append(strs(s.Roots), string(c.Name)))...)
	case 4:
		if !isRoot {
			return s, "", 3
		}
		s.Roots = slices.DeleteFunc(slices.Clone(s.Roots), func(b []byte) bool { return bytes.Equal(b, c.Name) })
	case 5:
		s, _ = collected(s)
	case 7:
		if !exists {
			return s, "", 3
		}
		return s, string(c.Name), 0
	}
	return s, "", 0
}

// history returns the stands after each of the commands.
func history(j impl.Journal, l []impl.Cmd) []stand {
	var stands []stand
	at := standOf(j)
	for _, c := range l {
		at = done(at, c)
		stands = append(stands, at)
	}
	return stands
}

// storeText returns what the document says of StoreText for a valid store.
func storeText(s impl.Store) string {
	var b strings.Builder
	for _, o := range s.Objs {
		fmt.Fprintf(&b, "%s %s\n", []string{"text", "tree", "output"}[o.Kind], o.Name)
	}
	for _, name := range s.Roots {
		fmt.Fprintf(&b, "root %s\n", name)
	}
	for _, r := range s.Reals {
		fmt.Fprintf(&b, "made %s %s %s\n", r.Drv, r.Out, r.Path)
	}
	return b.String()
}

// Journals for commands.

// journalsAt makes journals whose head is s: with a Base, with records, and with
// both, of which none, some or all are safe.
func journalsAt(s impl.Store) map[string]impl.Journal {
	regs := recordsFor(s)
	half := len(regs) / 2
	base, _ := appliedAll(impl.Store{}, regs[:half])
	return map[string]impl.Journal{
		"a base":                       journalOf(s),
		"records, none of them safe":   journalOf(impl.Store{}, regs...),
		"records, some of them safe":   safe(journalOf(impl.Store{}, regs...), half),
		"records, all of them safe":    safe(journalOf(impl.Store{}, regs...), len(regs)),
		"both, and none of them safe":  journalOf(base, regs[half:]...),
		"both, and some of them safe":  safe(journalOf(base, regs[half:]...), (len(regs)-half)/2),
		"both, and more than the head": safe(journalOf(base, slices.Concat(regs[half:], undone(s))...), len(regs)-half),
	}
}

// undone makes records that change something and take it back, if there is room.
func undone(s impl.Store) []impl.Reg {
	o := textOf("only for a while")
	if len(s.Objs) == 24 {
		return nil
	}
	return []impl.Reg{objReg(o), nameReg(impl.RgRoot, nameOf(o)), nameReg(impl.RgUnroot, nameOf(o)), nameReg(impl.RgGone, nameOf(o))}
}

// Random commands.

// randomCmd makes a valid command that most often has to do with what is in s.
func randomCmd(random *rand.Rand, s impl.Store) impl.Cmd {
	name, root := absent(), absent()
	if len(s.Objs) > 0 && random.Intn(8) > 0 {
		name = nameOf(s.Objs[random.Intn(len(s.Objs))])
	}
	if len(s.Roots) > 0 && random.Intn(4) > 0 {
		root = string(s.Roots[random.Intn(len(s.Roots))])
	}
	switch random.Intn(20) {
	case 0, 1, 2:
		data, _ := randomMentions(random, s.Objs, strconv.Itoa(random.Intn(30)))
		return textCmd(data)
	case 3, 4:
		data, _ := randomMentions(random, s.Objs, strconv.Itoa(random.Intn(30)))
		return treeCmd(randomSplit(random, data))
	case 5, 6, 7:
		return drvCmd(randomWorkshop(random, s, plansOf(s), random.Intn(30)))
	case 8, 9, 10, 11:
		return randomBuildCmd(random, s, name)
	case 12, 13:
		return rootCmd(name)
	case 14:
		return unrootCmd(root)
	case 15:
		return gcCmd()
	case 16, 17:
		return crashCmd([]int{0, 0, 1, 2, 5, 300, math.MaxInt}[random.Intn(7)])
	}
	return lookCmd(name)
}

// randomBuildCmd most often builds a derivation of s.
func randomBuildCmd(random *rand.Rand, s impl.Store, name string) impl.Cmd {
	if plans := plansOf(s); len(plans) > 0 && random.Intn(6) > 0 {
		name = nameOfDrv(plans[random.Intn(len(plans))])
	}
	picks := somePicks(random)
	return buildCmd(name, []string{"out", "out", "out", "dev"}[random.Intn(4)], picks[:min(len(picks), 30)]...)
}

// plansOf returns the derivations of s.
func plansOf(s impl.Store) []impl.Drv {
	var l []impl.Drv
	for _, o := range s.Objs {
		if d, ok := impl.DrvRead(o.Tree.Data); ok && o.Kind == impl.ObText {
			l = append(l, d)
		}
	}
	return l
}

// randomScript makes n commands for j, and returns them with the stands after each of them.
func randomScript(random *rand.Rand, j impl.Journal, n int) ([]impl.Cmd, []stand) {
	var l []impl.Cmd
	var stands []stand
	at := standOf(j)
	for i := range n {
		c := randomCmd(random, at.head)
		// Only before anything is committed does a crash remove what is not safe.
		if i == 0 && random.Intn(4) == 0 {
			c = crashCmd(random.Intn(6))
		}
		at = done(at, c)
		l, stands = append(l, c), append(stands, at)
	}
	return l, stands
}
