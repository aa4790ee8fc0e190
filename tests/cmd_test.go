package tests

import (
	"math"
	"math/rand"
	"strings"
	"testing"

	"loop.example/g00538/impl"
)

// The tests of what a valid command is, on which promise 13 relies.

func TestCmdConstants(t *testing.T) {
	checkConstants(t, []int{impl.MaxScript, impl.CmText, impl.CmTree, impl.CmBuild, impl.CmRoot, impl.CmUnroot, impl.CmGc, impl.CmCrash, impl.CmLook}, 20, 0, 1, 2, 3, 4, 5, 6, 7)
}

func TestCmdOk(t *testing.T) {
	checkOk(t, "CmdOk", impl.CmdOk, validCmd, validCmds(), brokenCmds())
}

// Of what is not zero, a Kind accepts its own fields, and no others.
func TestCmdOkOfEachKind(t *testing.T) {
	for _, kind := range []int{math.MinInt, -256, -2, -1, 0, 1, 2, 3, 4, 5, 6, 7, 8, 9, 255, 256, 257, 1 << 32, math.MaxInt} {
		for fields := range 64 {
			c := impl.Cmd{Kind: kind}
			var has []string
			for i, field := range strings.Fields("Text Tree Name Out Picks Keep") {
				if fields>>i&1 > 0 {
					has = append(has, field)
					fillCmd(&c, field)
				}
			}
			want := kind >= 0 && kind <= 7
			for _, field := range strings.Fields("Text Tree Name Out Picks Keep") {
				is, may, must := hasWord(has, field), want && hasWord(cmdFields(kind), field), field == "Name" || field == "Out"
				want = want && (!is || may) && (is || !may || !must)
			}
			if got := impl.CmdOk(c); got != want {
				t.Errorf("CmdOk of Kind %d with %v: %t", kind, has, got)
			}
		}
	}
}

// fillCmd gives the field a value that is valid where the field is used.
func fillCmd(c *impl.Cmd, field string) {
	switch field {
	case "Text":
		c.Text = []byte("x")
	case "Tree":
		c.Tree = file("x")
	case "Name":
		c.Name = []byte(zeros)
	case "Out":
		c.Out = []byte("out")
	case "Picks":
		c.Picks = []int{0}
	case "Keep":
		c.Keep = 1
	}
}

func hasWord(l []string, word string) bool {
	return strings.Contains(" "+strings.Join(l, " ")+" ", " "+word+" ")
}

// Each single field beside those of the Kind is refused, also within the tree, and also beside empty slices.
func TestCmdOkOfStrayFields(t *testing.T) {
	for i, c := range eachCmd() {
		if !impl.CmdOk(c) || !impl.CmdOk(withEmpty(c)) || c.Kind != i {
			t.Errorf("command %d: CmdOk is false", i)
		}
		fields := strayCmdFields(c.Kind)
		if want := []int{24, 16, 20, 25, 25, 27, 21, 25}[c.Kind]; len(fields) != want {
			t.Fatalf("%d fields of Kind %d", len(fields), c.Kind)
		}
		for what, change := range fields {
			with, empty := c, withEmpty(c)
			change(&with)
			change(&empty)
			if impl.CmdOk(with) || impl.CmdOk(empty) {
				t.Errorf("command %d, %s: CmdOk is true", i, what)
			}
		}
	}
}

func TestCmdOkAtLimits(t *testing.T) {
	for n := 390; n <= 410; n++ {
		if got := impl.CmdOk(textCmd(strings.Repeat("x", n))); got != (n <= impl.MaxText) {
			t.Errorf("CmdOk of %d bytes: %t", n, got)
		}
	}
	for n := 990; n <= 1010; n++ {
		if got := impl.CmdOk(buildCmd(zeros, "out", make([]int, n)...)); got != (n <= 1000) {
			t.Errorf("CmdOk of %d picks: %t", n, got)
		}
	}
	for n := 30; n <= 43; n++ {
		if got := impl.CmdOk(treeCmd(crowd(n))); got != (n <= impl.MaxNodes) {
			t.Errorf("CmdOk of %d nodes: %t", n, got)
		}
	}
	for keep := -5; keep <= 5; keep++ {
		if got := impl.CmdOk(crashCmd(keep)); got != (keep >= 0) {
			t.Errorf("CmdOk of Keep %d: %t", keep, got)
		}
	}
	for n := range 40 {
		if got := impl.CmdOk(lookCmd(strings.Repeat("0", n))); got != (n == 16) {
			t.Errorf("CmdOk of a name of %d bytes: %t", n, got)
		}
		if got := impl.CmdOk(buildCmd(zeros, strings.Repeat("a", n))); got != (n >= 1 && n <= impl.MaxName) {
			t.Errorf("CmdOk of an entry of %d bytes: %t", n, got)
		}
	}
}

func TestCmdOkStaysWithinLength(t *testing.T) {
	c := rootCmd(zeros + "more")
	c.Name = c.Name[:16]
	c.Text, c.Out, c.Picks = []byte("x")[:0], []byte("out")[:0], []int{1}[:0]
	c.Tree.Data, c.Tree.Names, c.Tree.Kids = []byte("x")[:0], words("a")[:0], []impl.Tree{dir("")}[:0]
	if !impl.CmdOk(c) {
		t.Error("what is behind the length counts")
	}
	c.Name = c.Name[:15]
	if impl.CmdOk(c) {
		t.Error("the name goes on behind the length")
	}
	if b := buildCmd(zeros, "out", make([]int, 1001)...); impl.CmdOk(b) {
		t.Error("1001 picks")
	} else if b.Picks = b.Picks[:1000]; !impl.CmdOk(b) {
		t.Error("a pick behind the length counts")
	}
	if b := textCmd(strings.Repeat("x", 401)); impl.CmdOk(b) {
		t.Error("401 bytes")
	} else if b.Text = b.Text[:400]; !impl.CmdOk(b) {
		t.Error("a byte behind the length counts")
	}
}

// Commands in which one field is that of another command.
func TestCmdOkOfRandomCommands(t *testing.T) {
	random := rand.New(rand.NewSource(101))
	seen := map[bool]int{}
	s := stocked(storeOf(numbered(3)...), low(), pair())
	for range 3000 {
		c, other := randomCmd(random, s), randomCmd(random, s)
		if !impl.CmdOk(c) || !validCmd(c) {
			t.Fatalf("CmdOk(%v) is false", c)
		}
		switch random.Intn(7) {
		case 0:
			c.Kind = random.Intn(10) - 1
		case 1:
			c.Text = other.Text
		case 2:
			c.Tree = other.Tree
		case 3:
			c.Name = other.Name
		case 4:
			c.Out = other.Out
		case 5:
			c.Picks = other.Picks
		case 6:
			c.Keep = other.Keep - random.Intn(2)
		}
		want := validCmd(c)
		seen[want]++
		if got := impl.CmdOk(c); got != want {
			t.Fatalf("CmdOk(%v) = %t", c, got)
		}
	}
	if seen[true] < 300 || seen[false] < 300 {
		t.Fatal("too few commands of one sort:", seen)
	}
}
