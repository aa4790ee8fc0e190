package tests

import (
	"math/rand"
	"regexp"
	"strings"
	"testing"

	"loop.example/g00538/impl"
)

// The tests of promise 3: a filled text mentions the arguments that it names.

// ten returns ten names, the last characters of which tell their indices.
func ten() []string {
	var l []string
	for i := range 10 {
		l = append(l, zeros[:15]+digits[i:i+1])
	}
	return l
}

func checkFill(t *testing.T, b string, args []string, want string) {
	t.Helper()
	if got, ok := impl.Fill([]byte(b), texts(args...)); !ok || string(got) != want {
		t.Errorf("Fill(%q, %q) = %q, %t", b, args, got, ok)
	}
}

func checkNoFill(t *testing.T, b string, args []string) {
	t.Helper()
	if got, ok := impl.Fill([]byte(b), texts(args...)); ok || len(got) != 0 {
		t.Errorf("Fill(%q, %q) = %q, %t", b, args, got, ok)
	}
}

func TestFill(t *testing.T) {
	a, b := named("a"), named("b")
	two := []string{b, a}
	for text, want := range map[string]string{
		"":              "",
		"no name":       "no name",
		"\x00\xff\n01":  "\x00\xff\n01",
		"$0":            b,
		"$1":            a,
		"$0$1":          b + a,
		"$1$0$1":        a + b + a,
		"see $1, $0!":   "see " + a + ", " + b + "!",
		"$01":           b + "1",
		"$10":           a + "0",
		"0$0":           "0" + b,
		"$0\x00$1\xff":  b + "\x00" + a + "\xff",
		"$$":            "$",
		"$$$$":          "$$",
		"$$$$$$":        "$$$",
		"$$0":           "$0",
		"$$$0":          "$" + b,
		"$$$$0":         "$$0",
		"$$$$$1":        "$$" + a,
		"$1$$ $0":       a + "$ " + b,
		"$0$$1":         b + "$1",
		"$0$$$1":        b + "$" + a,
		"a$$b$$c":       "a$b$c",
		"$$5":           "$5",
		"$$x":           "$x",
		"$$ ":           "$ ",
		"/$0/bin/$1.so": "/" + b + "/bin/" + a + ".so",
	} {
		checkFill(t, text, two, want)
	}
	for _, text := range []string{
		"$", "x$", "$$$", "$$$$$", "$0$", "$1$$$", "a$$$",
		"$x", "$ ", "$\x00", "$\xff", "$\n", "$-1", "$+1", "$/", "$:", "$;", "$a", "$#", "$%", "$b0", "$(0)", "$é", "$\xb0", "$\xb9", "$٠",
		"$$$x", "$0$x", "$x$0", "$0 $ 1", "x$y",
		"$2", "$3", "$9", "$0$2", "$2$0", "$$$2", "$20",
	} {
		checkNoFill(t, text, two)
	}
}

func TestFillWithoutArguments(t *testing.T) {
	for _, args := range [][]string{nil, {}} {
		checkFill(t, "", args, "")
		checkFill(t, "x", args, "x")
		checkFill(t, "a$$0", args, "a$0")
		for _, b := range []string{"$0", "$1", "$9", "x$0", "$$$0", "$"} {
			checkNoFill(t, b, args)
		}
	}
	if got, ok := impl.Fill(nil, nil); !ok || len(got) != 0 {
		t.Errorf("Fill(nil, nil) = %q, %t", got, ok)
	}
}

// A byte is a digit only if there is an argument for it, and nothing else is.
func TestFillOfEveryByte(t *testing.T) {
	for c := range 256 {
		for n := range 11 {
			b, args := "<$"+string([]byte{byte(c)})+">", ten()[:n]
			at := c - '0'
			if c == '$' {
				checkFill(t, b, args, "<$>")
			} else if at >= 0 && at < n {
				checkFill(t, b, args, "<"+args[at]+">")
			} else {
				checkNoFill(t, b, args)
			}
		}
	}
}

func TestFillOfArguments(t *testing.T) {
	all := ten()
	checkFill(t, "$9$8$7$6$5$4$3$2$1$0", all, all[9]+all[8]+all[7]+all[6]+all[5]+all[4]+all[3]+all[2]+all[1]+all[0])
	// The arguments need not ascend, nor differ.
	checkFill(t, "$0$1$2", []string{steep, zeros, steep}, steep+zeros+steep)
	eleven := append(all, steep)
	for _, b := range []string{"", "x", "$0", "$9", "$$", "$10", "$"} {
		checkNoFill(t, b, eleven)
		checkNoFill(t, b, append(eleven, eleven...))
	}
	for _, s := range noNames {
		for _, b := range []string{"", "x", "$$", "$0", "$1", "$2"} {
			checkNoFill(t, b, []string{s})
			checkNoFill(t, b, []string{s, zeros})
			checkNoFill(t, b, []string{zeros, s})
			checkNoFill(t, b, []string{zeros, s, steep})
			checkNoFill(t, b, append(ten()[:9], s))
		}
	}
	checkNoFill(t, "x", make([]string, 1000))
}

// An argument that has been put in is not filled again; names have no dollar sign, but digits.
func TestFillIsDoneOnce(t *testing.T) {
	checkFill(t, "$$$0", []string{zeros}, "$"+zeros)
	checkFill(t, "$$$$$0", []string{zeros}, "$$"+zeros)
	checkFill(t, "$0$$$0", []string{zeros}, zeros+"$"+zeros)
}

func TestFillAtLimits(t *testing.T) {
	all := ten()
	for _, size := range []int{impl.MaxText - 1, impl.MaxText} {
		x := strings.Repeat("x", size)
		checkFill(t, x, all, x)
		checkFill(t, x[2:]+"$3", all, x[2:]+all[3])
		checkFill(t, "$$"+x[2:], nil, "$"+x[2:])
		checkNoFill(t, x[1:]+"$", all)
	}
	for _, size := range []int{impl.MaxText + 1, impl.MaxText + 2, 2 * impl.MaxText, 50000} {
		x := strings.Repeat("x", size)
		checkNoFill(t, x, nil)
		checkNoFill(t, x, all)
		checkNoFill(t, x[2:]+"$3", all)
		// What results would be shorter.
		checkNoFill(t, strings.Repeat("$$", size/2)+x[:size%2], all)
	}
	checkFill(t, strings.Repeat("$$", 200), nil, strings.Repeat("$", 200))
	checkFill(t, strings.Repeat("$7", 200), all, strings.Repeat(all[7], 200))
	checkFill(t, strings.Repeat("$7", 25), all, strings.Repeat(all[7], 25))
	checkFill(t, strings.Repeat("$7", 25)+"x", all, strings.Repeat(all[7], 25)+"x")
}

var marks = regexp.MustCompile(`(?s)\$.?`)

// fillOf returns what the document says of Fill for a text that is not too long
// and at most ten names, and the arguments that the text names.
func fillOf(b string, args []string) (string, map[string]bool, bool) {
	ok, mentioned := true, map[string]bool{}
	want := marks.ReplaceAllStringFunc(b, func(m string) string {
		n := strings.Index("0123456789", m[1:])
		if m == "$$" {
			return "$"
		}
		if m == "$" || n < 0 || n >= len(args) {
			ok = false
			return ""
		}
		mentioned[args[n]] = true
		return args[n]
	})
	return want, mentioned, ok
}

func TestFillOfRandomTexts(t *testing.T) {
	random := rand.New(rand.NewSource(34))
	filled, refused := 0, 0
	for range 6000 {
		args := overlapping()[:random.Intn(11)]
		var b strings.Builder
		for range random.Intn(8) {
			b.WriteString([]string{"$0", "$1", "$2", "$4", "$$", "x", "0", "$0", "$$"}[random.Intn(9)])
			if random.Intn(16) == 0 {
				b.WriteString([]string{"$", "$x", "$7", "$9"}[random.Intn(4)])
			}
		}
		want, mentioned, ok := fillOf(b.String(), args)
		if !ok {
			refused++
			checkNoFill(t, b.String(), args)
			continue
		}
		filled++
		checkFill(t, b.String(), args, want)
		checkMentioned(t, b.String(), args, mentioned)
	}
	if filled < 1000 || refused < 1000 {
		t.Fatal("too few of one sort:", filled, refused)
	}
}

func checkMentioned(t *testing.T, b string, args []string, mentioned map[string]bool) {
	t.Helper()
	got, _ := impl.Fill([]byte(b), texts(args...))
	for name := range mentioned {
		if !impl.Mentions(got, []byte(name)) {
			t.Errorf("Fill(%q, %q) = %q, which does not mention %q", b, args, got, name)
		}
	}
}

func TestFillMemory(t *testing.T) {
	for _, b := range []string{"", "x", "$0", "$1$0", "$$", "$", "$2", "x$0y$$z", strings.Repeat("x", 401)} {
		checkCall(t, "Fill", impl.Fill, []byte(b), texts(steep, zeros))
		checkCall(t, "Fill of no name", impl.Fill, []byte(b), texts(steep, "e"))
		checkCall(t, "Fill without arguments", impl.Fill, []byte(b), [][]byte(nil))
	}
}

// Elements behind the length of a slice are no arguments.
func TestFillIgnoresSpareCapacity(t *testing.T) {
	args := texts(ten()...)[:1]
	if got, ok := impl.Fill([]byte("$1"), args); ok || len(got) != 0 {
		t.Errorf("Fill = %q, %t", got, ok)
	}
	if got, ok := impl.Fill([]byte("$0")[:1], args); ok || len(got) != 0 {
		t.Errorf("Fill = %q, %t", got, ok)
	}
}
