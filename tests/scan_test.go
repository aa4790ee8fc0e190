package tests

import (
	"math/rand"
	"slices"
	"strings"
	"testing"

	"loop.example/g00538/impl"
)

// The tests of promise 3: Scan reports the names that occur.

// checkOccurs fails if Mentions, or Scan of the name alone, does not say that name occurs in b, or does not (if occurs is false).
func checkOccurs(t *testing.T, b, name string, occurs bool) {
	t.Helper()
	if got := impl.Mentions([]byte(b), []byte(name)); got != occurs {
		t.Errorf("Mentions(%q, %q) = %t", b, name, got)
	}
	var want [][]byte
	if occurs {
		want = texts(name)
	}
	if got := impl.Scan([]byte(b), texts(name)); !sameTexts(got, want) {
		t.Errorf("Scan(%q, %q) = %q", b, name, got)
	}
}

func TestNamesOccurAnywhere(t *testing.T) {
	for _, name := range append(overlapping(), "zyxwvsrqpnmlkjih") {
		for _, before := range []string{"", "x", "0", name[:15], name[1:], "\x00\xff", strings.Repeat("e", 399)} {
			for _, after := range []string{"", "x", "0", name[:15], name[1:], "\x00\xff", strings.Repeat("e", 50000)} {
				checkOccurs(t, before+name+after, name, true)
			}
		}
	}
}

func TestNamesThatDoNotOccur(t *testing.T) {
	for _, name := range overlapping() {
		for size := range 16 {
			checkOccurs(t, name[:size], name, false)
			checkOccurs(t, name[size+1:], name, false)
			checkOccurs(t, "e"+name[:size]+"e"+name[size:], name, size == 0)
			checkOccurs(t, name[:size]+"e"+name[size+1:], name, false)
			checkOccurs(t, name[:size]+"\x00"+name[size:], name, size == 0)
		}
		checkOccurs(t, strings.ToUpper(named("abc")), named("abc"), false)
	}
	// The last character is missing at the end.
	checkOccurs(t, "see "+steep[:15], steep, false)
	checkOccurs(t, steep[:15]+steep[:15], steep, false)
	checkOccurs(t, strings.Repeat("0", 15), zeros, false)
}

func TestNoNameOccurs(t *testing.T) {
	for _, s := range noNames {
		for _, b := range []string{"", s, s + s, "see " + s + "!", "\n" + s + zeros} {
			if impl.Mentions([]byte(b), []byte(s)) {
				t.Errorf("Mentions(%q, %q)", b, s)
			}
			for _, l := range [][][]byte{texts(s), texts(s, "zzzzzzzzzzzzzzzz"), texts(zeros, s), texts(zeros, s, "zzzzzzzzzzzzzzzz")} {
				if got := impl.Scan([]byte(b), l); len(got) != 0 {
					t.Errorf("Scan(%q, %q) = %q", b, l, got)
				}
			}
		}
	}
	if impl.Mentions(nil, nil) || impl.Mentions([]byte(zeros), nil) || impl.Mentions(nil, []byte(zeros)) {
		t.Error("Mentions of nothing")
	}
}

func TestSorted(t *testing.T) {
	for _, l := range [][][]byte{nil, {}, texts(zeros), texts(steep), texts("zzzzzzzzzzzzzzzz"), texts(zeros, last1), texts(zeros, last1, lastz, swing, head1, swung), texts("0zzzzzzzzzzzzzzz", head1), texts("9zzzzzzzzzzzzzzz", "a000000000000000")} {
		if !impl.Sorted(l) {
			t.Errorf("Sorted(%q) is false", l)
		}
	}
	for _, l := range [][][]byte{
		texts(zeros, zeros), texts(last1, zeros), texts(head1, "0zzzzzzzzzzzzzzz"), texts("a000000000000000", "9zzzzzzzzzzzzzzz"),
		texts(zeros, last1, last1), texts(zeros, zeros, last1), texts(zeros, lastz, last1), texts(last1, zeros, lastz), texts(zeros, last1, zeros),
		{nil}, {nil, nil}, {nil, []byte(zeros)}, {[]byte(zeros), nil},
	} {
		if impl.Sorted(l) {
			t.Errorf("Sorted(%q) is true", l)
		}
	}
	for _, s := range noNames {
		for _, l := range [][][]byte{texts(s), texts(s, "zzzzzzzzzzzzzzzz"), texts(zeros, s), texts(zeros, s, "zzzzzzzzzzzzzzzz")} {
			if impl.Sorted(l) {
				t.Errorf("Sorted(%q) is true", l)
			}
		}
	}
}

func TestScan(t *testing.T) {
	all := texts(named("a"), named("ab"), named("b"))
	a, ab, b := named("a"), named("ab"), named("b")
	for _, c := range []struct {
		b     string
		names [][]byte
		want  [][]byte
	}{
		{"", all, nil},
		{"", nil, nil},
		{a + ab + b, nil, nil},
		{a + ab + b, all, all},
		{b + ab + a, all, all},
		{b + " and " + a, all, texts(a, b)},
		{b + b + b, all, texts(b)},
		{"-" + ab, all, texts(ab)},
		{a + ab[:15], all, texts(a)},
		{a[:15] + ab, all, texts(ab)},
		{a[:15] + "e" + ab, all, texts(ab)},
		{ab, texts(a, b), nil},
		{steep + "hijklmnpq", texts(steep, shift, later), texts(steep, shift, later)},
		{steep + "h", texts(steep, shift, later), texts(steep, shift)},
		{steep, texts(steep, shift, later), texts(steep)},
		{zeros + "z", texts(zeros, last1, lastz), texts(zeros, lastz)},
		{zeros + "1", texts(zeros, last1, lastz), texts(zeros, last1)},
		{lastz, texts(zeros, last1, lastz), texts(lastz)},
		{last1 + zeros[:15], texts(zeros, last1, lastz, head1), texts(last1, head1)},
		{swing + "0", texts(swing, swung), texts(swing, swung)},
		{swung + "1", texts(swing, swung), texts(swing, swung)},
		{swing, texts(swing, swung), texts(swing)},
		// not Sorted
		{a + b, texts(b, a), nil},
		{a + b, texts(a, a), nil},
		{a + b, texts(a, b, b), nil},
		{a + b, texts(a, b, a), nil},
		{a + b, texts(a, b, "e"), nil},
		{a + b, texts("", a, b), nil},
		{a + b, texts(a[:15], b), nil},
		{a + b + "0", texts(a, b+"0"), nil},
		{a + b, texts(a, "b00000000000000E"), nil},
	} {
		if got := impl.Scan([]byte(c.b), c.names); !sameTexts(got, c.want) {
			t.Errorf("Scan(%q, %q) = %q", c.b, c.names, got)
		}
	}
}

func TestScanOfManyNames(t *testing.T) {
	var names []string
	for i := range 30000 {
		names = append(names, string(impl.NameOf('t', []byte{byte(i >> 8), byte(i)})))
	}
	slices.Sort(names)
	var want []string
	var b strings.Builder
	for i := len(names) - 7; i >= 0; i -= 1000 {
		want = append(want, names[i])
		b.WriteString(names[i] + names[i+3][:12])
	}
	slices.Sort(want)
	if got := impl.Scan([]byte(b.String()), texts(names...)); !sameTexts(got, texts(want...)) {
		t.Errorf("Scan reports %d of %d names", len(got), len(want))
	}
	if got := impl.Scan([]byte(strings.Join(names, "")), texts(names...)); !sameTexts(got, texts(names...)) {
		t.Errorf("Scan reports %d of %d names", len(got), len(names))
	}
}

func TestScanOfRandomBytes(t *testing.T) {
	random := rand.New(rand.NewSource(31))
	occurred := 0
	for range 4000 {
		b := randomText(random, overlapping(), random.Intn(8))
		names := randomSorted(random, overlapping())
		var want [][]byte
		for _, name := range names {
			if strings.Contains(b, string(name)) {
				want = append(want, name)
			}
			if got := impl.Mentions([]byte(b), name); got != strings.Contains(b, string(name)) {
				t.Fatalf("Mentions(%q, %q) = %t", b, name, got)
			}
		}
		occurred += len(want)
		if got := impl.Scan([]byte(b), names); !sameTexts(got, want) {
			t.Fatalf("Scan(%q, %q) = %q instead of %q", b, names, got, want)
		}
		random.Shuffle(len(names), func(i, j int) { names[i], names[j] = names[j], names[i] })
		if got := impl.Sorted(names); got != isSorted(names) {
			t.Fatalf("Sorted(%q) = %t", names, got)
		}
		if got := impl.Scan([]byte(b), names); !isSorted(names) && len(got) != 0 {
			t.Fatalf("Scan(%q, %q) = %q", b, names, got)
		}
	}
	if occurred < 1000 {
		t.Fatal("too few names occur:", occurred)
	}
}

func TestScanMemory(t *testing.T) {
	b := []byte("see " + steep + "h " + lastz)
	for _, names := range [][][]byte{nil, texts(zeros), texts(steep), texts(lastz, steep, shift), texts(steep, lastz), texts("e")} {
		checkCall(t, "Scan", impl.Scan, b, names)
		checkCall(t, "Scan of nothing", impl.Scan, []byte{}, names)
		checkCall(t, "Sorted", impl.Sorted, names)
	}
	for _, name := range append(overlapping(), noNames...) {
		checkCall(t, "Mentions", impl.Mentions, b, []byte(name))
	}
}

// What stands in the spare capacity behind the bytes does not belong to them.
func TestScanIgnoresSpareCapacity(t *testing.T) {
	whole := []byte(zeros + steep)
	for size := range 32 {
		b := whole[:size]
		if got := impl.Mentions(b, []byte(steep)); got {
			t.Errorf("Mentions of %d bytes", size)
		}
		if got := impl.Scan(b, texts(steep)); len(got) != 0 {
			t.Errorf("Scan of %d bytes = %q", size, got)
		}
	}
	short := whole[:15]
	if impl.Mentions(whole, short) || impl.Sorted([][]byte{short}) || len(impl.Scan(whole, [][]byte{short})) != 0 {
		t.Error("a name is completed by the bytes behind it")
	}
	names := texts(zeros, steep)[:1]
	if got := impl.Scan(whole, names); !sameTexts(got, texts(zeros)) {
		t.Errorf("Scan = %q", got)
	}
}
