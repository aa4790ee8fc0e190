package tests

import (
	"bytes"
	"math"
	"math/rand"
	"slices"
	"strings"
	"testing"

	"loop.example/g00538/impl"
)

// Promise 1 for derivations: which are valid, and how they are encoded.

func TestDrvOk(t *testing.T) {
	for what, d := range validDrvs() {
		if !impl.DrvOk(d) || !validDrv(d) {
			t.Errorf("%s: DrvOk of what is encoded as %q is false", what, encodeDrv(d))
		}
	}
	for what, d := range brokenDrvs() {
		if impl.DrvOk(d) || validDrv(d) {
			t.Errorf("%s: DrvOk of what is encoded as %.500q is true", what, encodeDrv(d))
		}
	}
}

// Each of these is valid by the counts alone.
func TestDrvOkOfEachCount(t *testing.T) {
	for n := range 6 {
		d := impl.Drv{Srcs: someNames(n), Outs: words("out")}
		if ok := impl.DrvOk(d); ok != (n <= 3) {
			t.Errorf("%d sources: %t", n, ok)
		}
	}
	for n := range 5 {
		d := impl.Drv{Ins: some(n), Outs: words("out")}
		if ok := impl.DrvOk(d); ok != (n <= 3) {
			t.Errorf("%d inputs: %t", n, ok)
		}
	}
	for n, outs := range []string{"", "a", "a b", "a b c", "a b c d"} {
		d := impl.Drv{Outs: words(outs)}
		if ok := impl.DrvOk(d); ok != (n == 1 || n == 2) {
			t.Errorf("%d outputs: %t", n, ok)
		}
	}
	for n := range 300 {
		d := doing(slices.Repeat([]impl.Op{failOp()}, n)...)
		if ok := impl.DrvOk(d); ok != (n <= 8) {
			t.Errorf("%d operations: %t", n, ok)
		}
	}
}

func TestDrvOkOfEachSize(t *testing.T) {
	for what, d := range map[string]impl.Drv{"small": doing(), "with sources": {Srcs: someNames(3), Outs: words("a aaaaaaaa")}, "with inputs": {Ins: some(3), Outs: words("out")}, "the sample": sampleDrv()} {
		for n := 300; n <= 430; n++ {
			d := filled(d, n)
			code, ok := impl.DrvBytes(d)
			if len(encodeDrv(d)) != n || len(d.Ops) > 8 || ok != (n <= 400) || impl.DrvOk(d) != ok || ok != (len(code) == n) {
				t.Errorf("%s: DrvBytes of %d bytes: %d bytes, %t", what, n, len(code), ok)
			}
		}
	}
}

// The operations are checked for the number of Outs.
func TestDrvOkOfTheNumberOfOutputs(t *testing.T) {
	for _, o := range []impl.Op{writeOp(1, "a", "x"), copyOp(1, "a", 0)} {
		if impl.DrvOk(doing(o)) || !impl.DrvOk(impl.Drv{Outs: words("a b"), Ops: []impl.Op{o}}) {
			t.Errorf("an operation of the second output: %v", o)
		}
	}
	for _, o := range []impl.Op{writeOp(2, "a", "x"), copyOp(2, "a", 0)} {
		if impl.DrvOk(impl.Drv{Outs: words("a b"), Ops: []impl.Op{o}}) {
			t.Errorf("an operation of a third output: %v", o)
		}
	}
}

func TestDrvOkOfInputsOfOneDerivation(t *testing.T) {
	in := func(drv, out string) impl.In { return impl.In{Drv: []byte(drv), Out: []byte(out)} }
	for _, c := range []struct {
		ins  []impl.In
		want bool
	}{
		{[]impl.In{in(zeros, "a"), in(zeros, "b")}, true}, {[]impl.In{in(zeros, "b"), in(zeros, "a")}, false}, {[]impl.In{in(zeros, "a"), in(zeros, "a")}, false},
		{[]impl.In{in(zeros, "b"), in(last1, "a")}, true}, {[]impl.In{in(last1, "a"), in(zeros, "b")}, false}, {[]impl.In{in(zeros, "a"), in(last1, "a")}, true},
		{[]impl.In{in(zeros, "a"), in(zeros, "aa"), in(zeros, "ab")}, true}, {[]impl.In{in(zeros, "aa"), in(zeros, "a")}, false},
		{[]impl.In{in(zeros, "z"), in(last1, "m"), in(steep, "a")}, true}, {[]impl.In{in(zeros, "a"), in(steep, "b"), in(last1, "c")}, false},
		{[]impl.In{in(zeros, "a"), in(last1, "b"), in(last1, "a")}, false}, {[]impl.In{in(zeros, "a"), in(last1, "a"), in(zeros, "b")}, false},
	} {
		d := impl.Drv{Ins: c.ins, Outs: words("out")}
		if got := impl.DrvOk(d); got != c.want || validDrv(d) != c.want {
			t.Errorf("DrvOk(%v) = %t", d, got)
		}
	}
}

func TestDrvOkOfChangedDerivations(t *testing.T) {
	random := rand.New(rand.NewSource(51))
	seen := map[bool]int{}
	for range 20000 {
		d, other := randomDrv(random), randomDrv(random)
		d = changedDrv(d, func(d *impl.Drv) { changeDrv(random, d, other) })
		want := validDrv(d)
		seen[want]++
		code, ok := impl.DrvBytes(d)
		if ok != want || impl.DrvOk(d) != want || want && !bytes.Equal(code, encodeDrv(d)) || !want && len(code) > 0 {
			t.Fatalf("DrvBytes(%v) = %q, %t", d, code, ok)
		}
	}
	if seen[true] < 5000 || seen[false] < 5000 {
		t.Fatal("too few derivations of one sort:", seen)
	}
}

// changeDrv makes one change by which d may remain valid.
func changeDrv(random *rand.Rand, d *impl.Drv, other impl.Drv) {
	switch random.Intn(10) {
	case 0:
		d.Srcs = append(d.Srcs, other.Srcs...)
	case 1:
		d.Ins = append(d.Ins, other.Ins...)
	case 2:
		d.Outs = append(d.Outs, other.Outs...)
	case 3:
		d.Ops = append(d.Ops, other.Ops...)
	case 4:
		d.Outs = d.Outs[:random.Intn(len(d.Outs)+1)]
	case 5:
		random.Shuffle(len(d.Srcs), func(i, j int) { d.Srcs[i], d.Srcs[j] = d.Srcs[j], d.Srcs[i] })
	case 6:
		random.Shuffle(len(d.Ins), func(i, j int) { d.Ins[i], d.Ins[j] = d.Ins[j], d.Ins[i] })
	case 7:
		random.Shuffle(len(d.Outs), func(i, j int) { d.Outs[i], d.Outs[j] = d.Outs[j], d.Outs[i] })
	case 8:
		random.Shuffle(len(d.Ops), func(i, j int) { d.Ops[i], d.Ops[j] = d.Ops[j], d.Ops[i] })
	case 9:
		for i := range d.Ops {
			changeOp(random, &d.Ops[i])
		}
	}
}

func changeOp(random *rand.Rand, o *impl.Op) {
	if random.Intn(3) > 0 {
		return
	}
	switch random.Intn(5) {
	case 0:
		o.Code = random.Intn(7) - 1
	case 1:
		o.Out = random.Intn(4) - 1
	case 2:
		o.Arg = random.Intn(12) - 1
	case 3:
		o.Name = []byte([]string{"", "a", ".a", "aaaaaaaaa"}[random.Intn(4)])
	case 4:
		o.Text = pattern([]int{0, 1, 100, 101}[random.Intn(4)])
	}
}

func TestDrvBytes(t *testing.T) {
	hundred := strings.Repeat("q", 100)
	in := []impl.In{{Drv: []byte(zeros), Out: []byte("lib")}, {Drv: []byte(steep), Out: []byte("a")}}
	for _, c := range []struct {
		d    impl.Drv
		want string
	}{
		{impl.Drv{Outs: words("out")}, "D\x00\x00\x01\x00" + "\x03out"},
		{impl.Drv{Outs: words("a bb")}, "D\x00\x00\x02\x00" + "\x01a\x02bb"},
		{impl.Drv{Srcs: texts(zeros, steep), Outs: words("a")}, "D\x02\x00\x01\x00" + zeros + steep + "\x01a"},
		{impl.Drv{Ins: in, Outs: words("a")}, "D\x00\x02\x01\x00" + zeros + "\x03lib" + steep + "\x01a" + "\x01a"},
		{doing(writeOp(0, "a", "x")), "D\x00\x00\x01\x01\x03out" + "\x00\x00\x00\x01a\x01x"},
		{doing(copyOp(0, "bc", 9)), "D\x00\x00\x01\x01\x03out" + "\x01\x00\x09\x02bc\x00"},
		{doing(emitOp("$0")), "D\x00\x00\x01\x01\x03out" + "\x02\x00\x00\x00\x02$0"},
		{doing(buildOp("d", 3)), "D\x00\x00\x01\x01\x03out" + "\x03\x00\x03\x01d\x00"},
		{doing(failOp()), "D\x00\x00\x01\x01\x03out" + "\x04\x00\x00\x00\x00"},
		{doing(failOp(), emitOp(hundred)), "D\x00\x00\x01\x02\x03out" + "\x04\x00\x00\x00\x00" + "\x02\x00\x00\x00\x64" + hundred},
		{impl.Drv{Srcs: texts(last1), Ins: in[1:], Outs: words("a b"), Ops: []impl.Op{copyOp(1, "c", 1), writeOp(1, "d", "")}},
			"D\x01\x01\x02\x02" + last1 + steep + "\x01a" + "\x01a\x01b" + "\x01\x01\x01\x01c\x00" + "\x00\x01\x00\x01d\x00"},
	} {
		if got, ok := impl.DrvBytes(c.d); !ok || string(got) != c.want {
			t.Errorf("DrvBytes(%v) = %q, %t", c.d, got, ok)
		}
		if got, ok := impl.DrvRead([]byte(c.want)); !ok || !sameDrv(got, c.d) {
			t.Errorf("DrvRead(%q) = %v, %t", c.want, got, ok)
		}
	}
	for what, d := range validDrvs() {
		if got, ok := impl.DrvBytes(d); !ok || !bytes.Equal(got, encodeDrv(d)) {
			t.Errorf("%s: DrvBytes = %q, %t", what, got, ok)
		}
	}
	for what, d := range brokenDrvs() {
		if got, ok := impl.DrvBytes(d); ok || len(got) > 0 {
			t.Errorf("%s: DrvBytes = %q, %t", what, got, ok)
		}
	}
}

func TestDrvName(t *testing.T) {
	for what, d := range validDrvs() {
		got, ok := impl.DrvName(d)
		if want := impl.NameOf('t', encodeDrv(d)); !ok || !bytes.Equal(got, want) || string(got) != nameFor('t', string(encodeDrv(d))) {
			t.Errorf("%s: DrvName = %q, %t instead of %q", what, got, ok, want)
		}
		// The object that holds the encoding has the same name.
		if _, name, code := impl.AddText(impl.Store{}, encodeDrv(d)); code != impl.StWell || !bytes.Equal(got, name) {
			t.Errorf("%s: DrvName = %q, but its text is %q", what, got, name)
		}
	}
	for what, d := range brokenDrvs() {
		if got, ok := impl.DrvName(d); ok || len(got) > 0 {
			t.Errorf("%s: DrvName = %q, %t", what, got, ok)
		}
	}
}

func TestOutName(t *testing.T) {
	for _, drv := range append(overlapping(), drvName(0)) {
		for _, out := range []string{"a", "-", "0", "out", "a.b-c", "aaaaaaaa", "z9-.....", "a."} {
			got, ok := impl.OutName([]byte(drv), []byte(out))
			want := impl.NameOf('o', impl.PutText([]byte(drv), []byte(out)))
			if !ok || !bytes.Equal(got, want) || string(got) != nameFor('o', drv+string(rune(len(out)))+out) {
				t.Errorf("OutName(%q, %q) = %q, %t instead of %q", drv, out, got, ok, want)
			}
		}
		for _, out := range noEntries {
			checkNoOutName(t, drv, out)
		}
	}
	for _, drv := range noNames {
		checkNoOutName(t, drv, "out")
		checkNoOutName(t, drv, "")
	}
	for what, s := range validStores() {
		for _, o := range s.Objs {
			if name, ok := impl.OutName(o.From, o.Out); ok != (o.Kind == impl.ObOut) || ok && !bytes.Equal(name, o.Name) {
				t.Errorf("%s: OutName(%q, %q) = %q, %t", what, o.From, o.Out, name, ok)
			}
		}
	}
}

func checkNoOutName(t *testing.T, drv, out string) {
	t.Helper()
	if got, ok := impl.OutName([]byte(drv), []byte(out)); ok || len(got) > 0 {
		t.Errorf("OutName(%q, %q) = %q, %t", drv, out, got, ok)
	}
}

func TestCountOps(t *testing.T) {
	d := doing(failOp(), emitOp("a"), writeOp(0, "a", ""), emitOp("b"), buildOp("a", 0), emitOp("c"))
	for code, want := range []int{1, 0, 3, 1, 1, 0, 0} {
		if got := impl.CountOps(d, code); got != want {
			t.Errorf("CountOps(%v, %d) = %d", d, code, got)
		}
	}
	random := rand.New(rand.NewSource(52))
	for range 2000 {
		if d := randomDrv(random); validDrv(d) {
			checkCounts(t, "a random derivation", d)
		}
	}
	for what, d := range validDrvs() {
		checkCounts(t, what, d)
	}
	for what, d := range brokenDrvs() {
		for code := -1; code <= 5; code++ {
			if got := impl.CountOps(d, code); got != -1 {
				t.Errorf("%s: CountOps of %d = %d", what, code, got)
			}
		}
	}
}

// checkCounts fails if the operations of all Codes are not all operations.
func checkCounts(t *testing.T, what string, d impl.Drv) {
	t.Helper()
	sum := 0
	for code := range 5 {
		got, want := impl.CountOps(d, code), 0
		for _, o := range d.Ops {
			if o.Code == code {
				want++
			}
		}
		if got != want {
			t.Errorf("%s: CountOps of %d = %d", what, code, got)
		}
		sum += got
	}
	if sum != len(d.Ops) {
		t.Errorf("%s: %d operations of all Codes", what, sum)
	}
	for _, code := range []int{math.MinInt, -256, -1, 5, 6, 255, 256, 260, 1 << 32, math.MaxInt} {
		if got := impl.CountOps(d, code); got != 0 {
			t.Errorf("%s: CountOps of %d = %d", what, code, got)
		}
	}
}

func TestWants(t *testing.T) {
	in := func(drv, out string) impl.In { return impl.In{Drv: []byte(drv), Out: []byte(out)} }
	for _, c := range []struct {
		srcs []string
		ins  []impl.In
		want []string
	}{
		{nil, nil, nil},
		{[]string{steep}, nil, []string{steep}},
		{[]string{steep, zeros}, nil, nil},
		{[]string{zeros, last1, steep}, nil, []string{zeros, last1, steep}},
		{nil, []impl.In{in(steep, "a")}, []string{steep}},
		{nil, []impl.In{in(zeros, "a"), in(zeros, "b"), in(steep, "a")}, []string{zeros, zeros, steep}},
		{[]string{steep}, []impl.In{in(zeros, "a")}, []string{steep, zeros}},
		{[]string{zeros, steep}, []impl.In{in(zeros, "a"), in(last1, "a"), in(steep, "a")}, []string{zeros, steep, zeros, last1, steep}},
	} {
		d := impl.Drv{Srcs: texts(c.srcs...), Ins: c.ins, Outs: words("out")}
		if got := impl.Wants(d); !sameTexts(got, texts(c.want...)) {
			t.Errorf("Wants(%v) = %q", d, got)
		}
	}
	for what, d := range validDrvs() {
		var want []string
		for _, name := range d.Srcs {
			want = append(want, string(name))
		}
		for _, i := range d.Ins {
			want = append(want, string(i.Drv))
		}
		if got := impl.Wants(d); !sameTexts(got, texts(want...)) {
			t.Errorf("%s: Wants = %q instead of %q", what, got, want)
		}
	}
	for what, d := range brokenDrvs() {
		if got := impl.Wants(d); len(got) > 0 {
			t.Errorf("%s: Wants = %q", what, got)
		}
	}
}

func TestDrvOkStaysWithinLength(t *testing.T) {
	all := spare(sampleDrv())
	if !impl.DrvOk(all) {
		t.Error("what is behind the length counts")
	}
	all.Ops = all.Ops[:0]
	if got, ok := impl.DrvBytes(all); !ok || !bytes.Equal(got, encodeDrv(impl.Drv{Srcs: someNames(2), Ins: some(3), Outs: words("dev out")})) {
		t.Error("what is behind the length is encoded")
	}
}

// spare returns d with broken elements behind each of its lists.
func spare(d impl.Drv) impl.Drv {
	d.Srcs = append(slices.Clone(d.Srcs), nil)[:len(d.Srcs)]
	d.Ins = append(slices.Clone(d.Ins), impl.In{})[:len(d.Ins)]
	d.Outs = append(slices.Clone(d.Outs), nil)[:len(d.Outs)]
	d.Ops = append(slices.Clone(d.Ops), impl.Op{Code: -1})[:len(d.Ops)]
	return d
}

func TestDrvMemory(t *testing.T) {
	check := func(what string, d impl.Drv) {
		checkCall(t, what+": DrvOk", impl.DrvOk, d)
		checkCall(t, what+": DrvBytes", impl.DrvBytes, d)
		checkCall(t, what+": DrvName", impl.DrvName, d)
		checkCall(t, what+": CountOps", impl.CountOps, d, impl.OpEmit)
		checkCall(t, what+": Wants", impl.Wants, d)
	}
	for what, d := range validDrvs() {
		check(what, d)
	}
	for what, d := range brokenDrvs() {
		check(what, d)
	}
	for _, drv := range []string{zeros, "", noNames[3]} {
		for _, out := range []string{"out", "", "aaaaaaaaa"} {
			checkCall(t, "OutName", impl.OutName, []byte(drv), []byte(out))
		}
	}
}
