package tests

import (
	"bytes"
	"fmt"
	"math"
	"math/rand"
	"slices"
	"strconv"
	"strings"

	"loop.example/g00538/impl"
)

// The operations and derivations with which the tests of chapter 5 work, and
// what the document says of them, written once more in the plainest way.

func writeOp(out int, name, text string) impl.Op {
	return impl.Op{Code: impl.OpWrite, Out: out, Name: []byte(name), Text: []byte(text)}
}

func copyOp(out int, name string, arg int) impl.Op {
	return impl.Op{Code: impl.OpCopy, Out: out, Name: []byte(name), Arg: arg}
}

func emitOp(text string) impl.Op { return impl.Op{Code: impl.OpEmit, Text: []byte(text)} }

func buildOp(name string, arg int) impl.Op {
	return impl.Op{Code: impl.OpBuild, Name: []byte(name), Arg: arg}
}

func failOp() impl.Op { return impl.Op{Code: impl.OpFail} }

// eachOp has one operation of each Code.
func eachOp() []impl.Op {
	return []impl.Op{writeOp(0, "a", "x"), copyOp(0, "b", 1), emitOp("y"), buildOp("c", 2), failOp()}
}

// doing makes a derivation with one output.
func doing(ops ...impl.Op) impl.Drv { return impl.Drv{Outs: words("out"), Ops: ops} }

// some makes n inputs: the first two are of one derivation.
func some(n int) []impl.In {
	l := []impl.In{{Drv: []byte(zeros), Out: []byte("dev")}, {Drv: []byte(zeros), Out: []byte("out")}}
	for _, name := range someNames(3)[1:] {
		l = append(l, impl.In{Drv: name, Out: []byte("a")})
	}
	return l[:n]
}

// someNames returns the first n names of an ascending list.
func someNames(n int) [][]byte {
	return texts(sorted([]string{zeros, drvName(0), drvName(1), drvName(2), drvName(3)})...)[:n]
}

// sampleDrv has all that a derivation can have.
func sampleDrv() impl.Drv {
	return impl.Drv{Srcs: someNames(2), Ins: some(3), Outs: words("dev out"), Ops: eachOp()}
}

func show(o impl.Op) string {
	return fmt.Sprintf("{%d %d %.20q %.20q %d}", o.Code, o.Out, o.Name, o.Text, o.Arg)
}

// filled adds operations to d, so that its encoding has n bytes.
func filled(d impl.Drv, n int) impl.Drv {
	d.Ops = slices.Clone(d.Ops)
	for left := n - len(encodeDrv(d)); left > 0; {
		// An operation that writes a text has 5 bytes without it, and leaves enough for another one.
		size := min(left, 105)
		if rest := left - size; rest > 0 && rest < 5 {
			size -= 5
		}
		d.Ops = append(d.Ops, emitOp(string(pattern(size-5))))
		left -= size
	}
	return d
}

func validDrvs() map[string]impl.Drv {
	all := string(pattern(256))
	m := map[string]impl.Drv{
		"only an output":               doing(),
		"empty slices":                 {Srcs: [][]byte{}, Ins: []impl.In{}, Outs: words("out"), Ops: []impl.Op{}},
		"empty fields":                 doing(impl.Op{Code: impl.OpFail, Name: []byte{}, Text: []byte{}}, impl.Op{Code: impl.OpBuild, Name: []byte("a"), Text: []byte{}}),
		"the sample":                   sampleDrv(),
		"two outputs":                  {Outs: words("dev out")},
		"the first output is a prefix": {Outs: words("a aa")},
		"the shortest outputs":         {Outs: words("- a"), Ops: []impl.Op{writeOp(0, "-", ""), writeOp(1, "0", "")}},
		"the longest outputs":          {Outs: words("aaaaaaaa zzzzzzz9"), Ops: []impl.Op{writeOp(1, "a.b-c.d9", "")}},
		"the same name in both":        {Srcs: someNames(3), Ins: some(3)[1:], Outs: words("out")},
		"all bytes in texts":           doing(emitOp(all[:100]), emitOp(all[100:200]), emitOp(all[200:])),
		"the greatest texts":           doing(writeOp(0, "a", all[:100]), emitOp(all[:100])),
		"the greatest arguments":       doing(copyOp(0, "a", 9), buildOp("b", 9), copyOp(0, "a", 0), buildOp("b", 0)),
		"the second output":            {Outs: words("dev out"), Ops: []impl.Op{writeOp(1, "a", ""), copyOp(1, "b", 3)}},
		"the same operation again":     doing(slices.Repeat([]impl.Op{writeOp(0, "a", "x")}, 8)...),
		"all that is possible":         {Srcs: someNames(3), Ins: some(3), Outs: words("dev out"), Ops: slices.Repeat([]impl.Op{copyOp(1, "a", 9)}, 8)},
		"inputs of one derivation":     {Ins: []impl.In{{Drv: []byte(steep), Out: []byte("a")}, {Drv: []byte(steep), Out: []byte("aa")}, {Drv: []byte(steep), Out: []byte("b")}}, Outs: words("out")},
		"inputs of three derivations":  {Ins: []impl.In{{Drv: someNames(3)[0], Out: []byte("c")}, {Drv: someNames(3)[1], Out: []byte("b")}, {Drv: someNames(3)[2], Out: []byte("a")}}, Outs: words("out")},
	}
	for n := range 4 {
		m[strconv.Itoa(n)+" sources"] = impl.Drv{Srcs: someNames(n), Outs: words("out")}
		m[strconv.Itoa(n)+" inputs"] = impl.Drv{Ins: some(n), Outs: words("out")}
	}
	for n := range 9 {
		m[strconv.Itoa(n)+" operations"] = doing(slices.Repeat([]impl.Op{failOp()}, n)...)
	}
	for _, o := range eachOp() {
		m["operation "+strconv.Itoa(o.Code)] = doing(o)
	}
	for _, n := range []int{127, 128, 399, 400} {
		m[strconv.Itoa(n)+" bytes"] = filled(doing(), n)
	}
	for what, d := range map[string]impl.Drv{"operations": doing(eachOp()[:4]...), "two outputs": {Outs: words("dev out")}, "the sample": sampleDrv()} {
		m["400 bytes, "+what] = filled(d, 400)
	}
	return m
}

// changedDrv returns d after a change of its own lists.
func changedDrv(d impl.Drv, change func(d *impl.Drv)) impl.Drv {
	d.Srcs, d.Ins, d.Outs, d.Ops = slices.Clone(d.Srcs), slices.Clone(d.Ins), slices.Clone(d.Outs), slices.Clone(d.Ops)
	change(&d)
	return d
}

// brokenDrvs are derivations that are not valid, each in one way.
func brokenDrvs() map[string]impl.Drv {
	m := map[string]impl.Drv{"the zero value": {}, "only inputs": {Srcs: someNames(2), Ins: some(2)}}
	for what, change := range changesOfDrvs() {
		m[what] = changedDrv(doing(), change)
		m[what+", in the sample"] = changedDrv(sampleDrv(), change)
	}
	for what, o := range brokenOps() {
		m[what] = doing(o)
		m[what+", the last one"] = doing(append(eachOp(), o)...)
		m[what+", the first one"] = impl.Drv{Srcs: someNames(1), Outs: words("dev out"), Ops: []impl.Op{o, failOp()}}
	}
	for n := 401; n <= 410; n++ {
		m[strconv.Itoa(n)+" bytes"] = filled(doing(), n)
		m[strconv.Itoa(n)+" bytes, the sample"] = filled(sampleDrv(), n)
	}
	m["many bytes"] = impl.Drv{Srcs: someNames(3), Ins: some(3), Outs: words("aaaaaaaa bbbbbbbb"), Ops: slices.Repeat([]impl.Op{writeOp(1, "aaaaaaaa", string(pattern(100)))}, 8)}
	m["an operation without an output"] = impl.Drv{Ops: []impl.Op{writeOp(0, "a", "")}}
	return m
}

// changesOfDrvs make a derivation not valid.
func changesOfDrvs() map[string]func(d *impl.Drv) {
	m := map[string]func(d *impl.Drv){
		"four sources":            func(d *impl.Drv) { d.Srcs = someNames(4) },
		"many sources":            func(d *impl.Drv) { d.Srcs = namesOf(numbered(300)...) },
		"four inputs":             func(d *impl.Drv) { d.Ins = some(4) },
		"many inputs":             func(d *impl.Drv) { d.Ins = slices.Repeat(some(1), 256) },
		"three outputs":           func(d *impl.Drv) { d.Outs = words("dev lib out") },
		"many outputs":            func(d *impl.Drv) { d.Outs = slices.Repeat(words("a"), 257) },
		"no outputs":              func(d *impl.Drv) { d.Outs = nil },
		"no outputs, empty":       func(d *impl.Drv) { d.Outs = [][]byte{} },
		"nine operations":         func(d *impl.Drv) { d.Ops = slices.Repeat([]impl.Op{failOp()}, 9) },
		"many operations":         func(d *impl.Drv) { d.Ops = slices.Repeat([]impl.Op{failOp()}, 256) },
		"sources out of order":    func(d *impl.Drv) { s := someNames(3); d.Srcs = [][]byte{s[0], s[2], s[1]} },
		"sources descending":      func(d *impl.Drv) { s := someNames(2); d.Srcs = [][]byte{s[1], s[0]} },
		"a source twice":          func(d *impl.Drv) { s := someNames(2); d.Srcs = [][]byte{s[0], s[1], s[1]} },
		"inputs out of order":     func(d *impl.Drv) { i := some(4); d.Ins = []impl.In{i[0], i[3], i[2]} },
		"inputs descending":       func(d *impl.Drv) { i := some(3); d.Ins = []impl.In{i[2], i[0]} },
		"inputs of one, in order": func(d *impl.Drv) { i := some(3); d.Ins = []impl.In{i[1], i[0], i[2]} },
		"an input twice":          func(d *impl.Drv) { i := some(2); d.Ins = []impl.In{i[0], i[1], i[1]} },
		"an input of nothing":     func(d *impl.Drv) { d.Ins = []impl.In{{}} },
		"an input without Drv":    func(d *impl.Drv) { d.Ins = []impl.In{{Out: []byte("out")}} },
		"an input without Out":    func(d *impl.Drv) { d.Ins = []impl.In{{Drv: []byte(zeros)}} },
		"outputs out of order":    func(d *impl.Drv) { d.Outs = words("out dev") },
		"an output twice":         func(d *impl.Drv) { d.Outs = words("out out") },
		"a prefix behind":         func(d *impl.Drv) { d.Outs = words("aa a") },
	}
	for _, s := range noNames {
		m["source "+strconv.Quote(s)] = func(d *impl.Drv) { d.Srcs = texts(s) }
		m["second source "+strconv.Quote(s)] = func(d *impl.Drv) { d.Srcs = texts(zeros, s) }
		m["input of "+strconv.Quote(s)] = func(d *impl.Drv) { d.Ins = []impl.In{{Drv: []byte(s), Out: []byte("out")}} }
		m["second input of "+strconv.Quote(s)] = func(d *impl.Drv) { d.Ins = append(some(1), impl.In{Drv: []byte(s), Out: []byte("out")}) }
	}
	for _, s := range noEntries {
		m["input "+strconv.Quote(s)] = func(d *impl.Drv) { d.Ins = []impl.In{{Drv: []byte(zeros), Out: []byte(s)}} }
		m["output "+strconv.Quote(s)] = func(d *impl.Drv) { d.Outs = texts(s) }
		m["second output "+strconv.Quote(s)] = func(d *impl.Drv) { d.Outs = texts("-", s) }
	}
	return m
}

// brokenOps are operations that no derivation with one or two outputs has.
func brokenOps() map[string]impl.Op {
	m := map[string]impl.Op{}
	add := func(what string, o impl.Op, change func(o *impl.Op)) {
		change(&o)
		m["operation "+strconv.Itoa(o.Code)+": "+what] = o
	}
	for _, code := range []int{-1, 5, 6, 68, 255, 256, 257, -256, 1 << 32, math.MinInt, math.MaxInt} {
		for _, o := range eachOp() {
			add("as "+strconv.Itoa(o.Code), o, func(o *impl.Op) { o.Code = code })
		}
	}
	for _, o := range eachOp() {
		for _, n := range []int{-1, 2, 3, 255, 256, 1 << 32, math.MinInt, math.MaxInt} {
			add("Out "+strconv.Itoa(n), o, func(o *impl.Op) { o.Out = n })
		}
		for _, n := range []int{-1, 10, 11, 255, 256, 1 << 32, math.MinInt, math.MaxInt} {
			add("Arg "+strconv.Itoa(n), o, func(o *impl.Op) { o.Arg = n })
		}
		for _, n := range []int{101, 102, 400, 401, 1000} {
			add(strconv.Itoa(n)+" bytes of Text", o, func(o *impl.Op) { o.Text = pattern(n) })
		}
		for _, s := range noEntries {
			if s != "" || len(o.Name) > 0 {
				add("Name "+strconv.Quote(s), o, func(o *impl.Op) { o.Name = []byte(s) })
			}
		}
		add("all fields", o, func(o *impl.Op) { *o = impl.Op{Code: o.Code, Out: 1, Name: []byte("a"), Text: []byte("x"), Arg: 1} })
	}
	for what, o := range strayFields() {
		m[what] = o
	}
	return m
}

// strayFields are operations with one field that must be zero.
func strayFields() map[string]impl.Op {
	m := map[string]impl.Op{}
	for _, o := range eachOp() {
		code := "operation " + strconv.Itoa(o.Code)
		out, name, text, arg := o, o, o, o
		out.Out, name.Name, text.Text, arg.Arg = 1, []byte("a"), []byte{0}, 1
		used := usesOf(o.Code)
		if !used.out {
			m[code+" with Out"] = out
		}
		if !used.name {
			m[code+" with Name"] = name
		}
		if !used.text {
			m[code+" with Text"] = text
		}
		if !used.arg {
			m[code+" with Arg"] = arg
		}
	}
	return m
}

// The reference.

type uses struct{ out, name, text, arg bool }

func usesOf(code int) uses {
	return []uses{{out: true, name: true, text: true}, {out: true, name: true, arg: true}, {text: true}, {name: true, arg: true}, {}}[code]
}

func validOp(o impl.Op, outs int) bool {
	if o.Code < 0 || o.Code > 4 {
		return false
	}
	used := usesOf(o.Code)
	if used.out && (o.Out < 0 || o.Out >= outs) || !used.out && o.Out != 0 {
		return false
	}
	if used.arg && (o.Arg < 0 || o.Arg > 9) || !used.arg && o.Arg != 0 {
		return false
	}
	if used.name && !isEntry(o.Name) || !used.name && len(o.Name) > 0 {
		return false
	}
	return len(o.Text) == 0 || used.text && len(o.Text) <= 100
}

func validDrv(d impl.Drv) bool {
	if len(d.Srcs) > 3 || len(d.Ins) > 3 || len(d.Outs) < 1 || len(d.Outs) > 2 || len(d.Ops) > 8 || !isSorted(d.Srcs) {
		return false
	}
	for i, in := range d.Ins {
		// All names have one length: the texts are compared as Drv and Out are.
		if !isName(string(in.Drv)) || !isEntry(in.Out) || i > 0 && string(d.Ins[i-1].Drv)+string(d.Ins[i-1].Out) >= string(in.Drv)+string(in.Out) {
			return false
		}
	}
	for i, out := range d.Outs {
		if !isEntry(out) || i > 0 && string(d.Outs[i-1]) >= string(out) {
			return false
		}
	}
	for _, o := range d.Ops {
		if !validOp(o, len(d.Outs)) {
			return false
		}
	}
	return len(encodeDrv(d)) <= 400
}

// putText encodes a text of any length.
func putText(t []byte) []byte { return append(impl.PutNum(nil, len(t)), t...) }

// encodeDrv takes any derivation: what it makes of one that is not valid is almost an encoding.
func encodeDrv(d impl.Drv) []byte { return encodeWith(d, putText) }

// encodeWith encodes each text by put.
func encodeWith(d impl.Drv, put func(t []byte) []byte) []byte {
	b := []byte{'D', byte(len(d.Srcs)), byte(len(d.Ins)), byte(len(d.Outs)), byte(len(d.Ops))}
	b = append(b, bytes.Join(d.Srcs, nil)...)
	for _, in := range d.Ins {
		b = slices.Concat(b, in.Drv, put(in.Out))
	}
	for _, out := range d.Outs {
		b = append(b, put(out)...)
	}
	for _, o := range d.Ops {
		b = append(b, byte(o.Code), byte(o.Out), byte(o.Arg))
		b = slices.Concat(b, put(o.Name), put(o.Text))
	}
	return b
}

func sameOp(a, b impl.Op) bool {
	return a.Code == b.Code && a.Out == b.Out && a.Arg == b.Arg && bytes.Equal(a.Name, b.Name) && bytes.Equal(a.Text, b.Text)
}

func sameIn(a, b impl.In) bool { return bytes.Equal(a.Drv, b.Drv) && bytes.Equal(a.Out, b.Out) }

func sameDrv(a, b impl.Drv) bool {
	return sameTexts(a.Srcs, b.Srcs) && slices.EqualFunc(a.Ins, b.Ins, sameIn) && sameTexts(a.Outs, b.Outs) && slices.EqualFunc(a.Ops, b.Ops, sameOp)
}

// randomDrv makes a derivation that is valid, but may have too many bytes.
func randomDrv(random *rand.Rand) impl.Drv {
	d := impl.Drv{Outs: words([]string{"out", "a", "dev out", "a aa"}[random.Intn(4)])}
	for _, name := range someNames(5) {
		if len(d.Srcs) < 3 && random.Intn(4) == 0 {
			d.Srcs = append(d.Srcs, name)
		}
		for _, out := range words("a dev out") {
			if len(d.Ins) < 3 && random.Intn(12) == 0 {
				d.Ins = append(d.Ins, impl.In{Drv: name, Out: out})
			}
		}
	}
	for range random.Intn(9) {
		d.Ops = append(d.Ops, randomOp(random, len(d.Outs)))
	}
	return d
}

func randomOp(random *rand.Rand, outs int) impl.Op {
	name := []string{"a", "bin", "lib.so", "z-9", "aaaaaaaa"}[random.Intn(5)]
	text := string(pattern(random.Intn(20)))
	if random.Intn(8) == 0 {
		text = strings.Repeat("long", random.Intn(26))
	}
	out, arg := random.Intn(outs), random.Intn(10)
	return []impl.Op{writeOp(out, name, text), copyOp(out, name, arg), emitOp(text), buildOp(name, arg), failOp()}[random.Intn(5)]
}
