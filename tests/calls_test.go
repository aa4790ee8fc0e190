package tests

import (
	"reflect"
	"strings"
	"testing"
)

// The checks of memory here apply to calls of any types, where those of
// memory_test.go apply to byte strings.

// checkCall calls f with deep copies of args, in which every slice has junk in
// its spare capacity, and returns its results. It fails if an argument or its
// spare capacity is modified, if a second call has other results, or if two
// slices of the results, or one of these and one of the arguments, share memory.
func checkCall(t *testing.T, what string, f any, args ...any) []any {
	t.Helper()
	var given, before []reflect.Value
	for _, a := range args {
		g := spared(reflect.ValueOf(a))
		given = append(given, g)
		before = append(before, whole(g))
	}
	results := reflect.ValueOf(f).Call(given)
	checkApart(t, what, regionsOf(results), regionsOf(given))
	again := reflect.ValueOf(f).Call(given)
	for i, g := range given {
		if !reflect.DeepEqual(before[i].Interface(), whole(g).Interface()) {
			t.Errorf("%s: argument %d is modified", what, i)
		}
	}
	var out []any
	for i, r := range results {
		if !reflect.DeepEqual(r.Interface(), again[i].Interface()) {
			t.Errorf("%s: a second call returns %v, the first one %v", what, again[i], r)
		}
		out = append(out, r.Interface())
	}
	return out
}

// checkOk fails if f, the function of that name, does not tell which values are valid, or if the reference does not.
func checkOk[V any](t *testing.T, name string, f, reference func(V) bool, good, broken map[string]V) {
	t.Helper()
	for what, v := range good {
		if ok := checkCall(t, what+": "+name, f, v)[0].(bool); !ok || !reference(v) {
			t.Errorf("%s: %s is false", what, name)
		}
	}
	for what, v := range broken {
		if strings.Contains(what, "cyclic") {
			// Neither the copies of the check nor the reference end.
			if f(v) {
				t.Errorf("%s: %s is true", what, name)
			}
			continue
		}
		if ok := checkCall(t, what+": "+name, f, v)[0].(bool); ok || reference(v) {
			t.Errorf("%s: %s is true", what, name)
		}
	}
}

// checkConstants fails if the constants are not these numbers.
func checkConstants(t *testing.T, constants []int, want ...int) {
	t.Helper()
	for i, n := range want {
		if constants[i] != n {
			t.Errorf("constant %d is %d", i, constants[i])
		}
	}
}

// spared returns a deep copy of v that has junk in the spare capacity of every slice.
func spared(v reflect.Value) reflect.Value {
	c := reflect.New(v.Type()).Elem()
	switch v.Kind() {
	case reflect.Slice:
		n := v.Len()
		all := reflect.MakeSlice(v.Type(), n+2, n+2)
		for i := range n + 2 {
			if i < n {
				all.Index(i).Set(spared(v.Index(i)))
			} else {
				setJunk(all.Index(i), 2)
			}
		}
		c.Set(all.Slice(0, n))
	case reflect.Struct:
		for i := range v.NumField() {
			c.Field(i).Set(spared(v.Field(i)))
		}
	default:
		c.Set(v)
	}
	return c
}

// setJunk fills v, with slices in slices up to that number of levels.
func setJunk(v reflect.Value, levels int) {
	switch v.Kind() {
	case reflect.Slice:
		if levels > 0 {
			v.Set(reflect.MakeSlice(v.Type(), 1, 1))
			setJunk(v.Index(0), levels-1)
		}
	case reflect.Struct:
		for i := range v.NumField() {
			setJunk(v.Field(i), levels)
		}
	case reflect.Uint8:
		v.SetUint(0xa5)
	case reflect.Int:
		v.SetInt(77)
	}
}

// whole returns a deep copy of v in which every slice is as long as its capacity.
func whole(v reflect.Value) reflect.Value {
	c := reflect.New(v.Type()).Elem()
	switch v.Kind() {
	case reflect.Slice:
		all := reflect.MakeSlice(v.Type(), v.Cap(), v.Cap())
		for i := range v.Cap() {
			all.Index(i).Set(whole(v.Slice(0, v.Cap()).Index(i)))
		}
		c.Set(all)
	case reflect.Struct:
		for i := range v.NumField() {
			c.Field(i).Set(whole(v.Field(i)))
		}
	default:
		c.Set(v)
	}
	return c
}

// region is the memory of one slice, with its spare capacity.
type region struct{ from, end uintptr }

func regionsOf(values []reflect.Value) []region {
	var all []region
	for _, v := range values {
		switch v.Kind() {
		case reflect.Slice:
			size := uintptr(v.Cap()) * v.Type().Elem().Size()
			if size > 0 {
				all = append(all, region{v.Pointer(), v.Pointer() + size})
			}
			for i := range v.Len() {
				all = append(all, regionsOf([]reflect.Value{v.Index(i)})...)
			}
		case reflect.Struct:
			for i := range v.NumField() {
				all = append(all, regionsOf([]reflect.Value{v.Field(i)})...)
			}
		}
	}
	return all
}

func checkApart(t *testing.T, what string, results, given []region) {
	t.Helper()
	for i, r := range results {
		for _, o := range results[:i] {
			if r.from < o.end && o.from < r.end {
				t.Errorf("%s: two slices of the result share memory", what)
				return
			}
		}
		for _, o := range given {
			if r.from < o.end && o.from < r.end {
				t.Errorf("%s: the result shares memory with an argument", what)
				return
			}
		}
	}
}
