package tests

import (
	"go/ast"
	"go/parser"
	"go/token"
	"math/rand/v2"
	"path/filepath"
	"reflect"
	"runtime"
	"slices"
	"strings"
	"testing"

	"loop.example/g00617/impl"
)

// Promise 19: equal arguments yield equal results; no argument is modified.

// A call is one call of an exported function.
type call struct {
	name string
	f    reflect.Value
	args []reflect.Value
}

// A callList has calls of all chapters; calls_test.go has what they call.
type callList []call

// add appends a call. A constant that is an argument becomes an int64, and nil
// a list without elements.
func (l *callList) add(f any, args ...any) {
	x := call{f: reflect.ValueOf(f)}
	name := runtime.FuncForPC(x.f.Pointer()).Name()
	x.name = name[strings.LastIndex(name, ".")+1:]
	for i, arg := range args {
		want := x.f.Type().In(i)
		if arg == nil {
			x.args = append(x.args, reflect.Zero(want))
		} else {
			x.args = append(x.args, reflect.ValueOf(arg).Convert(want))
		}
	}
	*l = append(*l, x)
}

// roomy returns a copy of x that shares no memory with it, in which each list
// has this many spare elements behind its end.
func roomy(x reflect.Value, spare int) reflect.Value {
	out := reflect.New(x.Type()).Elem()
	switch x.Kind() {
	case reflect.Slice:
		n := x.Len()
		if n+spare == 0 {
			return out
		}
		out.Set(reflect.MakeSlice(x.Type(), n+spare, n+spare))
		for i := range n {
			out.Index(i).Set(roomy(x.Index(i), spare))
		}
		for i := range spare {
			fill(out.Index(n + i))
		}
		out.SetLen(n)
	case reflect.Struct:
		for i := range x.NumField() {
			out.Field(i).Set(roomy(x.Field(i), spare))
		}
	case reflect.String:
		out.SetString(strings.Clone(x.String()))
	default:
		out.Set(x)
	}
	return out
}

// fill gives x a value that none of the arguments has.
func fill(x reflect.Value) {
	switch x.Kind() {
	case reflect.Struct:
		for i := range x.NumField() {
			fill(x.Field(i))
		}
	case reflect.Slice:
		x.SetZero()
	case reflect.String:
		x.SetString("filled")
	case reflect.Bool:
		x.SetBool(true)
	default:
		x.SetInt(-777777)
	}
}

// overwriteAll changes all elements of all lists in x, the spare ones included.
func overwriteAll(x reflect.Value) {
	switch x.Kind() {
	case reflect.Slice:
		all := x.Slice(0, x.Cap())
		for i := range all.Len() {
			overwriteAll(all.Index(i))
			fill(all.Index(i))
		}
	case reflect.Struct:
		for i := range x.NumField() {
			overwriteAll(x.Field(i))
		}
	}
}

// equal reports whether two values are the same value: a list without elements
// may be nil or not.
func equal(a, b reflect.Value) bool {
	switch a.Kind() {
	case reflect.Slice:
		if a.Len() != b.Len() {
			return false
		}
		for i := range a.Len() {
			if !equal(a.Index(i), b.Index(i)) {
				return false
			}
		}
		return true
	case reflect.Struct:
		for i := range a.NumField() {
			if !equal(a.Field(i), b.Field(i)) {
				return false
			}
		}
		return true
	}
	return a.Equal(b)
}

func equalAll(a, b []reflect.Value) bool {
	return slices.EqualFunc(a, b, equal)
}

func roomyAll(l []reflect.Value, spare int) []reflect.Value {
	var out []reflect.Value
	for _, x := range l {
		out = append(out, roomy(x, spare))
	}
	return out
}

// results calls the function with copies of the arguments and reports what it
// changes in them. Then it overwrites them, so that a function that has kept one
// is seen.
func (x call) results(t *testing.T, spare int) []reflect.Value {
	t.Helper()
	args := roomyAll(x.args, spare)
	var unchanged []func()
	for _, arg := range args {
		unchanged = append(unchanged, wantUnchanged(t, arg.Interface()))
	}
	results := x.f.Call(args)
	for _, check := range unchanged {
		check()
	}
	if t.Failed() {
		t.Fatal(x.name, "has changed an argument")
	}
	x.wantOwnLists(t, results, args)
	for _, arg := range args {
		overwriteAll(arg)
	}
	return results
}

// wantResults reports results of the call that are not these, and overwrites
// them.
func (x call) wantResults(t *testing.T, got, want []reflect.Value) {
	t.Helper()
	if !equalAll(got, want) {
		t.Fatalf("other results for equal arguments: %s of %v: %v and %v", x.name, interfaces(x.args), interfaces(want), interfaces(got))
	}
	for _, result := range got {
		overwriteAll(result)
	}
}

func interfaces(l []reflect.Value) []any {
	var out []any
	for _, x := range l {
		out = append(out, x.Interface())
	}
	return out
}

// wantOwnLists reports results that share memory with an argument, and lists of
// the results that share memory with each other.
func (x call) wantOwnLists(t *testing.T, results, args []reflect.Value) {
	t.Helper()
	var own, others []region
	for _, result := range results {
		own = append(own, regionsOf(result)...)
	}
	for _, arg := range args {
		others = append(others, regionsOf(arg)...)
	}
	for i, a := range own {
		for _, b := range own[:i] {
			if a.list && b.list && a.meets(b) {
				t.Fatal(x.name, "returns lists that share memory")
			}
		}
		for _, b := range others {
			if a.meets(b) {
				t.Fatal(x.name, "shares memory with an argument")
			}
		}
	}
}

// plain reports whether a type has only parts that roomy copies; there are no
// maps and no pointers in the arguments of the program.
func plain(x reflect.Type) bool {
	switch x.Kind() {
	case reflect.Int64, reflect.Bool, reflect.String:
		return true
	case reflect.Slice:
		return plain(x.Elem())
	case reflect.Struct:
		for i := range x.NumField() {
			if !plain(x.Field(i).Type) {
				return false
			}
		}
		return true
	}
	return false
}

// exportedFunctions reads the names of the functions in the files of the
// program.
func exportedFunctions(t *testing.T) []string {
	t.Helper()
	paths, err := filepath.Glob("../impl/*.go")
	if err != nil || len(paths) == 0 {
		t.Fatal("no files of the program", err)
	}
	var out []string
	for _, path := range paths {
		file, err := parser.ParseFile(token.NewFileSet(), path, nil, parser.SkipObjectResolution)
		if err != nil {
			t.Fatal(err)
		}
		for _, d := range file.Decls {
			if f, ok := d.(*ast.FuncDecl); ok && f.Recv == nil && f.Name.IsExported() {
				out = append(out, f.Name.Name)
			}
		}
	}
	slices.Sort(out)
	return out
}

func TestEveryExportedFunctionIsCalled(t *testing.T) {
	var names []string
	for _, x := range allCalls(t) {
		names = append(names, x.name)
		for i := range x.f.Type().NumIn() {
			if !plain(x.f.Type().In(i)) {
				t.Fatal(x.name, "has arguments of another type")
			}
		}
	}
	slices.Sort(names)
	if got, want := slices.Compact(names), exportedFunctions(t); !slices.Equal(got, want) {
		t.Errorf("got %v, want %v", got, want)
	}
}

// TestCallsOfEachFunctionDiffer reports functions of whose results the calls see
// little: each one has several, and with a flag both of its values.
func TestCallsOfEachFunctionDiffer(t *testing.T) {
	different := map[string][][]reflect.Value{}
	for _, x := range allCalls(t) {
		results := x.results(t, 0)
		seen := different[x.name]
		if !slices.ContainsFunc(seen, func(other []reflect.Value) bool { return equalAll(other, results) }) {
			different[x.name] = append(seen, results)
		}
	}
	for name, seen := range different {
		last := len(seen[0]) - 1
		if kind := seen[0][last].Kind(); last == 0 && kind != reflect.Bool && len(seen) < 4 {
			t.Error("few results:", name, len(seen))
		} else if kind == reflect.Bool {
			flags := map[bool]int{}
			for _, results := range seen {
				flags[results[last].Bool()]++
			}
			if flags[true] == 0 || flags[false] == 0 || last > 0 && flags[true] < 3 {
				t.Error("few results:", name, flags)
			}
		} else if last > 0 && len(seen) < 4 {
			t.Error("few results:", name, len(seen))
		}
	}
}

// TestEqualArgumentsYieldEqualResults makes all calls several times, in several
// orders, and with more or less memory behind the lists. At first it keeps all
// results, so that a later call that changes them is seen.
func TestEqualArgumentsYieldEqualResults(t *testing.T) {
	r := numbers()
	calls := allCalls(t)
	kept, want := make([][]reflect.Value, len(calls)), make([][]reflect.Value, len(calls))
	for i, x := range calls {
		kept[i] = x.results(t, 3)
		want[i] = roomyAll(kept[i], 0)
	}
	for i, x := range calls {
		x.wantResults(t, kept[i], want[i])
	}
	for pass := range 5 {
		for _, i := range passOrder(r, pass, len(calls)) {
			calls[i].wantResults(t, calls[i].results(t, pass%3), want[i])
		}
	}
}

// passOrder returns the indexes of n calls: at first in reverse order, then in
// the order of the calls, then in others.
func passOrder(r *rand.Rand, pass, n int) []int {
	order := r.Perm(n)
	if pass < 2 {
		slices.Sort(order)
	}
	if pass == 0 {
		slices.Reverse(order)
	}
	return order
}

// TestCallsThatChange has functions in which there is something to report.
func TestCallsThatChange(t *testing.T) {
	l := roomy(reflect.ValueOf([]impl.Line{{L: []impl.Label{{Name: "a", Val: "1"}}}, {}}), 2)
	if l.Cap() != 4 || l.Index(0).Field(0).Cap() != 3 || l.Slice(0, 4).Index(3).Field(1).Int() != -777777 {
		t.Error(l)
	}
	before := roomy(l, 0)
	if !equal(l, before) || before.Cap() != 2 {
		t.Error("a copy is not equal")
	}
	overwriteAll(l)
	if equal(l, before) || before.Index(0).Field(0).Index(0).Field(0).String() != "a" {
		t.Error("a copy shares memory")
	}
	if !equal(reflect.ValueOf([]int64{}), reflect.ValueOf([]int64(nil))) || equal(reflect.ValueOf([]int64{1}), reflect.ValueOf([]int64{2})) || equal(reflect.ValueOf([]int64{1}), reflect.ValueOf([]int64{1, 1})) {
		t.Error("lists are not compared")
	}
	for _, x := range []any{map[int64]int64{}, new(int64), struct{ M []*int64 }{}} {
		if plain(reflect.TypeOf(x)) {
			t.Error(x)
		}
	}
}
