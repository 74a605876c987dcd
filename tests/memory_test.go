package tests

import (
	"reflect"
	"strings"
	"testing"
	"unsafe"

	"loop.example/g00617/impl"
)

// A region is the memory of a list, its spare elements included, or of a string.
type region struct {
	from, to uintptr
	list     bool
}

func (a region) meets(b region) bool {
	return a.from < b.to && b.from < a.to
}

// regionsOf returns the memory of all lists and strings in x.
func regionsOf(x reflect.Value) []region {
	var out []region
	switch x.Kind() {
	case reflect.String:
		from := uintptr(unsafe.Pointer(unsafe.StringData(x.String())))
		out = append(out, region{from: from, to: from + uintptr(x.Len())})
	case reflect.Slice:
		from := uintptr(x.UnsafePointer())
		out = append(out, region{from: from, to: from + uintptr(x.Cap())*x.Type().Elem().Size(), list: true})
		for i := range x.Len() {
			out = append(out, regionsOf(x.Index(i))...)
		}
	case reflect.Struct:
		for i := range x.NumField() {
			out = append(out, regionsOf(x.Field(i))...)
		}
	}
	return out
}

// wantOwnMemory reports a result of which two lists share memory, or that
// shares some with an argument.
func wantOwnMemory(t *testing.T, result any, arguments ...any) {
	t.Helper()
	own := regionsOf(reflect.ValueOf(result))
	for i, a := range own {
		for _, b := range own[:i] {
			if a.list && b.list && a.meets(b) {
				t.Fatalf("two lists of %v share memory", result)
			}
		}
	}
	for _, argument := range arguments {
		for _, b := range regionsOf(reflect.ValueOf(argument)) {
			for _, a := range own {
				if a.meets(b) {
					t.Fatalf("%v shares memory with %v", result, argument)
				}
			}
		}
	}
}

// copyOf returns a copy of x in which the spare elements of each list belong to
// the list. It shares no strings with x, so that a change of their bytes is seen.
func copyOf(x reflect.Value) reflect.Value {
	out := reflect.New(x.Type()).Elem()
	switch x.Kind() {
	case reflect.Slice:
		for i := range x.Cap() {
			out = reflect.Append(out, copyOf(x.Slice(0, x.Cap()).Index(i)))
		}
	case reflect.Struct:
		for i := range x.NumField() {
			out.Field(i).Set(copyOf(x.Field(i)))
		}
	case reflect.String:
		out.SetString(strings.Clone(x.String()))
	default:
		out.Set(x)
	}
	return out
}

// wantUnchanged returns a function that reports whether anything in x has
// changed since, also behind the end of a list.
func wantUnchanged(t *testing.T, x any) func() {
	before := copyOf(reflect.ValueOf(x)).Interface()
	return func() {
		t.Helper()
		if after := copyOf(reflect.ValueOf(x)).Interface(); !reflect.DeepEqual(before, after) {
			t.Errorf("%v has become %v", before, after)
		}
	}
}

func spaciousLabels(l []impl.Label) []impl.Label {
	out, _ := withSpare(l, impl.Label{Name: "x", Val: "7"}, impl.Label{Name: "a", Val: "8"})
	return out
}

func spaciousLine(x impl.Line) impl.Line {
	x.L = spaciousLabels(x.L)
	return x
}

// spaciousDb returns a database like d of which each list has spare elements.
func spaciousDb(d impl.Db) impl.Db {
	var all []impl.Series
	for _, s := range d.Series {
		all = append(all, impl.Series{L: spaciousLabels(s.L), C: spacious(s.C)})
	}
	junk := impl.Series{L: []impl.Label{{Name: "z", Val: "9"}}, C: impl.Cascade{Now: 7}}
	return impl.Db{Series: append(all, junk, junk)[:len(all)]}
}

// TestMemory has cases in which there is something to report.
func TestMemory(t *testing.T) {
	l := []impl.Label{{Name: "a", Val: "1"}, {Name: "b", Val: "2"}, {Name: "c", Val: "3"}}
	meet := func(a, b any) bool {
		for _, x := range regionsOf(reflect.ValueOf(a)) {
			for _, y := range regionsOf(reflect.ValueOf(b)) {
				if x.meets(y) {
					return true
				}
			}
		}
		return false
	}
	points := make([]impl.Point, 4)
	if !meet(l[:1], l) || !meet(l[0], l) || !meet(points[:2:2], points) || !meet(points[1:2], points[3:]) {
		t.Error("shared memory is not seen")
	}
	if meet(points[:2:2], points[2:]) || meet(points[:0:0], points) || meet(nilPoints(), points) {
		t.Error("there is no shared memory")
	}
	d := spaciousDb(impl.Db{Series: []impl.Series{{L: l}}})
	before := copyOf(reflect.ValueOf(d)).Interface()
	d.Series[0].L[:4][3].Val = "other"
	if reflect.DeepEqual(before, copyOf(reflect.ValueOf(d)).Interface()) {
		t.Error("a change is not seen")
	}
	data := []byte("data")
	blocks := []impl.Block{{Data: unsafe.String(&data[0], len(data))}}
	before = copyOf(reflect.ValueOf(blocks)).Interface()
	data[1] = 'e'
	if reflect.DeepEqual(before, copyOf(reflect.ValueOf(blocks)).Interface()) {
		t.Error("a change of the bytes of a string is not seen")
	}
}

func nilPoints() []impl.Point {
	return nil
}
