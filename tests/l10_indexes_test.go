package tests

import (
	"math/rand/v2"
	"reflect"
	"slices"
	"strconv"
	"strings"
	"testing"

	"loop.example/g00617/impl"
)

// Promise 10: an index entry has exactly the series with its label; a lookup
// returns the series that match individually.

const (
	maxIds    = 1000
	maxSeries = 40
)

// An operation is And, Or or Less, together with what it decides of a number.
type operation struct {
	name string
	run  func(a, b []int64) []int64
	want func(inA, inB bool) bool
}

func operations() []operation {
	return []operation{
		{"And", impl.And, func(inA, inB bool) bool { return inA && inB }},
		{"Or", impl.Or, func(inA, inB bool) bool { return inA || inB }},
		{"Less", impl.Less, func(inA, inB bool) bool { return inA && !inB }},
	}
}

// model decides for each number of both lists.
func (o operation) model(a, b []int64) []int64 {
	all := slices.Concat(a, b)
	slices.Sort(all)
	var out []int64
	for _, x := range slices.Compact(all) {
		if o.want(slices.Contains(a, x), slices.Contains(b, x)) {
			out = append(out, x)
		}
	}
	return out
}

func wantIds(t *testing.T, o operation, a, b, want []int64) {
	t.Helper()
	if got := o.run(a, b); !slices.Equal(got, want) {
		t.Errorf("%s of %v and %v: got %v, want %v", o.name, a, b, got, want)
	}
}

// idsInSteps returns n numbers.
func idsInSteps(n int, from, step int64) []int64 {
	var l []int64
	for i := range int64(n) {
		l = append(l, from+i*step)
	}
	return l
}

func randomIds(r *rand.Rand) []int64 {
	var l []int64
	for x := range int64(12) {
		if r.IntN(2) == 0 {
			l = append(l, x-4)
		}
	}
	return l
}

func idLists() [][]int64 {
	return [][]int64{
		nil,
		{},
		{0},
		{1},
		{-1},
		{1, 3, 5},
		{2, 3, 5, 9},
		{0, 2, 4, 6},
		{minInt},
		{maxInt},
		{minInt, maxInt},
		{minInt, minInt + 1, -1, 0, 1, maxInt - 1, maxInt},
		{-1, 0, maxInt},
		{minInt, 0, 1},
		idsInSteps(maxIds, 0, 1),
		idsInSteps(maxIds, 0, 2),
		idsInSteps(maxIds, 1, 2),
		idsInSteps(maxIds, maxIds, 1),
		idsInSteps(maxIds, -maxIds/2, 1),
		idsInSteps(maxIds, minInt, maxInt/600),
		idsInSteps(maxIds-1, 0, 1),
	}
}

func invalidIdLists() [][]int64 {
	almost := idsInSteps(maxIds, 0, 1)
	almost[maxIds-1]--
	return [][]int64{
		{0, 0},
		{2, 2},
		{-1, -1},
		{1, 0},
		{9, 5, 3},
		{0, 1, 1},
		{0, 0, 1},
		{0, 2, 1},
		{1, 0, 2},
		{minInt, minInt},
		{maxInt, maxInt},
		{maxInt, minInt},
		{0, minInt},
		{maxInt, -1},
		almost,
		idsInSteps(maxIds, 0, -1),
		idsInSteps(maxIds, 0, 0),
		idsInSteps(maxIds+1, 0, 1),
		idsInSteps(maxIds+1, minInt, 1),
		idsInSteps(maxIds+2, 0, 1),
		idsInSteps(2*maxIds, 0, 1),
		idsInSteps(100000, 0, 1),
	}
}

func TestOperations(t *testing.T) {
	for _, o := range operations() {
		for _, a := range idLists() {
			for _, b := range idLists() {
				wantIds(t, o, a, b, o.model(a, b))
			}
		}
		r := numbers()
		for range 1000 {
			a, b := randomIds(r), randomIds(r)
			wantIds(t, o, a, b, o.model(a, b))
		}
	}
}

func TestOperationsExamples(t *testing.T) {
	a, b := []int64{minInt, 1, 3, 5}, []int64{2, 3, 5, maxInt}
	for i, want := range [][]int64{{3, 5}, {minInt, 1, 2, 3, 5, maxInt}, {minInt, 1}} {
		wantIds(t, operations()[i], a, b, want)
	}
	for i, want := range [][]int64{{3, 5}, {minInt, 1, 2, 3, 5, maxInt}, {2, maxInt}} {
		wantIds(t, operations()[i], b, a, want)
	}
}

// TestLongestUnion has more numbers than a valid list.
func TestLongestUnion(t *testing.T) {
	got := impl.Or(idsInSteps(maxIds, 0, 1), idsInSteps(maxIds, maxIds, 1))
	if !slices.Equal(got, idsInSteps(2*maxIds, 0, 1)) {
		t.Error(got)
	}
}

func TestOperationsOnInvalidLists(t *testing.T) {
	for _, o := range operations() {
		for _, l := range invalidIdLists() {
			for _, other := range [][]int64{nil, {0, 1, 2}, l, idsInSteps(maxIds, 0, 1)} {
				wantIds(t, o, l, other, nil)
				wantIds(t, o, other, l, nil)
			}
		}
	}
}

func TestOperationsModifyNothing(t *testing.T) {
	for _, o := range operations() {
		for _, lists := range [][2][]int64{{{1, 3, 5}, {2, 3, 5, 9}}, {{1, 3}, nil}, {nil, {1, 3}}, {nil, nil}, {{1, 2}, {1, 2}}, {{2, 1}, {1, 2}}} {
			a, unchanged := withSpare(lists[0], 7, 1, 77)
			b, unchangedToo := withSpare(lists[1], 8, 2, 88)
			first := slices.Clone(o.run(a, b))
			for range 2 {
				overwrite(o.run(a, b), 99)
				overwrite(o.run(a, a), 99)
			}
			wantIds(t, o, a, b, first)
			if !unchanged() || !unchangedToo() {
				t.Error(o.name, a, b)
			}
		}
	}
}

// seriesOf reads one list of labels from each text, also if it is not valid.
func seriesOf(texts ...string) []impl.Labels {
	var l []impl.Labels
	for _, s := range texts {
		var labels []impl.Label
		for _, part := range strings.Split(s, ",") {
			name, value, _ := strings.Cut(part, "=")
			labels = append(labels, impl.Label{Name: name, Val: value})
		}
		l = append(l, impl.Labels{L: labels})
	}
	return l
}

// indexOf is the model of IndexOf: it looks for each label in each list.
func indexOf(l []impl.Labels) []impl.Post {
	var all []impl.Label
	for _, x := range l {
		all = append(all, x.L...)
	}
	slices.SortFunc(all, func(a, b impl.Label) int {
		if a.Name != b.Name {
			return strings.Compare(a.Name, b.Name)
		}
		return strings.Compare(a.Val, b.Val)
	})
	var out []impl.Post
	for _, label := range slices.Compact(all) {
		post := impl.Post{Name: label.Name, Val: label.Val}
		for i, x := range l {
			if slices.Contains(x.L, label) {
				post.Ids = append(post.Ids, int64(i))
			}
		}
		out = append(out, post)
	}
	return out
}

func sameIndex(a, b []impl.Post) bool {
	return slices.EqualFunc(a, b, func(x, y impl.Post) bool {
		return x.Name == y.Name && x.Val == y.Val && slices.Equal(x.Ids, y.Ids)
	})
}

// randomSeries returns n lists of labels of few names and values.
func randomSeries(r *rand.Rand, n int) []impl.Labels {
	var l []impl.Labels
	for range n {
		var labels []impl.Label
		for _, name := range []string{"_", "a", "a0", "a_", "b"} {
			if r.IntN(2) == 0 {
				labels = append(labels, impl.Label{Name: name, Val: pick(r, "01a", 2)})
			}
		}
		if labels == nil {
			labels = randomLabels(r, 1+r.IntN(5))
		}
		l = append(l, impl.Labels{L: labels})
	}
	return l
}

// descending returns n lists whose names and values are, if they are asked for,
// in descending order.
func descending(n int, names, values bool) []impl.Labels {
	var texts []string
	for i := range n {
		name, value := "a", "b"
		if names {
			name = "n" + strconv.Itoa(100+n-i)
		}
		if values {
			value = strconv.Itoa(100 + n - i)
		}
		texts = append(texts, name+"="+value)
	}
	return seriesOf(texts...)
}

// sameLists returns n equal lists.
func sameLists(n int) []impl.Labels {
	return seriesOf(slices.Repeat([]string{"host=a,name=cpu,zone=1"}, n)...)
}

func seriesLists() [][]impl.Labels {
	out := [][]impl.Labels{
		nil,
		{},
		seriesOf("host=a,name=cpu"),
		seriesOf("host=a,name=cpu", "name=cpu", "host=b,name=mem"),
		seriesOf("name=cpu", "host=a", "host=b,name=cpu"),
		// In the order of their texts these would be in another order.
		seriesOf("a=1", "a0=1", "a_=1", "_=1", "9=1"),
		seriesOf("a=ab", "aa=b", "aab=a"),
		seriesOf("a=b,b=a", "b=b", "a=a", "a=b", "b=a"),
		seriesOf("a=1", "a=10", "a=2", "a=_", "a=a", "a=9", "a=11"),
		seriesOf("b=1", "a=2", "b=0", "a=1"),
		seriesOf("a=1,b=1,c=1,d=1,e=1", "a=1,b=2,c=1,d=2,e=1", "e=1"),
		sameLists(2),
		sameLists(maxSeries - 1),
		sameLists(maxSeries),
		descending(maxSeries, true, false),
		descending(maxSeries, false, true),
		descending(maxSeries, true, true),
	}
	r := numbers()
	for n := range maxSeries + 1 {
		out = append(out, randomSeries(r, n), randomSeries(r, n))
	}
	return out
}

func invalidSeries() [][]impl.Labels {
	out := [][]impl.Labels{
		{{}},
		{{L: []impl.Label{}}},
		{{}, {}},
		sameLists(maxSeries + 1),
		sameLists(maxSeries + 2),
		sameLists(10000),
		randomSeries(numbers(), maxSeries+1),
		descending(maxSeries+1, true, true),
		append(sameLists(maxSeries), impl.Labels{}),
	}
	for _, text := range []string{"", "a", "a=", "=a", "a=1,a=1", "a=1,a=2", "b=1,a=1", "A=1", "a=B", "a=b-c", "a=12345678901", "a=1,b=1,c=1,d=1,e=1,f=1"} {
		for i := range 3 {
			l := seriesOf("host=a,name=cpu", "name=cpu", "host=b,name=mem")
			l[i] = seriesOf(text)[0]
			out = append(out, l)
		}
	}
	for i := range 3 {
		l := seriesOf("host=a,name=cpu", "name=cpu", "host=b,name=mem")
		l[i].L = nil
		out = append(out, l)
	}
	return out
}

func TestIndexEntriesHaveTheSeriesWithTheirLabels(t *testing.T) {
	for _, l := range seriesLists() {
		if got, ok := impl.IndexOf(l); !ok || !sameIndex(got, indexOf(l)) {
			t.Fatalf("%v: got %v, %v; want %v, true", l, got, ok, indexOf(l))
		}
	}
}

func TestIndexExample(t *testing.T) {
	got, ok := impl.IndexOf(seriesOf("name=mem", "host=b,name=cpu", "host=a,name=cpu", "a0=1", "a=1"))
	want := []impl.Post{
		{Name: "a", Val: "1", Ids: []int64{4}},
		{Name: "a0", Val: "1", Ids: []int64{3}},
		{Name: "host", Val: "a", Ids: []int64{2}},
		{Name: "host", Val: "b", Ids: []int64{1}},
		{Name: "name", Val: "cpu", Ids: []int64{1, 2}},
		{Name: "name", Val: "mem", Ids: []int64{0}},
	}
	if !ok || !sameIndex(got, want) {
		t.Error(got, ok)
	}
}

func TestMaxSeries(t *testing.T) {
	if impl.MaxSeries != maxSeries {
		t.Error(impl.MaxSeries)
	}
	got, ok := impl.IndexOf(sameLists(maxSeries))
	if !ok || len(got) != 3 || !slices.Equal(got[1].Ids, idsInSteps(maxSeries, 0, 1)) {
		t.Error(got, ok)
	}
}

func TestInvalidSeries(t *testing.T) {
	for _, l := range invalidSeries() {
		if got, ok := impl.IndexOf(l); ok || len(got) != 0 {
			t.Errorf("%v: got %v, %v; want no index, false", l, got, ok)
		}
		for _, p := range [][]impl.Post{nil, {}, indexOf(l), indexOf(l[:1]), indexOf(l[1:])} {
			for _, m := range [][]impl.Match{nil, {{Name: "name", Val: "cpu"}}, {{Name: "zone", Val: "9", Not: true}}, {{Name: "x"}}} {
				wantNothing(t, l, p, m)
			}
		}
	}
}

func wantNothing(t *testing.T, l []impl.Labels, p []impl.Post, m []impl.Match) {
	t.Helper()
	if got := impl.Lookup(l, p, m); len(got) != 0 {
		t.Errorf("%v in %v, %v: got %v; want nothing", m, l, p, got)
	}
}

// wantFound reports a lookup that does not return the lists that match
// individually.
func wantFound(t *testing.T, l []impl.Labels, m []impl.Match) []int64 {
	t.Helper()
	var want []int64
	for i, x := range l {
		if matches(x.L, m) != impl.Matches(x.L, m) {
			t.Fatal(x, m)
		}
		if matches(x.L, m) {
			want = append(want, int64(i))
		}
	}
	if got := impl.Lookup(l, indexOf(l), m); !slices.Equal(got, want) {
		t.Fatalf("%v in %v: got %v, want %v", m, l, got, want)
	}
	return want
}

// oneMatches returns matches of labels that there are and of others, and
// matches whose names and values no label can have.
func oneMatches() []impl.Match {
	var out []impl.Match
	for _, name := range []string{"host", "name", "zone", "a", "a0", "b", "_", "n101", "", "A", "hos", "host2", "a=1", ten + "a", "a b", "\xff"} {
		for _, value := range []string{"a", "b", "cpu", "mem", "1", "0", "101", "", "A", "cp", "cpu2", "1,b=1", ten + "a", "a b", "\xff"} {
			out = append(out, impl.Match{Name: name, Val: value}, impl.Match{Name: name, Val: value, Not: true})
		}
	}
	return out
}

func TestLookupsOfOneMatch(t *testing.T) {
	for i, l := range seriesLists() {
		wantFound(t, l, nil)
		wantFound(t, l, []impl.Match{})
		if i > 20 && i%5 > 0 {
			continue
		}
		for _, x := range oneMatches() {
			wantFound(t, l, []impl.Match{x})
		}
	}
}

func TestLookupsOfManyMatches(t *testing.T) {
	r := numbers()
	seen := map[bool]int{}
	for range 50 {
		for _, l := range seriesLists() {
			if len(l) > 0 {
				m := randomMatches(r, l[r.IntN(len(l))].L)
				found := wantFound(t, l, append(m, randomMatches(r, l[r.IntN(len(l))].L)...))
				seen[len(found) > 0]++
			}
		}
	}
	if seen[true] < 1000 || seen[false] < 1000 {
		t.Error("few cases of one kind:", seen)
	}
}

func TestLookupExamples(t *testing.T) {
	l := seriesOf("host=a,name=cpu", "name=cpu", "host=b,name=mem")
	for _, x := range []struct {
		m    []impl.Match
		want []int64
	}{
		{nil, []int64{0, 1, 2}},
		{[]impl.Match{{Name: "name", Val: "cpu"}}, []int64{0, 1}},
		{[]impl.Match{{Name: "name", Val: "cpu", Not: true}}, []int64{2}},
		{[]impl.Match{{Name: "host", Val: "a"}}, []int64{0}},
		{[]impl.Match{{Name: "host", Val: "a", Not: true}}, []int64{1, 2}},
		{[]impl.Match{{Name: "host"}}, []int64{1}},
		{[]impl.Match{{Name: "host", Not: true}}, []int64{0, 2}},
		{[]impl.Match{{Name: "zone"}}, []int64{0, 1, 2}},
		{[]impl.Match{{Name: "zone", Not: true}}, nil},
		{[]impl.Match{{Name: "zone", Val: "1"}}, nil},
		{[]impl.Match{{Name: "zone", Val: "1", Not: true}}, []int64{0, 1, 2}},
		{[]impl.Match{{}}, []int64{0, 1, 2}},
		{[]impl.Match{{Not: true}}, nil},
		{[]impl.Match{{Name: "name", Val: "cpu"}, {Name: "host", Val: "a", Not: true}}, []int64{1}},
		{[]impl.Match{{Name: "name", Val: "cpu"}, {Name: "host", Val: "b"}}, nil},
		{[]impl.Match{{Name: "host", Val: "a"}, {Name: "host", Val: "b"}}, nil},
		{[]impl.Match{{Name: "host", Val: "a", Not: true}, {Name: "host", Val: "b", Not: true}}, []int64{1}},
		{slices.Repeat([]impl.Match{{Name: "name", Val: "cpu"}}, 1000), []int64{0, 1}},
	} {
		if got := impl.Lookup(l, indexOf(l), x.m); !slices.Equal(got, x.want) || !slices.Equal(wantFound(t, l, x.m), x.want) {
			t.Errorf("%v: got %v, want %v", x.m, got, x.want)
		}
	}
}

// otherIndexes returns indexes that differ from p in one entry, in one of its
// ids, or in their order.
func otherIndexes(p []impl.Post) [][]impl.Post {
	var out [][]impl.Post
	change := func(i int, post impl.Post) {
		q := slices.Clone(p)
		q[i] = post
		out = append(out, q)
	}
	for i, x := range p {
		last := len(x.Ids) - 1
		out = append(out, slices.Delete(slices.Clone(p), i, i+1), slices.Insert(slices.Clone(p), i, x))
		for _, name := range []string{"", x.Name + "0", x.Name[1:], x.Val} {
			if name != x.Name {
				change(i, impl.Post{Name: name, Val: x.Val, Ids: x.Ids})
			}
		}
		for _, value := range []string{"", x.Val + "0", x.Val[1:], x.Name} {
			if value != x.Val {
				change(i, impl.Post{Name: x.Name, Val: value, Ids: x.Ids})
			}
		}
		for _, ids := range [][]int64{nil, x.Ids[:last], append(slices.Clone(x.Ids), x.Ids[last]), append(slices.Clone(x.Ids), x.Ids[last]+1), append([]int64{x.Ids[0] - 1}, x.Ids...)} {
			change(i, impl.Post{Name: x.Name, Val: x.Val, Ids: ids})
		}
		for j := range x.Ids {
			ids := slices.Clone(x.Ids)
			ids[j]++
			change(i, impl.Post{Name: x.Name, Val: x.Val, Ids: ids})
		}
		if last > 0 {
			ids := slices.Clone(x.Ids)
			slices.Reverse(ids)
			change(i, impl.Post{Name: x.Name, Val: x.Val, Ids: ids})
		}
		for j := range i {
			q := slices.Clone(p)
			q[i], q[j] = q[j], q[i]
			out = append(out, q)
		}
	}
	return append(out, append(slices.Clone(p), impl.Post{}), append(slices.Clone(p), impl.Post{Name: "zz", Val: "z", Ids: []int64{0}}))
}

func TestLookupsInAnotherIndex(t *testing.T) {
	for i, l := range seriesLists() {
		if i > 40 && i%10 > 0 {
			continue
		}
		for _, p := range otherIndexes(indexOf(l)) {
			for _, m := range [][]impl.Match{nil, {{Name: "name", Val: "cpu"}}, {{Name: "zz", Val: "1", Not: true}}} {
				wantNothing(t, l, p, m)
			}
		}
		if len(l) > 0 {
			wantNothing(t, l, nil, nil)
			wantNothing(t, nil, indexOf(l), nil)
		}
	}
	l := seriesOf("a=1", "a=2")
	wantNothing(t, l, indexOf(seriesOf("a=2", "a=1")), nil)
	wantNothing(t, l, indexOf(seriesOf("a=1", "a=2", "a=1")), nil)
	wantNothing(t, l, indexOf(l[:1]), nil)
}

// spaciousSeries returns lists like l, each with spare elements, and a function
// that tells whether nothing of them has changed.
func spaciousSeries(l []impl.Labels) ([]impl.Labels, func() bool) {
	label := impl.Label{Name: "a", Val: "7"}
	whole := slices.Clone(l)
	for i, x := range l {
		whole[i].L = append(slices.Clip(x.L), label, label)
	}
	whole = append(whole, impl.Labels{L: []impl.Label{label}}, impl.Labels{})
	out, before := slices.Clone(whole), slices.Clone(whole)
	for i, x := range whole {
		before[i].L = slices.Clone(x.L)
		if i < len(l) {
			out[i].L = x.L[:len(l[i].L)]
		}
	}
	return out[:len(l)], func() bool {
		for i := range l {
			if len(out[i].L) != len(l[i].L) || !slices.Equal(out[i].L[:len(l[i].L)+2], before[i].L) {
				return false
			}
		}
		return reflect.DeepEqual(out[len(l):], before[len(l):])
	}
}

// spaciousIndex does the same for an index.
func spaciousIndex(p []impl.Post) ([]impl.Post, func() bool) {
	all := slices.Clone(p)
	for i, x := range p {
		all[i].Ids = append(slices.Clip(x.Ids), 7, 1)[:len(x.Ids)]
	}
	all = append(all, impl.Post{Name: "a", Ids: []int64{1}}, impl.Post{Val: "b"})
	copied := func() []impl.Post {
		out := slices.Clone(all)
		for i, x := range all {
			out[i].Ids = slices.Clone(x.Ids[:cap(x.Ids)])
		}
		return out
	}
	before, n := copied(), len(p)
	return all[:n], func() bool { return reflect.DeepEqual(copied(), before) && sameIndex(all[:n], p) }
}

func TestIndexesModifyNothing(t *testing.T) {
	lists := append(seriesLists()[:20], invalidSeries()[:5]...)
	for _, list := range lists {
		l, unchanged := spaciousSeries(list)
		p, unchangedToo := spaciousIndex(indexOf(list))
		other, unchangedEither := spaciousIndex(append(indexOf(list), impl.Post{Name: "b", Val: "a", Ids: []int64{0}}))
		m, unchangedMatches := withSpare([]impl.Match{{Name: "name", Val: "cpu"}, {Name: "host", Not: true}}, impl.Match{Name: "z"}, impl.Match{Name: "y"})
		for range 2 {
			got, _ := impl.IndexOf(l)
			for i := range got {
				overwrite(got[i].Ids, 77)
			}
			overwrite(got, impl.Post{Name: "x"})
			for n := range len(m) + 1 {
				overwrite(impl.Lookup(l, p, m[:n]), 77)
				overwrite(impl.Lookup(l, other, m[:n]), 77)
			}
		}
		if !unchanged() || !unchangedToo() || !unchangedEither() || !unchangedMatches() {
			t.Error(list, "has changed")
		}
	}
}

func TestListsOfAnIndexShareNoMemory(t *testing.T) {
	for _, l := range seriesLists() {
		got, _ := impl.IndexOf(l)
		want := indexOf(l)
		for i, x := range got {
			overwrite(x.Ids, 77)
			overwrite(want[i].Ids, 77)
			if !sameIndex(got, want) {
				t.Fatal("shared memory", got)
			}
		}
	}
}
