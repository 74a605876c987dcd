package tests

import (
	"maps"
	"math/rand/v2"
	"slices"
	"testing"
	"testing/synctest"

	"loop.example/g00617/impl"
)

// Promise 12: a written line is the last point of its series, and all other
// series are unchanged; each time has the sum of the values of the individual
// series.

const (
	maxDb    = 8
	maxLines = 300
)

// A store is the model of a database: the history of each series under the text
// of its labels.
type store map[string]history

func emptyHistory() history {
	return history{keep: 60, widths: []int64{10, 60}, keeps: []int64{200, 1200}}
}

func (s store) texts() []string {
	return slices.Sorted(maps.Keys(s))
}

func (s store) db() impl.Db {
	var d impl.Db
	for _, text := range s.texts() {
		d.Series = append(d.Series, impl.Series{L: labelsFrom(text), C: s[text].cascade()})
	}
	return d
}

// written is the model of Write.
func (s store) written(x impl.Line) (store, bool) {
	text := labelsText(x.L)
	h, found := s[text]
	if !found {
		h = emptyHistory()
	}
	if _, ok := lineFrom(lineText(x)); !ok || x.T <= h.now || !found && len(s) == maxDb {
		return nil, false
	}
	out := maps.Clone(s)
	out[text] = h.with(impl.Point{T: x.T, V: x.V})
	return out, true
}

// storeOf returns the store with these lines, which must all be valid.
func storeOf(t *testing.T, texts ...string) store {
	t.Helper()
	s := store{}
	for _, text := range texts {
		next, ok := s.written(line(t, text))
		if !ok {
			t.Fatal(text)
		}
		s = next
	}
	return s
}

func line(t *testing.T, s string) impl.Line {
	t.Helper()
	x, ok := lineFrom(s)
	if !ok {
		t.Fatal(s)
	}
	return x
}

func sameSeries(a, b impl.Series) bool {
	return slices.Equal(a.L, b.L) && sameCascade(a.C, b.C)
}

func sameDb(a, b impl.Db) bool {
	return slices.EqualFunc(a.Series, b.Series, sameSeries)
}

func wantDb(t *testing.T, got impl.Db, ok bool, want impl.Db) {
	t.Helper()
	if !ok || !sameDb(got, want) {
		t.Fatalf("got %v, %v; want %v, true", got, ok, want)
	}
	if !impl.DbOk(got) {
		t.Fatalf("%v is not valid", got)
	}
}

func wantNoDb(t *testing.T, got impl.Db, ok bool) {
	t.Helper()
	if ok || len(got.Series) > 0 {
		t.Fatalf("got %v, %v; want no database, false", got, ok)
	}
}

func wantSelected(t *testing.T, d impl.Db, m []impl.Match, want []int64) {
	t.Helper()
	if got := impl.Select(d, m); !slices.Equal(got, want) {
		t.Fatalf("%v in %v: got %v, want %v", m, d, got, want)
	}
}

func wantAsked(t *testing.T, d impl.Db, m []impl.Match, from, to, how int64, want []impl.Point) {
	t.Helper()
	if got, ok := impl.Ask(d, m, from, to, how); !ok || !slices.Equal(got, want) {
		t.Fatalf("%v from %d to %d, how %d, %v: got %v, %v; want %v, true", m, from, to, how, d, got, ok, want)
	}
}

func wantNotAsked(t *testing.T, d impl.Db, m []impl.Match, from, to, how int64) {
	t.Helper()
	if got, ok := impl.Ask(d, m, from, to, how); ok || len(got) > 0 {
		t.Fatalf("%v from %d to %d, how %d, %v: got %v, %v; want no points, false", m, from, to, how, d, got, ok)
	}
}

// wantDbOk reports a database that is not judged like this by DbOk, or by the
// other functions when they have nothing to do.
func wantDbOk(t *testing.T, d impl.Db, want bool) {
	t.Helper()
	if impl.DbOk(d) != want {
		t.Fatalf("%v: want %v", d, want)
	}
	none := []impl.Match{{Name: "a b", Val: "c d"}}
	forgotten, ok := impl.Forget(d, none)
	if want {
		wantDb(t, forgotten, ok, d)
		wantSelected(t, d, nil, idsInSteps(len(d.Series), 0, 1))
		wantAsked(t, d, none, 0, 99, agSum, nil)
		return
	}
	wantNoDb(t, forgotten, ok)
	for _, m := range [][]impl.Match{nil, none, {{Name: "n", Val: "1"}}} {
		forgotten, ok = impl.Forget(d, m)
		wantNoDb(t, forgotten, ok)
		wantSelected(t, d, m, nil)
		for how := range int64(8) {
			wantNotAsked(t, d, m, 0, 99, how)
			wantNotAsked(t, d, m, 100, 200, how)
		}
	}
	for _, labels := range []string{"n=1", "n=2", "zz=1"} {
		for _, at := range []int64{1, 500, maxTime} {
			got, ok := impl.Write(d, impl.Line{L: labelsFrom(labels), V: 1, T: at})
			wantNoDb(t, got, ok)
		}
	}
}

func seriesWith(labels string, c impl.Cascade) impl.Series {
	return impl.Series{L: seriesOf(labels)[0].L, C: c}
}

// dbOf returns a database without points, also if it is not valid.
func dbOf(texts ...string) impl.Db {
	var d impl.Db
	for _, text := range texts {
		d.Series = append(d.Series, seriesWith(text, emptyHistory().cascade()))
	}
	return d
}

func TestMaxDb(t *testing.T) {
	if impl.MaxDb != maxDb {
		t.Error(impl.MaxDb)
	}
}

func TestNumbersOfSeries(t *testing.T) {
	texts := []string{"n=0", "n=1", "n=2", "n=3", "n=4", "n=5", "n=6", "n=7", "n=8", "n=9", "n=a"}
	for n := range len(texts) + 1 {
		wantDbOk(t, dbOf(texts[:n]...), n <= maxDb)
	}
}

func TestOrderOfSeries(t *testing.T) {
	for _, texts := range [][]string{
		{"a=1", "a=2"},
		{"a=1", "b=1"},
		{"a=1", "a=10"},
		{"a=10", "a=2"},
		// The comma and the digits are less than the equals sign, and all other
		// letters are greater.
		{"a0=1", "a=1"},
		{"a0=1", "a=0"},
		{"a=1", "a_=1"},
		{"a=2", "aa=1"},
		{"a=1", "a=1,b=1"},
		{"a=1,b=1", "a=10"},
		{"a=1,b=1", "a=1,b=2"},
		{"a=1,b=2", "a=1,c=1"},
		{"a=1,b=9,c=1", "a=1,b=a"},
		{"9=1", "_=1"},
		{"_=1", "a=1"},
	} {
		wantDbOk(t, dbOf(texts...), true)
		wantDbOk(t, dbOf(texts[1], texts[0]), false)
		wantDbOk(t, dbOf(texts[0], texts[0]), false)
		wantDbOk(t, dbOf(texts[1], texts[1]), false)
	}
	wantDbOk(t, dbOf("n=1", "n=2", "n=3"), true)
	for _, texts := range [][]string{{"n=2", "n=1", "n=3"}, {"n=1", "n=3", "n=2"}, {"n=3", "n=1", "n=2"}, {"n=1", "n=2", "n=1"}, {"n=1", "n=1", "n=2"}, {"n=1", "n=2", "n=2"}} {
		wantDbOk(t, dbOf(texts...), false)
	}
}

func TestLabelsOfSeries(t *testing.T) {
	for _, l := range validLabels() {
		wantDbOk(t, impl.Db{Series: []impl.Series{{L: l, C: emptyHistory().cascade()}}}, true)
	}
	for i, l := range invalidLabels() {
		bad := impl.Series{L: l, C: emptyHistory().cascade()}
		if i%20 > 0 {
			wantDbOk(t, impl.Db{Series: []impl.Series{bad}}, false)
			continue
		}
		for at := range 3 {
			d := dbOf("n=1", "n=2")
			d.Series = slices.Insert(d.Series, at, bad)
			wantDbOk(t, d, false)
		}
	}
}

// wantDataOk reports a cascade that is not judged like this as that of a series,
// whichever one of several it is.
func wantDataOk(t *testing.T, c impl.Cascade, want bool) {
	t.Helper()
	wantDbOk(t, impl.Db{Series: []impl.Series{seriesWith("n=1", c)}}, want)
	for i := range 3 {
		d := dbOf("n=1", "n=2", "n=3")
		d.Series[i].C = c
		wantDbOk(t, d, want)
	}
}

func TestSizesOfTheDataOfSeries(t *testing.T) {
	for _, x := range []struct {
		h    history
		want bool
	}{
		{history{keep: 60, widths: []int64{10, 60}, keeps: []int64{200, 1200}}, true},
		{history{keep: 59, widths: []int64{10, 60}, keeps: []int64{200, 1200}}, false},
		{history{keep: 61, widths: []int64{10, 60}, keeps: []int64{200, 1200}}, false},
		{history{keep: 1, widths: []int64{10, 60}, keeps: []int64{200, 1200}}, false},
		{history{keep: 60, widths: []int64{5, 60}, keeps: []int64{200, 1200}}, false},
		{history{keep: 60, widths: []int64{20, 60}, keeps: []int64{200, 1200}}, false},
		{history{keep: 60, widths: []int64{10, 30}, keeps: []int64{200, 1200}}, false},
		{history{keep: 60, widths: []int64{10, 120}, keeps: []int64{200, 1200}}, false},
		{history{keep: 60, widths: []int64{10, 60}, keeps: []int64{190, 1200}}, false},
		{history{keep: 60, widths: []int64{10, 60}, keeps: []int64{210, 1200}}, false},
		{history{keep: 60, widths: []int64{10, 60}, keeps: []int64{200, 1140}}, false},
		{history{keep: 60, widths: []int64{10, 60}, keeps: []int64{200, 1260}}, false},
		{history{keep: 60}, false},
		{history{keep: 60, widths: []int64{10}, keeps: []int64{200}}, false},
		{history{keep: 60, widths: []int64{60}, keeps: []int64{1200}}, false},
		{history{keep: 60, widths: []int64{10, 60, 120}, keeps: []int64{200, 1200, 1200}}, false},
		{history{keep: 60, widths: []int64{5, 10, 60}, keeps: []int64{200, 200, 1200}}, false},
	} {
		for _, now := range []int64{0, 1, 500, maxTime} {
			x.h.now = now
			c := x.h.cascade()
			if !impl.CascadeOk(c) {
				t.Fatal(c)
			}
			wantDataOk(t, c, x.want)
		}
	}
	wantDataOk(t, impl.Cascade{}, false)
	wantDataOk(t, impl.Cascade{Keep: 60, Levels: []impl.Level{{Width: 60, Keep: 1200}, {Width: 10, Keep: 200}}}, false)
}

func TestInvalidDataOfSeries(t *testing.T) {
	h := emptyHistory().with(impl.Point{T: 95, V: 4}).with(impl.Point{T: 100, V: -4})
	change := func(f func(c *impl.Cascade)) impl.Cascade {
		c := h.cascade()
		f(&c)
		return c
	}
	wantDataOk(t, h.cascade(), true)
	for _, f := range []func(c *impl.Cascade){
		func(c *impl.Cascade) { c.Now = 99 },
		func(c *impl.Cascade) { c.Now = 155 },
		func(c *impl.Cascade) { c.Now = -1 },
		func(c *impl.Cascade) { c.Now = maxTime + 1 },
		func(c *impl.Cascade) { c.Raw[0].T = 100 },
		func(c *impl.Cascade) { c.Raw[0].T = 101 },
		func(c *impl.Cascade) { c.Raw[0].T = 40 },
		func(c *impl.Cascade) { c.Raw[0].V = maxSmall + 1 },
		func(c *impl.Cascade) { c.Raw[1].V = -maxSmall - 1 },
		func(c *impl.Cascade) { c.Levels[0].Rolls[0].T = 91 },
		func(c *impl.Cascade) { c.Levels[0].Rolls[1].T = 110 },
		func(c *impl.Cascade) { c.Levels[0].Rolls[1].Count = 0 },
		func(c *impl.Cascade) { c.Levels[1].Rolls[0].Sum = 9 },
		func(c *impl.Cascade) { c.Levels[1].Rolls[0].Last = 5 },
		func(c *impl.Cascade) { c.Levels[1].Rolls[0].T = 120 },
	} {
		wantDataOk(t, change(f), false)
	}
	c := h.cascade()
	c.Now, c.Raw = 154, c.Raw[1:]
	wantDataOk(t, c, true)
}

// randomLines returns lines of few series, some of which are not later than
// their series or not valid.
func randomLines(r *rand.Rand, n int) []impl.Line {
	all := []string{"host=a", "host=b", "host=a,name=x", "host=b,name=x", "name=x", "name=y", "a=1", "a0=1", "a_=1", "zone=9"}
	r.Shuffle(len(all), func(i, j int) { all[i], all[j] = all[j], all[i] })
	labels := all[:6+r.IntN(5)]
	latest := map[string]int64{}
	var out []impl.Line
	for range n {
		text := labels[r.IntN(len(labels))]
		latest[text] += 1 + r.Int64N(int64(1)<<r.IntN(9))
		x := impl.Line{L: labelsFrom(text), V: randomSmall(r), T: latest[text]}
		switch r.IntN(30) {
		case 0:
			x.T -= r.Int64N(100)
		case 1:
			x.V = maxSmall + 1 + r.Int64N(9)
		case 2:
			x.V = -maxSmall - 1 - r.Int64N(9)
		case 3:
			x.L = invalidLabels()[r.IntN(20)]
		case 4:
			x.T = []int64{0, -1, maxTime + 1}[r.IntN(3)]
		}
		out = append(out, x)
	}
	return out
}

// wantWritten reports that the line is not the last point of its series, or that
// another series has changed.
func wantWritten(t *testing.T, before, after impl.Db, x impl.Line) {
	t.Helper()
	found := 0
	for _, s := range after.Series {
		if !slices.Equal(s.L, x.L) {
			if !slices.ContainsFunc(before.Series, func(o impl.Series) bool { return sameSeries(o, s) }) {
				t.Fatalf("%v: another series is %v", x, s)
			}
			continue
		}
		found++
		if s.C.Now != x.T || s.C.Raw[len(s.C.Raw)-1] != (impl.Point{T: x.T, V: x.V}) {
			t.Fatalf("%v: its series is %v", x, s)
		}
	}
	others := slices.DeleteFunc(slices.Clone(before.Series), func(s impl.Series) bool { return slices.Equal(s.L, x.L) })
	if found != 1 || len(others) != len(after.Series)-1 {
		t.Fatalf("%v: %v has become %v", x, before, after)
	}
}

func TestWrittenLines(t *testing.T) {
	r := numbers()
	seen := map[bool]int{}
	for range 12 {
		s, d := store{}, impl.Db{}
		for _, x := range randomLines(r, 200) {
			got, ok := impl.Write(d, x)
			next, valid := s.written(x)
			seen[valid]++
			if !valid {
				wantNoDb(t, got, ok)
				continue
			}
			wantDb(t, got, ok, next.db())
			wantWritten(t, d, got, x)
			s, d = next, got
		}
	}
	if seen[true] < 1000 || seen[false] < 200 {
		t.Error("few cases of one kind:", seen)
	}
}

func TestLimitsOfWrite(t *testing.T) {
	late := storeOf(t, "n=1 5 1000000000000")
	one := storeOf(t, "n=1 5 100", "n=2 6 50")
	for _, x := range []struct {
		s    store
		l    string
		v    int64
		at   int64
		want bool
	}{
		{store{}, "n=1", 0, 0, false}, // a new series is at the time 0
		{store{}, "n=1", 0, 1, true},
		{store{}, "n=1", 0, maxTime, true},
		{store{}, "n=1", 0, maxTime + 1, false},
		{store{}, "n=1", 0, -1, false},
		{store{}, "n=1", maxSmall, 1, true},
		{store{}, "n=1", -maxSmall, 1, true},
		{store{}, "n=1", maxSmall + 1, 1, false},
		{store{}, "n=1", -maxSmall - 1, 1, false},
		{one, "n=1", 0, 99, false},
		{one, "n=1", 0, 100, false},
		{one, "n=1", 0, 101, true},
		{one, "n=1", 0, 0, false},
		{one, "n=2", 0, 50, false},
		{one, "n=2", 0, 51, true},
		{one, "n=3", 0, 1, true},
		{one, "n=3", 0, 0, false},
		{one, "m=9", 0, 1, true},
		{one, "n=1", 0, maxTime, true},
		{one, "n=1", 0, maxTime + 1, false},
		{one, "n=1", maxSmall, 101, true},
		{one, "n=1", -maxSmall, 101, true},
		{one, "n=1", maxSmall + 1, 101, false},
		{one, "n=1", -maxSmall - 1, 101, false},
		{late, "n=1", 0, maxTime, false},
		{late, "n=1", 0, maxTime + 1, false},
		{late, "n=1", 0, 5, false},
		{late, "n=2", 0, 5, true},
		{late, "n=2", 0, maxTime, true},
	} {
		written := impl.Line{L: labelsFrom(x.l), V: x.v, T: x.at}
		got, ok := impl.Write(x.s.db(), written)
		next, valid := x.s.written(written)
		if valid != x.want {
			t.Fatal(x)
		}
		if x.want {
			wantDb(t, got, ok, next.db())
		} else {
			wantNoDb(t, got, ok)
		}
	}
}

func TestInvalidLabelsOfWrittenLines(t *testing.T) {
	for _, s := range []store{{}, storeOf(t, "n=1 5 100", "n=2 6 50")} {
		for _, l := range invalidLabels() {
			got, ok := impl.Write(s.db(), impl.Line{L: l, V: 1, T: 500})
			wantNoDb(t, got, ok)
		}
	}
}

// TestNinthSeries fills a database in several orders. Then it rejects a further
// series, wherever that one would be, but not the lines of those that it has.
func TestNinthSeries(t *testing.T) {
	r := numbers()
	for range 20 {
		s, d := store{}, impl.Db{}
		for i, n := range r.Perm(9) {
			x := impl.Line{L: []impl.Label{{Name: "n", Val: string(rune('a' + n))}}, V: 1, T: 5}
			next, _ := s.written(x)
			got, ok := impl.Write(d, x)
			if i == maxDb {
				wantNoDb(t, got, ok)
				continue
			}
			wantDb(t, got, ok, next.db())
			s, d = next, got
		}
		for _, text := range s.texts() {
			x := impl.Line{L: labelsFrom(text), V: 2, T: 6}
			next, _ := s.written(x)
			got, ok := impl.Write(d, x)
			wantDb(t, got, ok, next.db())
		}
	}
}

// TestFullRolls has a series whose next point may not belong to a Roll any more.
func TestFullRolls(t *testing.T) {
	full := func(at int64) []impl.Roll {
		return []impl.Roll{{T: at, Count: maxCount, Min: -1, Max: 1}}
	}
	c := emptyHistory().cascade()
	c.Now, c.Levels[0].Rolls = 125, full(120)
	d := dbOf("n=1", "n=2")
	d.Series[1].C = c
	for at, want := range map[int64]bool{126: false, 129: false, 130: true, 179: true, 180: true} {
		if got, ok := impl.Write(d, impl.Line{L: labelsFrom("n=2"), T: at}); ok != want || len(got.Series) > 0 != want {
			t.Error(at, got, ok)
		}
	}
	d.Series[1].C.Levels[1].Rolls = full(120)
	for at, want := range map[int64]bool{126: false, 130: false, 179: false, 180: true} {
		if got, ok := impl.Write(d, impl.Line{L: labelsFrom("n=2"), T: at}); ok != want || len(got.Series) > 0 != want {
			t.Error(at, got, ok)
		}
	}
	wantDbOk(t, d, true)
	if _, ok := impl.Write(d, impl.Line{L: labelsFrom("n=1"), T: 126}); !ok {
		t.Error("another series is not full")
	}
}

// wantAll reports that WriteAll does not do what the model does with one line
// after the other.
func wantAll(t *testing.T, l []impl.Line, want int64) {
	t.Helper()
	s := store{}
	count := int64(0)
	for _, x := range l[:min(len(l), maxLines)] {
		next, ok := s.written(x)
		if !ok {
			break
		}
		s = next
		count++
	}
	got, n := impl.WriteAll(l)
	if n != want || count != want {
		t.Fatalf("%d lines are written; want %d, the model %d", n, want, count)
	}
	wantDb(t, got, true, s.db())
}

// lines returns n valid lines of three series.
func lines(n int) []impl.Line {
	var l []impl.Line
	for i := range int64(n) {
		l = append(l, impl.Line{L: []impl.Label{{Name: "n", Val: string(rune('c' - i%3))}}, V: i - 9, T: 4*i + 1})
	}
	return l
}

func TestNumbersOfWrittenLines(t *testing.T) {
	wantAll(t, nil, 0)
	wantAll(t, []impl.Line{}, 0)
	for _, n := range []int{1, 2, 3, 9, 100, 299, 300} {
		wantAll(t, lines(n), int64(n))
	}
	for _, n := range []int{301, 302, 600, 5000} {
		wantAll(t, lines(n), maxLines)
	}
}

func TestRejectedLines(t *testing.T) {
	for _, n := range []int{1, 2, 3, 30, 299, 300, 301, 400} {
		for _, at := range []int{0, 1, 2, n / 2, n - 2, n - 1} {
			if at < 0 || at >= n {
				continue
			}
			for _, bad := range []impl.Line{{}, {L: labelsFrom("n=c")}, {L: labelsFrom("n=c"), T: -1}, {L: labelsFrom("n=c"), T: maxTime + 1}, {L: labelsFrom("n=c"), V: maxSmall + 1, T: 5000}, {L: labelsFrom("b=1,c=2")}, {L: seriesOf("c=2,b=1")[0].L, T: 5000}} {
				l := lines(n)
				l[at] = bad
				wantAll(t, l, int64(min(at, maxLines)))
			}
		}
	}
	// Those behind a rejected line are not written, and neither is it.
	l := lines(9)
	l[4].T = l[1].T
	wantAll(t, l, 4)
}

func TestNinthSeriesOfWrittenLines(t *testing.T) {
	l := lines(20)
	for i := range l {
		l[i].L[0].Val = string(rune('z' - i))
	}
	wantAll(t, l, maxDb)
	l[12].L = l[3].L
	wantAll(t, l, maxDb)
	l[8].L = l[3].L
	wantAll(t, l, maxDb+1)
}

func TestRandomWrittenLines(t *testing.T) {
	r := numbers()
	for range 200 {
		l := randomLines(r, 40)
		d, n := impl.Db{}, int64(0)
		for _, x := range l {
			next, ok := impl.Write(d, x)
			if !ok {
				break
			}
			d = next
			n++
		}
		wantAll(t, l, n)
	}
}

// TestWriteAllLeavesNoGoroutine runs where one that waits is reported.
func TestWriteAllLeavesNoGoroutine(t *testing.T) {
	for _, n := range []int{0, 1, 2, 100, 300, 400} {
		for _, at := range []int{0, 1, n / 2, n - 1, n} {
			synctest.Test(t, func(t *testing.T) {
				l := lines(n)
				if at >= 0 && at < n {
					l[at].T = -1
				}
				impl.WriteAll(l)
			})
		}
	}
}

// randomStores returns stores whose series have different times.
func randomStores() []store {
	r := numbers()
	var out []store
	for range 60 {
		s := store{}
		for _, x := range randomLines(r, 10+r.IntN(80)) {
			if next, ok := s.written(x); ok {
				s = next
			}
		}
		for text, h := range s {
			if r.IntN(4) == 0 {
				h.now += r.Int64N(2000)
				s[text] = h
			}
		}
		out = append(out, s)
	}
	return out
}

// selected is the model of Select.
func (s store) selected(m []impl.Match) []int64 {
	var out []int64
	for i, text := range s.texts() {
		if matches(labelsFrom(text), m) {
			out = append(out, int64(i))
		}
	}
	return out
}

// matchLists returns no match, one match of each kind, and several.
func matchLists(r *rand.Rand) [][]impl.Match {
	out := [][]impl.Match{
		nil,
		{},
		{{Name: "host", Not: true}},
		{{Name: "host", Not: true}, {Name: "name"}},
		{{Name: "host", Val: "a"}, {Name: "host", Val: "b"}},
		{{Name: "host", Val: "a", Not: true}, {Name: "host", Val: "b", Not: true}},
		{{Name: "name", Val: "x"}, {Name: "host", Val: "a", Not: true}},
		{{Name: "host", Val: "a"}, {Name: "name", Val: "x"}},
	}
	for _, name := range []string{"host", "name", "zone", "a", "a0", "", "A B", "host=a", "no"} {
		for _, value := range []string{"a", "x", "1", "9", "", "A B", "=", ten + "a"} {
			out = append(out, []impl.Match{{Name: name, Val: value}}, []impl.Match{{Name: name, Val: value, Not: true}})
		}
	}
	r.Shuffle(len(out), func(i, j int) { out[i], out[j] = out[j], out[i] })
	return out
}

func TestSelect(t *testing.T) {
	seen := map[string]int{}
	for _, s := range randomStores() {
		d := s.db()
		for _, m := range matchLists(numbers()) {
			want := s.selected(m)
			wantSelected(t, d, m, want)
			switch len(want) {
			case 0:
				seen["none"]++
			case len(s):
				seen["all"]++
			default:
				seen["some"]++
			}
		}
	}
	if seen["none"] < 100 || seen["all"] < 100 || seen["some"] < 100 {
		t.Error("few cases of one kind:", seen)
	}
}

func TestSelectExamples(t *testing.T) {
	d := dbOf("host=a", "host=a,name=x", "host=b", "name=x")
	for _, x := range []struct {
		m    []impl.Match
		want []int64
	}{
		{nil, []int64{0, 1, 2, 3}},
		{[]impl.Match{{Name: "host", Val: "a"}}, []int64{0, 1}},
		{[]impl.Match{{Name: "host", Val: "a", Not: true}}, []int64{2, 3}},
		{[]impl.Match{{Name: "host"}}, []int64{3}},
		{[]impl.Match{{Name: "host", Not: true}}, []int64{0, 1, 2}},
		{[]impl.Match{{Name: "name", Val: "x"}, {Name: "host", Not: true}}, []int64{1}},
		{[]impl.Match{{Name: "host", Val: "A B"}}, nil},
		{[]impl.Match{{Name: "A B"}}, []int64{0, 1, 2, 3}},
		{[]impl.Match{{Name: "A B", Not: true}}, nil},
		{[]impl.Match{{}}, []int64{0, 1, 2, 3}},
	} {
		wantSelected(t, d, x.m, x.want)
	}
	wantSelected(t, impl.Db{}, nil, nil)
}

func TestForget(t *testing.T) {
	for _, s := range randomStores() {
		d := s.db()
		for _, m := range matchLists(numbers()) {
			left := store{}
			for text, h := range s {
				if !matches(labelsFrom(text), m) {
					left[text] = h
				}
			}
			got, ok := impl.Forget(d, m)
			wantDb(t, got, ok, left.db())
			again, ok := impl.Forget(got, m)
			wantDb(t, again, ok, got)
		}
	}
}

// TestForgottenSeries writes a series anew, which begins without points, and
// another one in the place that is free.
func TestForgottenSeries(t *testing.T) {
	s := store{}
	for _, c := range "abcdefgh" {
		s["n="+string(c)] = emptyHistory().with(impl.Point{T: 900, V: 4})
	}
	for _, c := range "abcdefgh" {
		text := "n=" + string(c)
		d, ok := impl.Forget(s.db(), []impl.Match{{Name: "n", Val: string(c)}})
		left := maps.Clone(s)
		delete(left, text)
		wantDb(t, d, ok, left.db())
		for _, labels := range []string{text, "a=0", "z=0"} {
			x := impl.Line{L: labelsFrom(labels), V: 3, T: 7}
			want, _ := left.written(x)
			got, ok := impl.Write(d, x)
			wantDb(t, got, ok, want.db())
		}
	}
	none, ok := impl.Forget(s.db(), nil)
	wantDb(t, none, ok, impl.Db{})
	none, ok = impl.Forget(impl.Db{}, nil)
	wantDb(t, none, ok, impl.Db{})
}

// asked is the model of Ask: it reads all points ever received. It also returns
// how many series have each time.
func (s store) asked(m []impl.Match, from, to, how int64) ([]impl.Point, map[int64]int, bool) {
	sums, series := map[int64]int64{}, map[int64]int{}
	for _, i := range s.selected(m) {
		h := s[s.texts()[i]]
		if h.picked(from) < -1 || to < 0 || to > maxTime || how < agCount || how > agMean {
			return nil, nil, false
		}
		for _, p := range h.answer(from, to, how) {
			sums[p.T] += p.V
			series[p.T]++
		}
	}
	var out []impl.Point
	for _, at := range slices.Sorted(maps.Keys(sums)) {
		out = append(out, impl.Point{T: at, V: sums[at]})
	}
	return out, series, true
}

// edgeTimes returns some of the times around those at which an answer of a
// series may change.
func (s store) edgeTimes(r *rand.Rand, n int) []int64 {
	var all, out []int64
	for _, text := range s.texts() {
		all = append(all, s[text].edgeTimes(r)...)
	}
	for range n {
		out = append(out, all[r.IntN(len(all))])
	}
	return out
}

// picks returns the data that are selected for each series that matches.
func (s store) picks(m []impl.Match, from int64) map[int64]int {
	out := map[int64]int{}
	for _, i := range s.selected(m) {
		out[s[s.texts()[i]].picked(from)]++
	}
	return out
}

func TestEachTimeHasTheSumOfTheSeries(t *testing.T) {
	r := numbers()
	seen := map[string]int{}
	for _, s := range randomStores() {
		d := s.db()
		for _, m := range matchLists(r)[:40] {
			for _, from := range s.edgeTimes(r, 8) {
				for _, to := range append(s.edgeTimes(r, 3), maxTime) {
					how := r.Int64N(8)
					want, series, ok := s.asked(m, from, to, how)
					picks := s.picks(m, from)
					if !ok {
						wantNotAsked(t, d, m, from, to, how)
						if picks[-2] > 0 && len(picks) > 1 && how%7 > 0 {
							seen["rejected because of one series"]++
						}
						continue
					}
					wantAsked(t, d, m, from, to, how, want)
					for _, n := range series {
						seen[map[bool]string{true: "of one series", false: "of several series"}[n == 1]]++
					}
					if len(picks) > 1 && len(want) > 0 {
						seen["of different data"]++
					}
				}
			}
		}
	}
	for _, kind := range []string{"rejected because of one series", "of one series", "of several series", "of different data"} {
		if seen[kind] < 200 {
			t.Error("few cases of one kind:", kind, seen)
		}
	}
}

// TestQueriesOfTheIndividualSeries compares with the queries themselves.
func TestQueriesOfTheIndividualSeries(t *testing.T) {
	r := numbers()
	answered := 0
	for _, s := range randomStores() {
		d := s.db()
		for _, from := range s.edgeTimes(r, 10) {
			for how := range int64(8) {
				sums, all := map[int64]int64{}, true
				for _, x := range d.Series {
					l, ok := impl.Query(x.C, from, maxTime, how)
					all = all && ok
					for _, p := range l {
						sums[p.T] += p.V
					}
				}
				if !all {
					wantNotAsked(t, d, nil, from, maxTime, how)
					continue
				}
				var want []impl.Point
				for _, at := range slices.Sorted(maps.Keys(sums)) {
					want = append(want, impl.Point{T: at, V: sums[at]})
				}
				wantAsked(t, d, nil, from, maxTime, how, want)
				answered++
			}
		}
	}
	if answered < 300 {
		t.Error("few answers:", answered)
	}
}

func TestAskExamples(t *testing.T) {
	s := storeOf(t, "host=a 5 3", "host=b 7 3", "host=a 1 14")
	d := s.db()
	for how, want := range map[int64][]impl.Point{
		agCount: {{T: 3, V: 2}, {T: 14, V: 1}},
		agSum:   {{T: 3, V: 12}, {T: 14, V: 1}},
		agMin:   {{T: 3, V: 12}, {T: 14, V: 1}},
		agMax:   {{T: 3, V: 12}, {T: 14, V: 1}},
		agLast:  {{T: 3, V: 12}, {T: 14, V: 1}},
		agMean:  {{T: 3, V: 12}, {T: 14, V: 1}},
	} {
		wantAsked(t, d, nil, 0, maxTime, how, want)
		wantAsked(t, d, nil, 3, 15, how, want)
		wantAsked(t, d, nil, 3, 14, how, want[:1])
		wantAsked(t, d, nil, 4, 15, how, want[1:])
		wantAsked(t, d, nil, 4, 14, how, nil)
	}
	wantAsked(t, d, []impl.Match{{Name: "host", Val: "b"}}, 0, 99, agSum, []impl.Point{{T: 3, V: 7}})
	for _, how := range []int64{0, 7, -1, maxInt, minInt} {
		wantNotAsked(t, d, nil, 0, 99, how)
	}
	for _, at := range []int64{-1, minInt, maxTime + 1, maxInt} {
		wantNotAsked(t, d, nil, at, 99, agSum)
		wantNotAsked(t, d, nil, 0, at, agSum)
	}
}

// TestMeansOfSeries has the sum of the means, each of which is rounded down.
func TestMeansOfSeries(t *testing.T) {
	d := storeOf(t, "n=1 1 10", "n=1 2 11", "n=1 0 100", "n=2 -1 12", "n=2 -2 13", "n=2 0 100", "n=3 5 15", "n=3 0 100").db()
	wantAsked(t, d, nil, 10, 20, agMean, []impl.Point{{T: 10, V: 1 - 2 + 5}})
	wantAsked(t, d, nil, 10, 20, agCount, []impl.Point{{T: 10, V: 5}})
	wantAsked(t, d, nil, 10, 20, agMin, []impl.Point{{T: 10, V: 1 - 2 + 5}})
	wantAsked(t, d, nil, 10, 20, agMax, []impl.Point{{T: 10, V: 2 - 1 + 5}})
	wantAsked(t, d, nil, 10, 20, agLast, []impl.Point{{T: 10, V: 2 - 2 + 5}})
	wantAsked(t, d, nil, 10, 20, agSum, []impl.Point{{T: 10, V: 3 - 3 + 5}})
}

// TestSumsThatAreZero has times at which the values cancel each other out.
func TestSumsThatAreZero(t *testing.T) {
	d := storeOf(t, "n=1 5 3", "n=2 -5 3", "n=1 0 4").db()
	wantAsked(t, d, nil, 0, 9, agSum, []impl.Point{{T: 3}, {T: 4}})
}

func TestSeriesOfDifferentData(t *testing.T) {
	s := storeOf(t, "n=1 1 25", "n=1 2 27", "n=1 4 90", "n=2 8 25", "n=2 16 30", "n=3 32 28", "n=3 64 300")
	d := s.db()
	one, two, three := []impl.Match{{Name: "n", Val: "1"}}, []impl.Match{{Name: "n", Val: "2"}}, []impl.Match{{Name: "n", Val: "3"}}
	for from, want := range map[int64][3]int64{20: {0, -1, 1}, 30: {0, -1, 1}, 31: {-1, -1, 1}, 100: {-1, -1, 1}, 101: {-1, -1, 0}, 241: {-1, -1, -1}} {
		for i, x := range d.Series {
			wantPick(t, x.C, from, want[i])
		}
	}
	wantAsked(t, d, one, 20, 99, agSum, []impl.Point{{T: 20, V: 3}, {T: 90, V: 4}})
	wantAsked(t, d, two, 20, 99, agSum, []impl.Point{{T: 25, V: 8}, {T: 30, V: 16}})
	wantAsked(t, d, three, 0, 999, agSum, []impl.Point{{T: 0, V: 32}, {T: 300, V: 64}})
	wantAsked(t, d, nil, 20, 999, agSum, []impl.Point{{T: 20, V: 3}, {T: 25, V: 8}, {T: 30, V: 16}, {T: 90, V: 4}, {T: 300, V: 64}})
	wantAsked(t, d, nil, 0, 999, agSum, []impl.Point{{T: 0, V: 32}, {T: 20, V: 3}, {T: 25, V: 8}, {T: 30, V: 16}, {T: 90, V: 4}, {T: 300, V: 64}})
}

// TestOneQueryThatReturnsFalse has one series without data that reach back far
// enough.
func TestOneQueryThatReturnsFalse(t *testing.T) {
	for _, far := range []string{"n=1", "n=2", "n=3"} {
		s := storeOf(t, "n=1 5 100", "n=2 6 100", "n=3 7 100")
		s[far] = s[far].with(impl.Point{T: 1300, V: 1})
		d := s.db()
		wantNotAsked(t, d, nil, 100, 101, agSum)
		wantNotAsked(t, d, []impl.Match{{Name: "n", Val: far[2:]}}, 100, 101, agSum)
		if got, ok := impl.Ask(d, nil, 101, maxTime, agSum); !ok || len(got) != 1 {
			t.Error(got, ok)
		}
		others := []impl.Match{{Name: "n", Val: far[2:], Not: true}}
		want, _, _ := s.asked(others, 100, 101, agSum)
		wantAsked(t, d, others, 100, 101, agSum, want)
	}
}

// TestAskWithoutSeries makes no query, so that none returns false.
func TestAskWithoutSeries(t *testing.T) {
	none := []impl.Match{{Name: "n", Val: "9"}}
	for _, at := range []int64{0, 99, maxTime, -1, maxTime + 1, maxInt, minInt} {
		for how := int64(-1); how < 9; how++ {
			wantAsked(t, impl.Db{}, nil, at, at, how, nil)
			wantAsked(t, dbOf("n=1", "n=2"), none, at, at, how, nil)
		}
	}
}

// TestGreatestSums has Rolls whose sums are as great as possible.
func TestGreatestSums(t *testing.T) {
	for _, v := range []int64{maxSmall, -maxSmall} {
		d := dbOf("n=1", "n=2", "n=3", "n=4", "n=5", "n=6", "n=7", "n=8")
		for i := range d.Series {
			c := &d.Series[i].C
			c.Now, c.Levels[0].Rolls = 125, []impl.Roll{{T: 60, Count: maxCount, Sum: maxCount * v, Min: v, Max: v, Last: v}}
		}
		wantDbOk(t, d, true)
		wantAsked(t, d, nil, 60, 99, agSum, []impl.Point{{T: 60, V: 8 * maxCount * v}})
		wantAsked(t, d, nil, 60, 99, agCount, []impl.Point{{T: 60, V: 8 * maxCount}})
		wantAsked(t, d, nil, 60, 99, agMean, []impl.Point{{T: 60, V: 8 * v}})
	}
}

func TestAdjacentTimeRangesOfSeries(t *testing.T) {
	r := numbers()
	same := 0
	for _, s := range randomStores() {
		d := s.db()
		for range 40 {
			times := s.edgeTimes(r, 3)
			slices.Sort(times)
			if !maps.Equal(s.picks(nil, times[0]), s.picks(nil, times[1])) {
				continue
			}
			first, ok := impl.Ask(d, nil, times[0], times[1], agSum)
			second, ok2 := impl.Ask(d, nil, times[1], times[2], agSum)
			if ok && ok2 {
				wantAsked(t, d, nil, times[0], times[2], agSum, slices.Concat(first, second))
				same++
			}
		}
	}
	if same < 50 {
		t.Error("few answers in two parts:", same)
	}
}

// dbs returns databases that are valid and others.
func dbs() []impl.Db {
	out := []impl.Db{{}, dbOf("n=1"), dbOf("n=1", "n=2"), dbOf("n=2", "n=1"), dbOf("n=1", "n=1"), dbOf("N=1"), {Series: []impl.Series{{}}}}
	for _, s := range randomStores()[:6] {
		out = append(out, s.db())
	}
	bad := randomStores()[0].db()
	bad.Series[1].C.Now = -1
	return append(out, bad)
}

func TestDatabasesAreNotModified(t *testing.T) {
	l := append(randomLines(numbers(), 20), impl.Line{L: labelsFrom("n=1"), T: 3000}, impl.Line{L: labelsFrom("host=a"), T: 3001}, impl.Line{L: seriesOf("n=2,n=1")[0].L, T: 4})
	for _, d := range dbs() {
		d = spaciousDb(d)
		unchanged := wantUnchanged(t, d)
		for _, x := range l {
			x = spaciousLine(x)
			unchangedLine := wantUnchanged(t, x)
			one, ok := impl.Write(d, x)
			two, ok2 := impl.Write(d, x)
			wantOwnMemory(t, one, d, x, two)
			if ok != ok2 || !sameDb(one, two) {
				t.Error("other results for equal arguments", d, x)
			}
			unchangedLine()
		}
		for _, list := range matchLists(numbers())[:20] {
			m, _ := withSpare(list, impl.Match{Name: "z"}, impl.Match{Name: "y", Not: true})
			unchangedMatches := wantUnchanged(t, m)
			impl.DbOk(d)
			left, _ := impl.Forget(d, m)
			again, _ := impl.Forget(d, m)
			wantOwnMemory(t, left, d, m, again)
			ids := impl.Select(d, m)
			wantOwnMemory(t, ids, d, m, impl.Select(d, m))
			for _, from := range []int64{0, 100, maxTime, -1} {
				points, _ := impl.Ask(d, m, from, maxTime, agSum)
				again, _ := impl.Ask(d, m, from, maxTime, agSum)
				wantOwnMemory(t, points, d, m, again)
				if !slices.Equal(points, again) {
					t.Error("other results for equal arguments", d, m)
				}
			}
			unchangedMatches()
		}
		unchanged()
	}
}

func TestWrittenLinesAreNotModified(t *testing.T) {
	for _, n := range []int{0, 1, 9, 300, 301} {
		for _, at := range []int{-1, 0, n / 2} {
			l := lines(n)
			for i := range l {
				l[i] = spaciousLine(l[i])
				if i == at {
					l[i].T = -1
				}
			}
			l = append(l, l...)[:n]
			unchanged := wantUnchanged(t, l)
			one, count := impl.WriteAll(l)
			two, again := impl.WriteAll(l)
			wantOwnMemory(t, one, l, two)
			if count != again || !sameDb(one, two) {
				t.Error("other results for equal arguments", count, again)
			}
			unchanged()
		}
	}
}
