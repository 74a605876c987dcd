package tests

import (
	"math/rand/v2"
	"slices"
	"testing"

	"loop.example/g00617/impl"
)

// Promise 13: a span has only points above the limit and is long enough.

// spansOf is the model of Above for valid points: it tries each pair of points.
func spansOf(l []impl.Point, limit, long int64) []impl.Span {
	above := func(i int) bool { return i >= 0 && i < len(l) && l[i].V > limit }
	var out []impl.Span
	for i, first := range l {
		for j := i; j < len(l) && above(j); j++ {
			if !above(i-1) && !above(j+1) && long >= 0 && l[j].T-first.T >= long {
				out = append(out, impl.Span{From: first.T, To: l[j].T})
			}
		}
	}
	return out
}

// fires is the model of Firing for valid points: it looks for the beginning of
// the last sequence from its end.
func fires(l []impl.Point, limit, long, now int64) bool {
	first := len(l)
	for first > 0 && l[first-1].V > limit {
		first--
	}
	if long < 0 || long > maxTime || now < 0 || now > maxTime || first == len(l) {
		return false
	}
	return l[len(l)-1].T <= now && now-l[first].T >= long
}

func wantAbove(t *testing.T, l []impl.Point, limit, long int64, want ...impl.Span) {
	t.Helper()
	if got := impl.Above(l, limit, long); !slices.Equal(got, want) {
		t.Fatalf("%v above %d for %d: got %v, want %v", l, limit, long, got, want)
	}
}

func wantFiring(t *testing.T, l []impl.Point, limit, long, now int64, want bool) {
	t.Helper()
	if got := impl.Firing(l, limit, long, now); got != want {
		t.Fatalf("%v above %d for %d at %d: got %v, want %v", l, limit, long, now, got, want)
	}
}

// wantSpan reports a span that is not that of a maximal sequence of points above
// the limit.
func wantSpan(t *testing.T, l []impl.Point, limit, long int64, s impl.Span) {
	t.Helper()
	from := slices.IndexFunc(l, func(p impl.Point) bool { return p.T == s.From })
	to := slices.IndexFunc(l, func(p impl.Point) bool { return p.T == s.To })
	if from < 0 || to < from || s.To-s.From < long || from > 0 && l[from-1].V > limit || to+1 < len(l) && l[to+1].V > limit {
		t.Fatalf("%v above %d for %d: got %v", l, limit, long, s)
	}
	for _, p := range l[from : to+1] {
		if p.V <= limit {
			t.Fatalf("%v above %d for %d: %v has %v", l, limit, long, s, p)
		}
	}
}

// swings returns valid points in sequences above 0 and not above 0.
func swings(r *rand.Rand, n int) []impl.Point {
	l := pointsOf(randomTimes(r, n, 6), make([]int64, n))
	high := r.IntN(2) == 0
	for i := range l {
		if r.IntN(4) == 0 {
			high = !high
		}
		l[i].V = -r.Int64N(3)
		if high {
			l[i].V = 1 + r.Int64N(3)
		}
	}
	return l
}

func alertLists() [][]impl.Point {
	r := numbers()
	out := [][]impl.Point{
		nil,
		{{}},
		{{T: 0, V: 1}, {T: maxTime, V: 1}},
		{{T: 0, V: minInt}, {T: 1, V: maxInt}, {T: 2, V: minInt}, {T: 3, V: minInt + 1}, {T: 4, V: maxInt - 1}},
		{{T: maxTime - 1, V: 5}, {T: maxTime, V: 5}},
	}
	for n := range maxPoints + 1 {
		out = append(out, swings(r, n), swings(r, n))
	}
	return append(out, pointLists()[:40]...)
}

func limits() []int64 {
	return []int64{-3, -2, -1, 0, 1, 2, 3, 4, 5, maxInt - 2, maxInt - 1, maxInt, minInt, minInt + 1, minInt + 2}
}

// durations returns those of all sequences, and those one shorter and longer.
func durations(l []impl.Point, limit int64) []int64 {
	out := []int64{0, 1, maxTime - 1, maxTime}
	for _, s := range spansOf(l, limit, 0) {
		out = append(out, s.To-s.From-1, s.To-s.From, s.To-s.From+1)
	}
	slices.Sort(out)
	return slices.Compact(out)
}

func TestSpansHaveOnlyPointsAboveTheLimit(t *testing.T) {
	spans := 0
	for _, l := range alertLists() {
		for _, limit := range limits() {
			for _, long := range append(durations(l, limit), maxTime+1, maxInt, -maxTime, minInt) {
				wantAbove(t, l, limit, long, spansOf(l, limit, long)...)
				for _, s := range impl.Above(l, limit, long) {
					wantSpan(t, l, limit, long, s)
					spans++
				}
			}
		}
	}
	if spans < 10000 {
		t.Error("few spans:", spans)
	}
}

func TestLastSequenceFires(t *testing.T) {
	seen := map[bool]int{}
	for _, l := range alertLists() {
		var last impl.Point
		if len(l) > 0 {
			last = l[len(l)-1]
		}
		for _, limit := range append(limits(), last.V) {
			for _, now := range []int64{0, last.T - 1, last.T, last.T + 1, last.T + 50, maxTime, maxTime + 1, -1} {
				all := append(durations(l, limit), -1, maxTime+1)
				for _, s := range spansOf(l, limit, 0) {
					all = append(all, now-s.From-1, now-s.From, now-s.From+1)
				}
				for _, long := range all {
					want := fires(l, limit, long, now)
					wantFiring(t, l, limit, long, now, want)
					seen[want]++
				}
			}
		}
	}
	if seen[true] < 10000 || seen[false] < 10000 {
		t.Error("few cases of one kind:", seen)
	}
}

// TestAlertsAtTheLastPoint compares the two functions: at the time of the last
// point an alert fires if the last span ends there.
func TestAlertsAtTheLastPoint(t *testing.T) {
	for _, l := range alertLists()[1:] {
		if len(l) == 0 {
			continue
		}
		now := l[len(l)-1].T
		for _, limit := range limits() {
			for _, long := range durations(l, limit) {
				if long < 0 {
					continue
				}
				spans := impl.Above(l, limit, long)
				wantFiring(t, l, limit, long, now, len(spans) > 0 && spans[len(spans)-1].To == now)
			}
		}
	}
}

func TestAboveExamples(t *testing.T) {
	l := []impl.Point{{T: 1, V: 9}, {T: 5, V: 9}, {T: 6, V: 3}, {T: 10, V: 8}, {T: 20, V: 9}, {T: 31, V: 7}}
	first, second := impl.Span{From: 1, To: 5}, impl.Span{From: 10, To: 31}
	wantAbove(t, l, 5, 4, first, second)
	wantAbove(t, l, 5, 0, first, second)
	wantAbove(t, l, 5, 5, second)
	wantAbove(t, l, 5, 21, second)
	wantAbove(t, l, 5, 22)
	wantAbove(t, l, 6, 4, first, second)
	wantAbove(t, l, 7, 4, first, impl.Span{From: 10, To: 20})
	wantAbove(t, l, 7, 10, impl.Span{From: 10, To: 20})
	wantAbove(t, l, 7, 11)
	wantAbove(t, l, 8, 0, first, impl.Span{From: 20, To: 20})
	wantAbove(t, l, 8, 1, first)
	wantAbove(t, l, 9, 0)
	wantAbove(t, l, 3, 0, first, second)
	wantAbove(t, l, 2, 0, impl.Span{From: 1, To: 31})
	wantAbove(t, l, 2, 30, impl.Span{From: 1, To: 31})
	wantAbove(t, l, 2, 31)
	for _, long := range []int64{-1, -maxTime, minInt} {
		wantAbove(t, l, 5, long)
	}
	for _, long := range []int64{maxTime, maxTime + 1, maxInt} {
		wantAbove(t, l, 5, long)
	}
	wantAbove(t, nil, 5, 0)
	wantAbove(t, l[:1], 8, 0, impl.Span{From: 1, To: 1})
	wantAbove(t, l[:1], 8, 1)
	wantAbove(t, l[:1], 9, 0)
}

func TestLongestSpans(t *testing.T) {
	l := []impl.Point{{T: 0, V: 1}, {T: maxTime, V: 1}}
	whole := impl.Span{From: 0, To: maxTime}
	wantAbove(t, l, 0, maxTime, whole)
	wantAbove(t, l, 0, maxTime+1)
	wantAbove(t, l, minInt, 0, whole)
	wantAbove(t, l, maxInt, 0)
	wantFiring(t, l, 0, maxTime, maxTime, true)
	wantFiring(t, l, 0, maxTime+1, maxTime, false)
	wantFiring(t, l, 0, maxTime, maxTime+1, false)
	wantFiring(t, l, 0, maxTime, maxTime-1, false)
	var same []int64
	for range maxPoints {
		same = append(same, maxInt)
	}
	wantAbove(t, valued(same...), maxInt-1, 3*(maxPoints-1), impl.Span{From: 0, To: 3 * (maxPoints - 1)})
	wantAbove(t, valued(same...), maxInt, 0)
}

func TestLimitsAtTheEndsOfTheNumbers(t *testing.T) {
	l := valued(minInt, minInt+1, maxInt-1, maxInt)
	wantAbove(t, l, minInt, 0, impl.Span{From: 3, To: 9})
	wantAbove(t, l, minInt+1, 0, impl.Span{From: 6, To: 9})
	wantAbove(t, l, maxInt-2, 0, impl.Span{From: 6, To: 9})
	wantAbove(t, l, maxInt-1, 0, impl.Span{From: 9, To: 9})
	wantAbove(t, l, maxInt, 0)
	wantFiring(t, l, minInt, 6, 9, true)
	wantFiring(t, l, minInt, 7, 9, false)
	wantFiring(t, l, maxInt-1, 0, 9, true)
	wantFiring(t, l, maxInt-1, 1, 9, false)
	wantFiring(t, l, maxInt, 0, 9, false)
	wantFiring(t, l[:1], minInt, 0, 9, false)
	wantFiring(t, l[:1], minInt, 0, 0, false)
}

func TestFiringExamples(t *testing.T) {
	l := []impl.Point{{T: 1, V: 9}, {T: 5, V: 9}, {T: 6, V: 3}, {T: 10, V: 8}, {T: 20, V: 9}, {T: 31, V: 7}}
	for _, x := range []struct {
		limit, long, now int64
		want             bool
	}{
		{5, 25, 35, true},
		{5, 26, 35, false},
		{5, 24, 34, true},
		{5, 25, 34, false},
		{5, 21, 31, true},
		{5, 22, 31, false},
		{5, 0, 31, true},
		{5, 0, 30, false},
		{5, 0, 0, false},
		{5, 0, -1, false},
		{5, 20, 30, false},
		{6, 0, 31, true},
		{7, 0, 31, false},
		{7, 0, 35, false},
		{2, 34, 35, true},
		{2, 35, 35, false},
		{5, maxTime - 10, maxTime, true},
		{5, maxTime - 9, maxTime, false},
		{5, 0, maxTime, true},
		{5, 0, maxTime + 1, false},
		{5, 0, maxInt, false},
		{5, 0, minInt, false},
		{5, -1, 35, false},
		{5, minInt, 35, false},
		{5, maxTime, maxTime, false},
		{5, maxTime + 1, maxTime, false},
		{5, maxInt, maxTime, false},
	} {
		wantFiring(t, l, x.limit, x.long, x.now, x.want)
	}
	wantFiring(t, l[:1], 8, 0, 1, true)
	wantFiring(t, l[:1], 8, 1, 1, false)
	wantFiring(t, l[:1], 8, 1, 2, true)
	wantFiring(t, l[:1], 9, 0, 1, false)
	wantFiring(t, l[:3], 5, 0, 31, false)
	for _, limit := range limits() {
		wantFiring(t, nil, limit, 0, 0, false)
		wantFiring(t, nil, limit, 0, maxTime, false)
	}
}

func TestAlertsOfInvalidPoints(t *testing.T) {
	for _, l := range append(invalidPoints(), farPoints(maxPoints+1)) {
		for _, limit := range []int64{minInt, -1, 0} {
			for _, long := range []int64{-1, 0, 1, maxTime} {
				wantAbove(t, l, limit, long)
				for _, now := range []int64{0, 5, 500, maxTime, maxInt} {
					wantFiring(t, l, limit, long, now, false)
				}
			}
		}
	}
	wantAbove(t, farPoints(maxPoints), -1, 0, impl.Span{From: maxWidth, To: maxPoints * maxWidth})
	wantFiring(t, farPoints(maxPoints), -1, 0, maxTime, true)
}

func TestAlertsModifyNothing(t *testing.T) {
	for _, points := range append(alertLists()[:60], invalidPoints()[:9]...) {
		l, _ := withSpare(points, impl.Point{T: 77, V: 77}, impl.Point{T: 1, V: 9}, impl.Point{T: 78, V: 77})
		unchanged := wantUnchanged(t, l)
		for _, limit := range []int64{-1, 0, 1, minInt} {
			for _, long := range []int64{-1, 0, 3} {
				one, two := impl.Above(l, limit, long), impl.Above(l, limit, long)
				wantOwnMemory(t, one, l, two)
				if !slices.Equal(one, two) || impl.Firing(l, limit, long, 500) != impl.Firing(l, limit, long, 500) {
					t.Error("other results for equal arguments", l)
				}
			}
		}
		unchanged()
	}
}
