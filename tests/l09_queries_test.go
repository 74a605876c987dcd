package tests

import (
	"maps"
	"math/big"
	"math/rand/v2"
	"reflect"
	"slices"
	"testing"

	"loop.example/g00617/impl"
)

// Promise 9: the finest data that reach back far enough are selected; a query
// for two adjacent time ranges yields what the query for both together yields,
// if the same data are selected.

const (
	agCount = 1
	agSum   = 2
	agMin   = 3
	agMax   = 4
	agLast  = 5
	agMean  = 6
)

// keepsOf returns the retentions of the points and of each level.
func (h history) keepsOf() []int64 {
	return append([]int64{h.keep}, h.keeps...)
}

// picked is the model of Pick.
func (h history) picked(from int64) int64 {
	if from < 0 || from > maxTime {
		return -3
	}
	first := slices.IndexFunc(h.keepsOf(), func(keep int64) bool { return h.now-from < keep })
	if first < 0 {
		return -2
	}
	return int64(first) - 1
}

// aggregated is the model of the value that a query returns for these values.
// The division of big.Int by a positive number rounds down.
func aggregated(values []int64, how int64) int64 {
	sum, count := big.NewInt(0), big.NewInt(int64(len(values)))
	for _, v := range values {
		sum.Add(sum, big.NewInt(v))
	}
	switch how {
	case agCount:
		return count.Int64()
	case agSum:
		return sum.Int64()
	case agMin:
		return slices.Min(values)
	case agMax:
		return slices.Max(values)
	case agLast:
		return values[len(values)-1]
	}
	return sum.Div(sum, count).Int64()
}

// answer is the model of Query for valid arguments: it reads all points ever
// received.
func (h history) answer(from, to, how int64) []impl.Point {
	width := append([]int64{1}, h.widths...)[h.picked(from)+1]
	values := map[int64][]int64{}
	for _, p := range h.points {
		if at := p.T / width * width; at >= from && at < to {
			values[at] = append(values[at], p.V)
		}
	}
	var out []impl.Point
	for _, at := range slices.Sorted(maps.Keys(values)) {
		out = append(out, impl.Point{T: at, V: aggregated(values[at], how)})
	}
	return out
}

func wantAnswer(t *testing.T, c impl.Cascade, from, to, how int64, want []impl.Point) {
	t.Helper()
	if got, ok := impl.Query(c, from, to, how); !ok || !slices.Equal(got, want) {
		t.Fatalf("%v from %d to %d, how %d: got %v, %v; want %v, true", c, from, to, how, got, ok, want)
	}
}

func wantNoAnswer(t *testing.T, c impl.Cascade, from, to, how int64) {
	t.Helper()
	if got, ok := impl.Query(c, from, to, how); ok || len(got) != 0 {
		t.Fatalf("%v from %d to %d, how %d: got %v, %v; want no points, false", c, from, to, how, got, ok)
	}
}

func wantPick(t *testing.T, c impl.Cascade, from, want int64) {
	t.Helper()
	if got := impl.Pick(c, from); got != want {
		t.Errorf("%v from %d: got %d, want %d", c, from, got, want)
	}
}

// fullHistories returns histories with 100 points, some of which are too old for
// the points of the cascade or for a level.
func fullHistories() []history {
	r := numbers()
	var out []history
	for _, h := range histories() {
		for _, size := range []int{1, 3, 5, 8, 12} {
			l := pointsOf(randomTimes(r, 100, size), make([]int64, 100))
			for i := range l {
				l[i].T++
				l[i].V = randomSmall(r)
			}
			full := ingested(h, l)
			out = append(out, full)
			full.now += r.Int64N(50)
			out = append(out, full)
		}
	}
	return out
}

// edgeTimes returns the times around those at which an answer may change, and
// times that are not valid.
func (h history) edgeTimes(r *rand.Rand) []int64 {
	around := []int64{0, h.now, maxTime}
	for _, keep := range h.keepsOf() {
		around = append(around, h.now-keep)
	}
	for range 3 {
		if len(h.points) > 0 {
			at := h.points[r.IntN(len(h.points))].T
			around = append(around, at)
			for _, width := range h.widths {
				around = append(around, at/width*width)
			}
		}
	}
	out := []int64{maxInt, minInt}
	for _, at := range around {
		out = append(out, at-1, at, at+1)
	}
	slices.Sort(out)
	return slices.Compact(out)
}

func TestNumbersOfTheAggregates(t *testing.T) {
	if [6]int64{impl.AgCount, impl.AgSum, impl.AgMin, impl.AgMax, impl.AgLast, impl.AgMean} != [6]int64{agCount, agSum, agMin, agMax, agLast, agMean} {
		t.Error("other numbers")
	}
}

func TestPickAtTheEndsOfTheRetentions(t *testing.T) {
	levels := []impl.Level{{Width: 10, Keep: 30}, {Width: 20, Keep: 60}}
	for _, c := range []struct {
		now    int64
		levels []impl.Level
		want   map[int64]int64
	}{
		{100, levels, map[int64]int64{0: -2, 1: -2, 39: -2, 40: -2, 41: 1, 42: 1, 69: 1, 70: 1, 71: 0, 72: 0, 84: 0, 85: 0, 86: -1, 100: -1, 101: -1, maxTime: -1, -1: -3, maxTime + 1: -3}},
		{100, levels[:1], map[int64]int64{0: -2, 70: -2, 71: 0, 85: 0, 86: -1}},
		{100, nil, map[int64]int64{0: -2, 84: -2, 85: -2, 86: -1, 99: -1, maxTime: -1, -1: -3, maxTime + 1: -3, maxInt: -3, minInt: -3}},
		{0, nil, map[int64]int64{-16: -3, -15: -3, -14: -3, -1: -3, 0: -1, 1: -1}},
		{14, levels, map[int64]int64{-1: -3, 0: -1, 1: -1}},
		{15, levels, map[int64]int64{-1: -3, 0: 0, 1: -1}},
		{29, levels, map[int64]int64{-1: -3, 0: 0, 14: 0, 15: -1}},
		{30, levels, map[int64]int64{-1: -3, 0: 1, 1: 0, 15: 0, 16: -1}},
		{59, levels, map[int64]int64{0: 1, 29: 1, 30: 0}},
		{60, levels, map[int64]int64{0: -2, 1: 1, 30: 1, 31: 0}},
		{maxTime, levels, map[int64]int64{maxTime + 1: -3, maxTime: -1, maxTime - 14: -1, maxTime - 15: 0, maxTime - 29: 0, maxTime - 30: 1, maxTime - 59: 1, maxTime - 60: -2}},
	} {
		for from, want := range c.want {
			wantPick(t, impl.Cascade{Now: c.now, Keep: 15, Levels: c.levels}, from, want)
		}
	}
}

// TestPickOfEqualRetentions has data that reach back equally far.
func TestPickOfEqualRetentions(t *testing.T) {
	c := impl.Cascade{Now: 100, Keep: 40, Levels: []impl.Level{{Width: 10, Keep: 40}, {Width: 20, Keep: 40}, {Width: 40, Keep: 80}, {Width: 80, Keep: 80}}}
	for from, want := range map[int64]int64{61: -1, 60: 2, 21: 2, 20: -2} {
		wantPick(t, c, from, want)
	}
}

func TestPickOfHistories(t *testing.T) {
	r := numbers()
	for _, h := range slices.Concat(histories(), fullHistories()) {
		c := h.cascade()
		for _, from := range h.edgeTimes(r) {
			wantPick(t, c, from, h.picked(from))
		}
	}
}

// invalidCascades returns cascades each of which violates one condition.
func invalidCascades() []impl.Cascade {
	level := impl.Level{Width: 10, Keep: 30}
	with := func(r impl.Roll) impl.Cascade {
		return impl.Cascade{Now: 100, Keep: 15, Levels: []impl.Level{{Width: 10, Keep: 30, Rolls: []impl.Roll{r}}}}
	}
	return []impl.Cascade{
		{},
		{Now: 100},
		{Now: 100, Keep: -1},
		{Now: 100, Keep: maxKeep + 1},
		{Now: -1, Keep: 15},
		{Now: maxTime + 1, Keep: 15},
		{Now: 100, Keep: 15, Raw: []impl.Point{{T: 85}}},
		{Now: 100, Keep: 15, Raw: []impl.Point{{T: 101}}},
		{Now: 100, Keep: 15, Raw: []impl.Point{{T: 90}, {T: 90}}},
		{Now: 100, Keep: 15, Raw: []impl.Point{{T: 90, V: maxSmall + 1}}},
		{Now: 100, Keep: 15, Levels: []impl.Level{{Width: 1, Keep: 30}}},
		{Now: 100, Keep: 15, Levels: []impl.Level{{Width: 10, Keep: 31}}},
		{Now: 100, Keep: 15, Levels: []impl.Level{{Width: 10, Keep: 10}}},
		{Now: 100, Keep: 15, Levels: []impl.Level{level, level}},
		{Now: 100, Keep: 15, Levels: []impl.Level{{Width: 2, Keep: 32}, {Width: 4, Keep: 32}, {Width: 8, Keep: 32}, {Width: 16, Keep: 32}, {Width: 32, Keep: 32}}},
		with(windowRoll(60, []int64{1})),
		with(windowRoll(110, []int64{1})),
		with(windowRoll(95, []int64{1})),
		with(impl.Roll{T: 90}),
		with(impl.Roll{T: 90, Count: 1, Sum: 1}),
	}
}

func TestQueriesOfInvalidCascades(t *testing.T) {
	for _, c := range invalidCascades() {
		for _, from := range []int64{-1, 0, 70, 71, 85, 86, 90, 100, maxTime, maxTime + 1} {
			wantPick(t, c, from, -3)
			for how := range int64(8) {
				wantNoAnswer(t, c, from, 100, how)
			}
		}
	}
}

// TestQueriesHaveAllPointsEverReceived compares with what the history has, so
// that data which do not reach back far enough are noticed.
func TestQueriesHaveAllPointsEverReceived(t *testing.T) {
	r := numbers()
	seen := map[int64]int{}
	for _, h := range fullHistories() {
		c := h.cascade()
		times := h.edgeTimes(r)
		for _, from := range times {
			for _, to := range times {
				how := 1 + r.Int64N(6)
				if h.picked(from) < -1 || to < 0 || to > maxTime {
					wantNoAnswer(t, c, from, to, how)
					continue
				}
				want := h.answer(from, to, how)
				wantAnswer(t, c, from, to, how, want)
				if len(want) > 0 {
					seen[h.picked(from)]++
				}
			}
		}
	}
	for _, picked := range []int64{-1, 0, 1} {
		if seen[picked] < 1000 {
			t.Error("few answers of one kind:", seen)
		}
	}
}

func TestAdjacentTimeRanges(t *testing.T) {
	r := numbers()
	same := 0
	for _, h := range fullHistories() {
		c := h.cascade()
		for range 300 {
			times := []int64{r.Int64N(h.now + 2), r.Int64N(h.now + 2), r.Int64N(h.now + 2)}
			for i := range times {
				if r.IntN(3) == 0 {
					times[i] = h.points[r.IntN(len(h.points))].T
				}
			}
			slices.Sort(times)
			if picked := impl.Pick(c, times[0]); picked < -1 || picked != impl.Pick(c, times[1]) {
				continue
			}
			how := 1 + r.Int64N(6)
			first, ok := impl.Query(c, times[0], times[1], how)
			second, ok2 := impl.Query(c, times[1], times[2], how)
			if !ok || !ok2 {
				t.Fatal(c, times, ok, ok2)
			}
			wantAnswer(t, c, times[0], times[2], how, slices.Concat(first, second))
			if len(first) > 0 && len(second) > 0 {
				same++
			}
		}
	}
	if same < 1000 {
		t.Error("few answers in two parts:", same)
	}
}

// queried returns a cascade at 105 with these Rolls in a level of the width 10
// that Pick selects from 76 on.
func queried(rolls ...impl.Roll) impl.Cascade {
	return impl.Cascade{Now: 105, Keep: 3, Levels: []impl.Level{{Width: 5, Keep: 5}, {Width: 10, Keep: 30, Rolls: rolls}, {Width: 20, Keep: 40}}}
}

func TestTimesOfQueries(t *testing.T) {
	c := queried(windowRoll(70, []int64{7}), windowRoll(80, []int64{8}), windowRoll(90, []int64{9}), windowRoll(100, []int64{10}))
	for _, x := range []struct {
		from, to int64
		want     []int64
	}{
		{76, 105, []int64{80, 90, 100}},
		{80, 101, []int64{80, 90, 100}},
		{80, 100, []int64{80, 90}},
		{80, 99, []int64{80, 90}},
		{80, 91, []int64{80, 90}},
		{80, 90, []int64{80}},
		{80, 89, []int64{80}},
		{80, 81, []int64{80}},
		{80, 80, nil},
		{80, 79, nil},
		{80, 70, nil},
		{80, 0, nil},
		{79, 80, nil},
		{81, 90, nil},
		{81, 91, []int64{90}},
		{90, 91, []int64{90}},
		{91, 100, nil},
		{91, 101, []int64{100}},
		{100, 101, []int64{100}},
		{100, maxTime, []int64{100}},
		{100, 100, nil},
	} {
		var want []impl.Point
		for _, at := range x.want {
			want = append(want, impl.Point{T: at, V: at / 10})
		}
		wantAnswer(t, c, x.from, x.to, agSum, want)
	}
}

func TestLimitsOfQueries(t *testing.T) {
	last := impl.Point{T: maxTime, V: 4}
	h := history{keep: 15, widths: []int64{10}, keeps: []int64{30}}.with(impl.Point{T: maxTime - 20, V: 1}).with(impl.Point{T: maxTime - 1, V: 3}).with(last)
	c := h.cascade()
	for _, to := range []int64{-1, minInt, maxTime + 1, maxInt} {
		for _, from := range []int64{0, maxTime - 29, maxTime - 14, maxTime} {
			wantNoAnswer(t, c, from, to, agSum)
		}
	}
	for _, from := range []int64{-1, minInt, maxTime + 1, maxInt, 0, 1, maxTime - 30} {
		for _, to := range []int64{0, 1, maxTime} {
			wantNoAnswer(t, c, from, to, agSum)
		}
	}
	for _, how := range []int64{0, -1, 7, 8, maxInt, minInt} {
		wantNoAnswer(t, c, maxTime-14, maxTime, how)
		wantNoAnswer(t, c, maxTime-20, maxTime, how)
	}
	for how := int64(agCount); how <= agMean; how++ {
		for _, to := range []int64{0, 1, maxTime} {
			for _, from := range []int64{maxTime - 29, maxTime - 20, maxTime - 15, maxTime - 14, maxTime - 1, maxTime} {
				wantAnswer(t, c, from, to, how, h.answer(from, to, how))
			}
		}
	}
	// No range that ends at MaxTime has the point at MaxTime.
	wantAnswer(t, c, maxTime, maxTime, agSum, nil)
	wantAnswer(t, c, maxTime-14, maxTime, agSum, []impl.Point{{T: maxTime - 1, V: 3}})
	wantAnswer(t, c, maxTime-29, maxTime, agSum, []impl.Point{{T: maxTime - 20, V: 1}, {T: maxTime - 10, V: 3}})
}

func TestQueriesFromTheTime0(t *testing.T) {
	c := impl.Cascade{Now: 5, Keep: 15, Raw: []impl.Point{{T: 0, V: 7}, {T: 5, V: 8}}}
	wantAnswer(t, c, 0, 6, agSum, c.Raw)
	wantAnswer(t, c, 0, 5, agSum, c.Raw[:1])
	wantAnswer(t, c, 0, 1, agSum, c.Raw[:1])
	wantAnswer(t, c, 0, 0, agSum, nil)
	wantAnswer(t, c, 1, maxTime, agSum, c.Raw[1:])
	wantAnswer(t, c, maxTime, maxTime, agSum, nil)
	wantNoAnswer(t, c, -1, 6, agSum)
}

func TestQueriesWithoutPoints(t *testing.T) {
	for _, h := range histories() {
		for _, now := range []int64{0, 20, maxTime} {
			h.now = now
			c := h.cascade()
			for _, from := range []int64{0, now, maxTime} {
				for how := int64(agCount); how <= agMean; how++ {
					if h.picked(from) < -1 {
						wantNoAnswer(t, c, from, maxTime, how)
					} else {
						wantAnswer(t, c, from, maxTime, how, nil)
					}
				}
			}
		}
	}
}

func TestEachAggregate(t *testing.T) {
	c := queried(impl.Roll{T: 80, Count: 4, Sum: 30, Min: 1, Max: 20, Last: 5}, impl.Roll{T: 90, Count: 3, Sum: -16, Min: -9, Max: -2, Last: -4})
	for how, want := range map[int64][2]int64{agCount: {4, 3}, agSum: {30, -16}, agMin: {1, -9}, agMax: {20, -2}, agLast: {5, -4}, agMean: {7, -6}} {
		wantAnswer(t, c, 80, 100, how, []impl.Point{{T: 80, V: want[0]}, {T: 90, V: want[1]}})
	}
}

// TestPointsForTheWidth1 has three points in one window of the first level.
func TestPointsForTheWidth1(t *testing.T) {
	h := history{keep: 10, widths: []int64{10}, keeps: []int64{30}}
	h = h.with(impl.Point{T: 30, V: -5}).with(impl.Point{T: 34, V: 9}).with(impl.Point{T: 39, V: -8})
	c := h.cascade()
	for how := int64(agCount); how <= agMean; how++ {
		want := slices.Clone(h.points)
		for i := range want {
			if how == agCount {
				want[i].V = 1
			}
		}
		wantAnswer(t, c, 30, 40, how, want)
		wantAnswer(t, c, 31, 39, how, want[1:2])
		wantAnswer(t, c, 34, 40, how, want[1:])
	}
	for how, want := range map[int64]int64{agCount: 3, agSum: -4, agMin: -8, agMax: 9, agLast: -8, agMean: -2} {
		wantAnswer(t, c, 29, 40, how, []impl.Point{{T: 30, V: want}})
	}
}

func TestMeansAreRoundedDown(t *testing.T) {
	for _, x := range []struct{ count, sum, want int64 }{
		{1, 0, 0},
		{1, 7, 7},
		{1, -7, -7},
		{2, 1, 0},
		{2, 2, 1},
		{2, 3, 1},
		{2, -1, -1},
		{2, -2, -1},
		{2, -3, -2},
		{2, -4, -2},
		{3, 0, 0},
		{3, 5, 1},
		{3, 6, 2},
		{3, -1, -1},
		{3, -2, -1},
		{3, -3, -1},
		{3, -4, -2},
		{3, -5, -2},
		{3, -6, -2},
		{3, -7, -3},
		{10, -99, -10},
		{10, -100, -10},
		{10, -101, -11},
		{maxCount, 0, 0},
		{maxCount, 1, 0},
		{maxCount, -1, -1},
		{maxCount, maxCount - 1, 0},
		{maxCount, -maxCount + 1, -1},
		{maxCount, -maxCount, -1},
		{maxCount, -maxCount - 1, -2},
		{maxCount, maxCount * maxSmall, maxSmall},
		{maxCount, maxCount*maxSmall - 1, maxSmall - 1},
		{maxCount, -maxCount * maxSmall, -maxSmall},
		{maxCount, -maxCount*maxSmall + 1, -maxSmall},
		{maxCount, -maxCount*maxSmall + maxCount, -maxSmall + 1},
	} {
		c := queried(impl.Roll{T: 80, Count: x.count, Sum: x.sum, Min: -maxSmall, Max: maxSmall})
		wantAnswer(t, c, 76, 100, agMean, []impl.Point{{T: 80, V: x.want}})
	}
}

// valued returns points with these values.
func valued(values ...int64) []impl.Point {
	times := make([]int64, len(values))
	for i := range times {
		times[i] = int64(i) * 3
	}
	return pointsOf(times, values)
}

func wantIncrease(t *testing.T, l []impl.Point, want int64) {
	t.Helper()
	if got := impl.Increase(l); got != want {
		t.Errorf("%v: got %d, want %d", l, got, want)
	}
}

func TestIncrease(t *testing.T) {
	for _, x := range []struct {
		values []int64
		want   int64
	}{
		{nil, 0},
		{[]int64{0}, 0},
		{[]int64{5}, 0},
		{[]int64{-5}, 0},
		{[]int64{4, 4, 4}, 0},
		{[]int64{-4, -4}, 0},
		{[]int64{5, 9, 2, 2, 9}, 13},
		{[]int64{5, 6}, 1},
		{[]int64{5, 4}, 4},
		{[]int64{5, 1}, 1},
		{[]int64{5, 0}, 0},
		{[]int64{5, -1}, 0},
		{[]int64{5, -3, -1}, 2},
		{[]int64{5, -3, 4}, 7},
		{[]int64{-5, -7}, 0},
		{[]int64{-7, -5}, 2},
		{[]int64{-5, 0}, 5},
		{[]int64{0, -1, 0}, 1},
		{[]int64{1, 2, 3, 1, 2, 3}, 5},
		{[]int64{9, 8, 7}, 15},
		{[]int64{-maxSmall, maxSmall}, 2 * maxSmall},
		{[]int64{maxSmall, -maxSmall}, 0},
		{[]int64{maxSmall, maxSmall - 1}, maxSmall - 1},
	} {
		wantIncrease(t, valued(x.values...), x.want)
	}
}

func TestIncreaseOfManyPoints(t *testing.T) {
	var steps, swings []int64
	for i := range int64(maxPoints + 1) {
		steps = append(steps, i)
		swings = append(swings, maxSmall*(2*(i%2)-1))
	}
	wantIncrease(t, valued(steps[:maxPoints]...), maxPoints-1)
	wantIncrease(t, valued(swings[:maxPoints]...), maxPoints/2*2*maxSmall)
	wantIncrease(t, valued(steps...), -1)
	wantIncrease(t, valued(swings...), -1)
}

// TestIncreaseIsThatOfItsParts divides lists at each point, which then belongs
// to both parts.
func TestIncreaseIsThatOfItsParts(t *testing.T) {
	for _, l := range smallPointLists() {
		for i := range l {
			if impl.Increase(l) != impl.Increase(l[:i+1])+impl.Increase(l[i:]) {
				t.Fatal(l, i)
			}
		}
		for i := 1; i < len(l); i++ {
			want := l[i].V
			if want >= l[i-1].V {
				want -= l[i-1].V
			} else if want < 0 {
				want = 0
			}
			wantIncrease(t, l[i-1:i+1], want)
		}
	}
}

func TestIncreaseOfInvalidPoints(t *testing.T) {
	for _, times := range invalidTimes() {
		wantIncrease(t, pointsOf(times, make([]int64, len(times))), -1)
	}
	for i := range 3 {
		for v, want := range map[int64]bool{maxSmall: true, -maxSmall: true, maxSmall + 1: false, -maxSmall - 1: false, maxInt: false, minInt: false} {
			l := valued(0, 0, 0)
			l[i].V = v
			if got := impl.Increase(l); (got != -1) != want {
				t.Error(l, got)
			}
			if got := impl.Increase(l[i : i+1]); (got == 0) != want || (got == -1) == want {
				t.Error(l[i], got)
			}
		}
	}
}

// ranked is the model of Ranked for valid points and an n that is not negative:
// it takes the greatest value again and again, the first of equal ones.
func ranked(l []impl.Point, n int64) []impl.Point {
	rest := slices.Clone(l)
	var out []impl.Point
	for int64(len(out)) < n && len(rest) > 0 {
		best := 0
		for i, p := range rest {
			if p.V > rest[best].V {
				best = i
			}
		}
		out = append(out, rest[best])
		rest = slices.Delete(rest, best, best+1)
	}
	return out
}

func wantRanked(t *testing.T, l []impl.Point, n int64, want []impl.Point) {
	t.Helper()
	if got := impl.Ranked(l, n); !slices.Equal(got, want) {
		t.Fatalf("%v, %d: got %v, want %v", l, n, got, want)
	}
}

func TestRanked(t *testing.T) {
	lists := append(pointLists(), smallPointLists()...)
	for _, l := range append(lists, nil, valued(5, 9, 2, 2, 9), valued(4, 4, 4), valued(minInt, maxInt, 0, -1, maxInt, minInt)) {
		size := int64(len(l))
		for _, n := range []int64{0, 1, 2, size / 2, size - 1, size, size + 1, 1000, maxInt} {
			if n >= 0 {
				wantRanked(t, l, n, ranked(l, n))
			}
		}
		for _, n := range []int64{-1, -2, -size, minInt} {
			if n < 0 {
				wantRanked(t, l, n, nil)
			}
		}
	}
}

func TestRankedOfEqualValues(t *testing.T) {
	l := valued(2, 9, 2, 9, 2)
	wantRanked(t, l, 5, []impl.Point{l[1], l[3], l[0], l[2], l[4]})
	wantRanked(t, l, 3, []impl.Point{l[1], l[3], l[0]})
	var same []int64
	for range maxPoints {
		same = append(same, 7)
	}
	wantRanked(t, valued(same...), maxPoints, valued(same...))
}

func TestRankedOfInvalidPoints(t *testing.T) {
	for _, l := range append(invalidPoints(), farPoints(maxPoints+1)) {
		for _, n := range []int64{-1, 0, 1, 2, int64(len(l)), maxInt} {
			wantRanked(t, l, n, nil)
		}
	}
	wantRanked(t, farPoints(maxPoints), 1, farPoints(maxPoints)[maxPoints-1:])
}

func TestQueriesModifyNothing(t *testing.T) {
	h := history{keep: 10, widths: []int64{5, 10}, keeps: []int64{20, 30}}
	h = h.with(impl.Point{T: 22, V: 4}).with(impl.Point{T: 31, V: -5}).with(impl.Point{T: 34, V: 9}).with(impl.Point{T: 40, V: -8})
	for _, c := range append(invalidCascades(), h.cascade(), history{keep: 5}.cascade()) {
		c = spacious(c)
		before := everything(c)
		for _, from := range []int64{0, 11, 20, 21, 30, 31, 40, -1} {
			first := impl.Pick(c, from)
			for how := range int64(8) {
				got, ok := impl.Query(c, from, 41, how)
				want := slices.Clone(got)
				overwrite(got, impl.Point{T: 77, V: 77})
				if ok {
					wantAnswer(t, c, from, 41, how, want)
				}
			}
			wantPick(t, c, from, first)
		}
		if !reflect.DeepEqual(everything(c), before) {
			t.Errorf("%v has changed", c)
		}
	}
}

func TestRankedAndIncreaseModifyNothing(t *testing.T) {
	junk := impl.Point{T: 77, V: 77}
	for _, points := range [][]impl.Point{nil, valued(4), valued(9, 5, 2), valued(2, 5, 9, 2), {{T: 5, V: 1}, {T: 2, V: 3}}} {
		l, unchanged := withSpare(points, junk, impl.Point{T: 1}, junk)
		for range 2 {
			impl.Increase(l)
			for _, n := range []int64{-1, 0, 1, 2, 3, 4, 9} {
				overwrite(impl.Ranked(l, n), impl.Point{T: 88, V: 88})
			}
		}
		if !unchanged() {
			t.Error(l)
		}
	}
}
