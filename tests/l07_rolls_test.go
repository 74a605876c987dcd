package tests

import (
	"maps"
	"math/rand/v2"
	"slices"
	"testing"

	"loop.example/g00617/impl"
)

// Promise 7: a roll contains exactly the points of its window; rolls of rolls
// are rolls of the points; merged points have all times of both.

const (
	maxRolls = 400
	maxWidth = 1000000
	maxCount = 1000000
	maxSmall = 1000000000
)

// windowRoll is the model of a Roll: that of these values in the window that
// begins at this time.
func windowRoll(at int64, values []int64) impl.Roll {
	sum := int64(0)
	for _, v := range values {
		sum += v
	}
	return impl.Roll{T: at, Count: int64(len(values)), Sum: sum, Min: slices.Min(values), Max: slices.Max(values), Last: values[len(values)-1]}
}

// rollsOf is the model of RollsOf, also for more points than are valid.
func rollsOf(l []impl.Point, width int64) []impl.Roll {
	values := map[int64][]int64{}
	for _, p := range l {
		values[p.T/width] = append(values[p.T/width], p.V)
	}
	var out []impl.Roll
	for _, i := range slices.Sorted(maps.Keys(values)) {
		out = append(out, windowRoll(i*width, values[i]))
	}
	return out
}

// equalRolls returns n Rolls, one in each window of the width from this time.
func equalRolls(n int, from, width int64) []impl.Roll {
	var out []impl.Roll
	for i := range n {
		out = append(out, impl.Roll{T: from + int64(i)*width, Count: 2, Sum: 3, Min: 1, Max: 2, Last: 2})
	}
	return out
}

func randomSmall(r *rand.Rand) int64 {
	switch r.IntN(8) {
	case 0:
		return maxSmall
	case 1:
		return -maxSmall
	case 2:
		return 0
	case 3, 4:
		return r.Int64N(2*maxSmall+1) - maxSmall
	}
	return r.Int64N(19) - 9
}

// smallPoints returns n valid points with small values.
func smallPoints(r *rand.Rand, n int) []impl.Point {
	l := pointsOf(randomTimes(r, n, 1+r.IntN(31)), make([]int64, n))
	for i := range l {
		l[i].V = randomSmall(r)
	}
	return l
}

// smallPointLists returns valid points with small values, with each possible
// number of them.
func smallPointLists() [][]impl.Point {
	r := numbers()
	out := [][]impl.Point{
		{{}},
		{{T: maxTime, V: maxSmall}},
		{{T: maxTime, V: -maxSmall}},
		{{T: 0, V: -maxSmall}, {T: maxTime, V: maxSmall}},
		{{T: maxTime - 1, V: 4}, {T: maxTime, V: 3}},
	}
	for n := range maxPoints + 1 {
		out = append(out, smallPoints(r, n), smallPoints(r, n))
	}
	return out
}

func widths() []int64 {
	return []int64{1, 2, 3, 7, 10, 60, 64, 1000, 86400, 999999, maxWidth}
}

func invalidWidths() []int64 {
	return []int64{0, -1, -10, maxWidth + 1, maxWidth + 10, 1 << 32, maxInt, minInt}
}

// farPoints returns n points, each in a window of its own of every width.
func farPoints(n int) []impl.Point {
	var l []impl.Point
	for i := range n {
		l = append(l, impl.Point{T: int64(i+1) * maxWidth, V: int64(i)})
	}
	return l
}

func wantRolls(t *testing.T, got []impl.Roll, ok bool, want []impl.Roll) {
	t.Helper()
	if !ok || !slices.Equal(got, want) {
		t.Fatalf("got %v, %v; want %v, true", got, ok, want)
	}
}

func wantNoRolls(t *testing.T, got []impl.Roll, ok bool) {
	t.Helper()
	if ok || len(got) != 0 {
		t.Errorf("got %v, %v; want no rolls, false", got, ok)
	}
}

// wantOk reports a list of Rolls that RollsOk does not judge like this, or that
// Coarser, with the same width, does not accept or reject like this.
func wantOk(t *testing.T, l []impl.Roll, width int64, want bool) {
	t.Helper()
	if impl.RollsOk(l, width) != want {
		t.Errorf("%v, %d: want %v", l, width, want)
	}
	got, ok := impl.Coarser(l, width, width)
	if want {
		wantRolls(t, got, ok, l)
	} else {
		wantNoRolls(t, got, ok)
	}
}

func TestRollsOfPoints(t *testing.T) {
	for _, l := range smallPointLists() {
		for _, width := range widths() {
			got, ok := impl.RollsOf(l, width)
			wantRolls(t, got, ok, rollsOf(l, width))
			wantOk(t, got, width, true)
		}
	}
}

func TestWindowsBeginAtMultiplesOfTheWidth(t *testing.T) {
	l := []impl.Point{{T: 9, V: 1}, {T: 10, V: 2}, {T: 19, V: 3}, {T: 20, V: 4}}
	got, ok := impl.RollsOf(l, 10)
	wantRolls(t, got, ok, []impl.Roll{windowRoll(0, []int64{1}), windowRoll(10, []int64{2, 3}), windowRoll(20, []int64{4})})
	got, ok = impl.RollsOf([]impl.Point{{T: maxTime - 1, V: 1}, {T: maxTime, V: 2}}, maxWidth)
	wantRolls(t, got, ok, []impl.Roll{windowRoll(maxTime-maxWidth, []int64{1}), windowRoll(maxTime, []int64{2})})
}

func TestRollsOfInvalidPoints(t *testing.T) {
	for _, times := range invalidTimes() {
		got, ok := impl.RollsOf(pointsOf(times, make([]int64, len(times))), 10)
		wantNoRolls(t, got, ok)
	}
	got, ok := impl.RollsOf(farPoints(maxPoints), 10)
	wantRolls(t, got, ok, rollsOf(farPoints(maxPoints), 10))
	got, ok = impl.RollsOf(farPoints(maxPoints+1), 10)
	wantNoRolls(t, got, ok)
}

func TestRollsOfValuesThatAreNotSmall(t *testing.T) {
	for _, v := range []int64{maxSmall + 1, -maxSmall - 1, 1 << 32, maxInt, minInt} {
		for i := range 3 {
			l := []impl.Point{{T: 3, V: 5}, {T: 7, V: -2}, {T: 12, V: 4}}
			l[i].V = v
			got, ok := impl.RollsOf(l, 10)
			wantNoRolls(t, got, ok)
		}
	}
}

func TestRollsOfInvalidWidths(t *testing.T) {
	for _, width := range invalidWidths() {
		for _, l := range [][]impl.Point{nil, {{T: 0, V: 1}}, {{T: 3, V: 5}, {T: 7, V: -2}}} {
			got, ok := impl.RollsOf(l, width)
			wantNoRolls(t, got, ok)
		}
	}
}

func TestWidthsOfRolls(t *testing.T) {
	for _, width := range widths() {
		wantOk(t, nil, width, true)
		wantOk(t, equalRolls(1, 0, width), width, true)
	}
	for _, width := range invalidWidths() {
		wantOk(t, nil, width, false)
		wantOk(t, equalRolls(1, 0, 1), width, false)
	}
}

func TestNumbersOfRolls(t *testing.T) {
	for _, width := range []int64{1, 10, maxWidth} {
		wantOk(t, equalRolls(maxRolls, 0, width), width, true)
		for _, n := range []int{maxRolls + 1, maxRolls + 2, 2 * maxRolls, 100000} {
			wantOk(t, equalRolls(n, 0, width), width, false)
		}
	}
}

func TestTimesOfRolls(t *testing.T) {
	for _, c := range []struct {
		width int64
		times []int64
		want  bool
	}{
		{10, []int64{0}, true},
		{10, []int64{0, 10, 30}, true},
		{10, []int64{maxTime - 10, maxTime}, true},
		{1, []int64{maxTime}, true},
		{1, []int64{maxTime + 1}, false},
		{10, []int64{maxTime + 10}, false},
		{10, []int64{0, maxTime + 10}, false},
		{7, []int64{maxTime / 7 * 7}, true},
		{7, []int64{maxTime/7*7 + 7}, false},
		{1, []int64{-1}, false},
		{10, []int64{-10}, false},
		{10, []int64{-10, 0}, false},
		{10, []int64{maxInt - 7}, false},
		{1, []int64{minInt}, false},
		{8, []int64{minInt}, false},
		{10, []int64{1}, false},
		{10, []int64{9}, false},
		{10, []int64{0, 15}, false},
		{10, []int64{5, 20}, false},
		{10, []int64{0, 0}, false},
		{10, []int64{10, 10}, false},
		{10, []int64{10, 0}, false},
		{10, []int64{0, 20, 10}, false},
	} {
		var l []impl.Roll
		for _, at := range c.times {
			l = append(l, windowRoll(at, []int64{1, 2}))
		}
		wantOk(t, l, c.width, c.want)
	}
}

// validValues has Count, Sum, Min, Max and Last of Rolls, at their limits.
func validValues() [][5]int64 {
	return [][5]int64{
		{1, 0, 0, 0, 0},
		{maxCount, 0, 0, 0, 0},
		{1, 5, 5, 5, 5},
		{1, 5, 4, 6, 5},
		{2, 6, 3, 4, 4},
		{2, 8, 3, 4, 3},
		{3, -12, -4, -2, -3},
		{3, -6, -4, -2, -3},
		{1, maxSmall, maxSmall, maxSmall, maxSmall},
		{1, -maxSmall, -maxSmall, -maxSmall, -maxSmall},
		{maxCount, maxCount * maxSmall, maxSmall, maxSmall, maxSmall},
		{maxCount, maxCount * maxSmall, -maxSmall, maxSmall, -maxSmall},
		{maxCount, -maxCount * maxSmall, -maxSmall, -maxSmall, -maxSmall},
		{maxCount, -maxCount * maxSmall, -maxSmall, maxSmall, maxSmall},
	}
}

// invalidValues has lists like those of validValues, but beyond a limit.
func invalidValues() [][5]int64 {
	return [][5]int64{
		{0, 0, 0, 0, 0},
		{-1, 0, 0, 0, 0},
		{maxCount + 1, 0, 0, 0, 0},
		{maxInt, 0, 0, 0, 0},
		{minInt, 0, 0, 0, 0},
		{1, 5, 6, 5, 5},
		{1, 6, 6, 5, 6},
		{2, 5, 3, 4, 4},
		{2, 9, 3, 4, 4},
		{2, maxInt, 3, 4, 4},
		{2, minInt, 3, 4, 4},
		{2, 7, 3, 4, 2},
		{2, 7, 3, 4, 5},
		{2, 7, 3, 4, maxInt},
		{2, 7, 3, 4, minInt},
		{3, -13, -4, -2, -3},
		{3, -5, -4, -2, -3},
		{1, maxSmall + 1, maxSmall + 1, maxSmall + 1, maxSmall + 1},
		{1, 0, 0, maxSmall + 1, 0},
		{1, -maxSmall - 1, -maxSmall - 1, -maxSmall - 1, -maxSmall - 1},
		{1, 0, -maxSmall - 1, 0, 0},
		{1, 0, minInt, maxInt, 0},
		{maxCount, maxCount*maxSmall + 1, 0, maxSmall, 0},
		{maxCount, -maxCount*maxSmall - 1, -maxSmall, maxSmall, 0},
		{maxCount, -maxCount * maxSmall, -maxSmall, maxSmall, maxSmall + 1},
		// Products of these wrap around.
		{1 << 34, 0, -1 << 29, 1 << 29, 0},
		{2, 0, minInt / 2, -(minInt / 2), 0},
	}
}

func wantValuesOk(t *testing.T, x [5]int64, want bool) {
	t.Helper()
	r := impl.Roll{T: 20, Count: x[0], Sum: x[1], Min: x[2], Max: x[3], Last: x[4]}
	one := []int64{1}
	wantOk(t, []impl.Roll{r}, 10, want)
	wantOk(t, []impl.Roll{windowRoll(10, one), r, windowRoll(30, one)}, 10, want)
}

func TestValuesOfRolls(t *testing.T) {
	for _, x := range validValues() {
		wantValuesOk(t, x, true)
	}
	for _, x := range invalidValues() {
		wantValuesOk(t, x, false)
	}
}

func TestRollsOfRollsAreRollsOfThePoints(t *testing.T) {
	for _, l := range smallPointLists() {
		for _, width := range widths() {
			for _, to := range []int64{width, 2 * width, 3 * width, 10 * width, maxWidth / width * width} {
				got, ok := impl.Coarser(rollsOf(l, width), width, to)
				if to <= maxWidth {
					wantRolls(t, got, ok, rollsOf(l, to))
				} else {
					wantNoRolls(t, got, ok)
				}
			}
		}
	}
}

// TestManyRolls has more points than those of one valid list.
func TestManyRolls(t *testing.T) {
	r := numbers()
	for _, width := range []int64{1, 2, 5} {
		var l []impl.Point
		for at := int64(0); at < width*maxRolls; at++ {
			l = append(l, impl.Point{T: at, V: randomSmall(r)})
		}
		for _, times := range []int64{1, 2, 3, 399, 400, 401, 100000} {
			got, ok := impl.Coarser(rollsOf(l, width), width, width*times)
			wantRolls(t, got, ok, rollsOf(l, width*times))
		}
	}
}

func TestCoarserWithInvalidWidths(t *testing.T) {
	for _, l := range [][]impl.Roll{nil, equalRolls(1, 0, 10), equalRolls(5, 20, 10)} {
		for _, to := range []int64{1, 2, 5, 9, 11, 15, 19, 25, 999999, 0, -1, -10, -20, maxWidth + 10, maxInt, minInt} {
			got, ok := impl.Coarser(l, 10, to)
			wantNoRolls(t, got, ok)
		}
		for _, width := range invalidWidths() {
			for _, to := range []int64{width, 2 * width, 10, maxWidth} {
				got, ok := impl.Coarser(l, width, to)
				wantNoRolls(t, got, ok)
			}
		}
	}
}

func TestCoarserOfTooManyPoints(t *testing.T) {
	for _, c := range []struct {
		counts []int64
		want   bool
	}{
		{[]int64{maxCount}, true},
		{[]int64{1, maxCount - 1}, true},
		{[]int64{1, maxCount}, false},
		{[]int64{maxCount, 1}, false},
		{[]int64{500000, 500000}, true},
		{[]int64{500000, 500001}, false},
		{[]int64{maxCount, maxCount, maxCount, maxCount}, false},
	} {
		var l []impl.Roll
		sum := int64(0)
		for i, count := range c.counts {
			l = append(l, impl.Roll{T: int64(i) * 10, Count: count, Sum: count * maxSmall, Min: maxSmall, Max: maxSmall, Last: maxSmall})
			sum += count
		}
		got, ok := impl.Coarser(l, 10, 40)
		if c.want {
			wantRolls(t, got, ok, []impl.Roll{{Count: sum, Sum: sum * maxSmall, Min: maxSmall, Max: maxSmall, Last: maxSmall}})
		} else {
			wantNoRolls(t, got, ok)
		}
		// In windows of their own they are not too many.
		got, ok = impl.Coarser(l, 10, 10)
		wantRolls(t, got, ok, l)
	}
}

// between is the model of Between for points whose times increase: it divides
// them twice.
func between(l []impl.Point, from, to int64) []impl.Point {
	before := func(at int64) []impl.Point {
		n := 0
		for n < len(l) && l[n].T < at {
			n++
		}
		return l[:n]
	}
	if from >= to {
		return nil
	}
	return before(to)[len(before(from)):]
}

func TestBetween(t *testing.T) {
	r := numbers()
	for _, l := range append(pointLists(), nil) {
		edges := []int64{0, 1, maxTime, maxTime + 1, -1, maxInt, minInt}
		for range 4 {
			if len(l) > 0 {
				at := l[r.IntN(len(l))].T
				edges = append(edges, at-1, at, at+1)
			}
		}
		for _, from := range edges {
			for _, to := range edges {
				if got, want := impl.Between(l, from, to), between(l, from, to); !slices.Equal(got, want) {
					t.Fatalf("%v from %d to %d: got %v, want %v", l, from, to, got, want)
				}
			}
		}
	}
}

func TestBetweenInvalidPoints(t *testing.T) {
	for _, l := range append(invalidPoints(), farPoints(maxPoints+1)) {
		if got := impl.Between(l, minInt, maxInt); len(got) != 0 {
			t.Error(l, got)
		}
		if got := impl.Between(l, 0, 10); len(got) != 0 {
			t.Error(l, got)
		}
	}
}

// merged is the model of Merged, also for points that are not valid.
func merged(a, b []impl.Point) []impl.Point {
	values := map[int64]int64{}
	for _, p := range slices.Concat(a, b) {
		values[p.T] = p.V
	}
	var out []impl.Point
	for _, at := range slices.Sorted(maps.Keys(values)) {
		out = append(out, impl.Point{T: at, V: values[at]})
	}
	return out
}

func wantMerged(t *testing.T, a, b []impl.Point) {
	t.Helper()
	got, ok := impl.Merged(a, b)
	if want := merged(a, b); len(want) > maxPoints {
		wantNotMerged(t, a, b)
	} else if !ok || !slices.Equal(got, want) {
		t.Fatalf("%v and %v: got %v, %v; want %v", a, b, got, ok, want)
	}
}

func wantNotMerged(t *testing.T, a, b []impl.Point) {
	t.Helper()
	if got, ok := impl.Merged(a, b); ok || len(got) != 0 {
		t.Errorf("%v and %v: got %v, %v; want no points, false", a, b, got, ok)
	}
}

func TestMerged(t *testing.T) {
	lists := append(pointLists(), nil)
	for i, a := range lists {
		for _, b := range [][]impl.Point{nil, a, {{T: 5, V: 77}}, lists[(i*7+3)%len(lists)], lists[i/2]} {
			wantMerged(t, a, b)
			wantMerged(t, b, a)
		}
	}
	r := numbers()
	for range 2000 {
		size := 1 + r.IntN(6)
		a := pointsOf(randomTimes(r, r.IntN(70), size), randomValues(r, 70))
		wantMerged(t, a, pointsOf(randomTimes(r, r.IntN(70), size), randomValues(r, 70)))
	}
}

func TestMergedUpToMaxPoints(t *testing.T) {
	all := farPoints(maxPoints + 1)
	for i := range all {
		wantMerged(t, all[:i], all[i:maxPoints])
		wantMerged(t, all[i:maxPoints], all[:i])
		if i > 0 {
			wantNotMerged(t, all[:i], all[i:])
			wantNotMerged(t, all[i:], all[:i])
			wantMerged(t, all[:maxPoints], all[:i])
		}
	}
}

func TestMergedOfInvalidPoints(t *testing.T) {
	for _, l := range append(invalidPoints(), farPoints(maxPoints+1)) {
		for _, other := range [][]impl.Point{nil, {{T: 5, V: 1}}, l} {
			wantNotMerged(t, l, other)
			wantNotMerged(t, other, l)
		}
	}
}

func TestRollsAndPointsAreNotModified(t *testing.T) {
	junk := impl.Point{T: 77, V: 77}
	points := []impl.Point{{T: 3, V: 5}, {T: 7, V: -2}, {T: 12, V: 4}}
	other := []impl.Point{{T: 5, V: 9}, {T: 7, V: 8}}
	for _, n := range []int{0, 2, 3} {
		a, unchanged := withSpare(points[:n], junk, impl.Point{T: 1}, junk)
		b, unchangedToo := withSpare(other[:n/2], junk, impl.Point{T: 1}, junk)
		impl.RollsOf(a, 10)
		overwrite(impl.Between(a, 0, 10), junk)
		for range 2 {
			got, ok := impl.Merged(a, b)
			if !ok || !slices.Equal(got, merged(points[:n], other[:n/2])) {
				t.Error(got, ok)
			}
			overwrite(got, junk)
		}
		if !unchanged() || !unchangedToo() {
			t.Error(a, b)
		}
	}
	for _, n := range []int{0, 1, 3} {
		l, unchanged := withSpare(equalRolls(n, 10, 10), impl.Roll{T: 1}, impl.Roll{T: 2})
		for _, to := range []int64{10, 20, 100} {
			impl.RollsOk(l, 10)
			got, _ := impl.Coarser(l, 10, to)
			overwrite(got, impl.Roll{T: 77})
		}
		if !unchanged() {
			t.Error(l)
		}
	}
}

func TestRollsExample(t *testing.T) {
	got, ok := impl.RollsOf([]impl.Point{{T: 3, V: 5}, {T: 7, V: -2}, {T: 12, V: 4}}, 10)
	wantRolls(t, got, ok, []impl.Roll{
		{T: 0, Count: 2, Sum: 3, Min: -2, Max: 5, Last: -2},
		{T: 10, Count: 1, Sum: 4, Min: 4, Max: 4, Last: 4},
	})
}
