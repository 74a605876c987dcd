package tests

import (
	"math/rand/v2"
	"reflect"
	"slices"
	"testing"

	"loop.example/g00617/impl"
)

// Promise 8: each level contains exactly the rolls of all points ever received,
// as long as it retains them; as time passes data are only removed.

const (
	maxKeep   = 1000000000
	maxIngest = 200
)

// A history is the model of a cascade: it forgets nothing.
type history struct {
	now    int64
	keep   int64
	widths []int64
	keeps  []int64
	points []impl.Point
}

// cascade returns what the cascade has of the history, also if it is too much.
func (h history) cascade() impl.Cascade {
	c := impl.Cascade{Now: h.now, Keep: h.keep}
	for _, p := range h.points {
		if p.T > h.now-h.keep {
			c.Raw = append(c.Raw, p)
		}
	}
	for i, width := range h.widths {
		level := impl.Level{Width: width, Keep: h.keeps[i]}
		for _, r := range rollsOf(h.points, width) {
			if r.T+width > h.now-level.Keep {
				level.Rolls = append(level.Rolls, r)
			}
		}
		c.Levels = append(c.Levels, level)
	}
	return c
}

// with returns the history with one more point.
func (h history) with(p impl.Point) history {
	h.now = p.T
	h.points = append(slices.Clip(h.points), p)
	return h
}

// fits reports whether there is not too much of anything.
func fits(c impl.Cascade) bool {
	for _, level := range c.Levels {
		if len(level.Rolls) > maxRolls {
			return false
		}
	}
	return len(c.Raw) <= maxPoints
}

// histories returns empty ones, with valid widths and retentions.
func histories() []history {
	return []history{
		{keep: 1},
		{keep: 15},
		{keep: maxKeep},
		{keep: 15, widths: []int64{10, 20}, keeps: []int64{30, 60}},
		{keep: 1, widths: []int64{2}, keeps: []int64{2}},
		{keep: 10, widths: []int64{10}, keeps: []int64{10}},
		{keep: 3, widths: []int64{2, 4, 8, 16}, keeps: []int64{4, 4, 16, 16}},
		{keep: 20, widths: []int64{5, 10, 100, 1000}, keeps: []int64{50, 500, 1000, 10000}},
		{keep: 500, widths: []int64{2, maxWidth}, keeps: []int64{1000, maxKeep}},
		{keep: 60, widths: []int64{60, 3600, 86400}, keeps: []int64{3600, 86400, 864000}},
		{keep: maxKeep, widths: []int64{2, 4}, keeps: []int64{maxKeep, maxKeep}},
	}
}

func sameCascade(a, b impl.Cascade) bool {
	return a.Now == b.Now && a.Keep == b.Keep && slices.Equal(a.Raw, b.Raw) &&
		slices.EqualFunc(a.Levels, b.Levels, func(x, y impl.Level) bool {
			return x.Width == y.Width && x.Keep == y.Keep && slices.Equal(x.Rolls, y.Rolls)
		})
}

func wantCascade(t *testing.T, got impl.Cascade, ok bool, want impl.Cascade) {
	t.Helper()
	if !ok || !sameCascade(got, want) {
		t.Fatalf("got %v, %v; want %v, true", got, ok, want)
	}
	if !impl.CascadeOk(got) {
		t.Fatalf("%v is not valid", got)
	}
}

func wantNoCascade(t *testing.T, got impl.Cascade, ok bool) {
	t.Helper()
	if ok || !sameCascade(got, impl.Cascade{}) {
		t.Errorf("got %v, %v; want no cascade, false", got, ok)
	}
}

// wantIngested reports that the points are not all accepted, or that the
// cascade is another one after them.
func wantIngested(t *testing.T, c impl.Cascade, l []impl.Point, want impl.Cascade) {
	t.Helper()
	got, n := impl.IngestAll(c, l)
	wantCascade(t, got, n == int64(len(l)), want)
}

// wantValid reports a cascade that is not judged like this by CascadeOk, or by
// the other functions when they have nothing to do.
func wantValid(t *testing.T, c impl.Cascade, want bool) {
	t.Helper()
	if impl.CascadeOk(c) != want {
		t.Fatalf("%v: want %v", c, want)
	}
	ticked, ok := impl.Tick(c, c.Now)
	if want {
		wantCascade(t, ticked, ok, c)
		wantIngested(t, c, nil, c)
		return
	}
	wantNoCascade(t, ticked, ok)
	for _, l := range [][]impl.Point{nil, {{T: c.Now + 1, V: 1}}} {
		got, n := impl.IngestAll(c, l)
		wantNoCascade(t, got, n != -1)
	}
	for _, at := range []int64{1, 200, c.Now + 1, maxTime} {
		got, ok := impl.Ingest(c, impl.Point{T: at, V: 1})
		wantNoCascade(t, got, ok)
		got, ok = impl.Tick(c, at)
		wantNoCascade(t, got, ok)
	}
}

// wantConfig checks CascadeNew, and the same cascade when it is not new.
func wantConfig(t *testing.T, h history, want bool) {
	t.Helper()
	c := h.cascade()
	got, ok := impl.CascadeNew(h.keep, h.widths, h.keeps)
	if want {
		wantCascade(t, got, ok, c)
	} else {
		wantNoCascade(t, got, ok)
	}
	wantValid(t, c, want)
	c.Now = maxTime
	wantValid(t, c, want)
}

func TestCascadeNew(t *testing.T) {
	for _, h := range histories() {
		wantConfig(t, h, true)
	}
}

func TestKeepOfCascades(t *testing.T) {
	for keep, want := range map[int64]bool{1: true, 2: true, maxKeep: true, 0: false, -1: false, maxKeep + 1: false, maxInt: false, minInt: false} {
		wantConfig(t, history{keep: keep}, want)
		wantConfig(t, history{keep: keep, widths: []int64{10}, keeps: []int64{maxKeep}}, want)
	}
}

// commonMultiple returns the least multiple of all positive numbers in l.
func commonMultiple(l []int64) int64 {
	n := int64(1)
	for _, x := range l {
		a, b := n, x
		for b > 0 {
			a, b = b, a%b
		}
		if x > 0 {
			n *= x / a
		}
	}
	return n
}

func TestWidthsOfLevels(t *testing.T) {
	for _, c := range []struct {
		widths []int64
		want   bool
	}{
		{nil, true},
		{[]int64{2}, true},
		{[]int64{3}, true},
		{[]int64{maxWidth}, true},
		{[]int64{2, 4, 8, 16}, true},
		{[]int64{10, 20, 100, 1000}, true},
		{[]int64{2, maxWidth}, true},
		{[]int64{2, 4, 8, 16, 32}, false},
		{[]int64{2, 4, 8, 16, 32, 64}, false},
		{[]int64{1}, false},
		{[]int64{0}, false},
		{[]int64{-1}, false},
		{[]int64{-2}, false},
		{[]int64{minInt}, false},
		{[]int64{maxInt}, false},
		{[]int64{maxWidth + 1}, false},
		{[]int64{1, 2}, false},
		{[]int64{2, 2}, false},
		{[]int64{2, 1}, false},
		{[]int64{2, 0}, false},
		{[]int64{2, -2}, false},
		{[]int64{4, 2}, false},
		{[]int64{2, 3}, false},
		{[]int64{10, 15}, false},
		{[]int64{10, 20, 30}, false},
		{[]int64{10, 20, 20}, false},
		{[]int64{10, 20, 10}, false},
		{[]int64{2, maxWidth + 2}, false},
	} {
		h := history{keep: 1, widths: c.widths}
		for range c.widths {
			h.keeps = append(h.keeps, commonMultiple(c.widths))
		}
		wantConfig(t, h, c.want)
	}
}

func TestKeepsOfLevels(t *testing.T) {
	for _, c := range []struct {
		keep   int64
		widths []int64
		keeps  []int64
		want   bool
	}{
		{10, []int64{10}, []int64{10}, true},
		{9, []int64{10}, []int64{10}, true},
		{11, []int64{10}, []int64{10}, false},
		{11, []int64{10}, []int64{20}, true},
		{5, []int64{10}, []int64{15}, false},
		{5, []int64{10}, []int64{9}, false},
		{5, []int64{10}, []int64{11}, false},
		{1, []int64{10}, []int64{1}, false},
		{1, []int64{10}, []int64{0}, false},
		{1, []int64{10}, []int64{-10}, false},
		{1, []int64{2}, []int64{minInt}, false},
		{1, []int64{10}, []int64{maxKeep}, true},
		{1, []int64{10}, []int64{maxKeep + 10}, false},
		{1, []int64{7}, []int64{maxKeep}, false},
		{1, []int64{2}, []int64{maxInt - 1}, false},
		{5, []int64{10, 20}, []int64{40, 40}, true},
		{5, []int64{10, 20}, []int64{40, 20}, false},
		{5, []int64{10, 20}, []int64{50, 40}, false},
		{5, []int64{10, 20}, []int64{30, 30}, false},
		{5, []int64{10, 20}, []int64{30, 40}, true},
		{5, []int64{10, 20}, []int64{100, 60}, false},
		{5, []int64{2, 4, 8}, []int64{6, 8, 8}, true},
		{5, []int64{2, 4, 8}, []int64{6, 16, 8}, false},
		{6, []int64{2, 4, 8}, []int64{6, 8, 8}, true},
		{7, []int64{2, 4, 8}, []int64{6, 8, 8}, false},
	} {
		wantConfig(t, history{keep: c.keep, widths: c.widths, keeps: c.keeps}, c.want)
	}
}

func TestListsOfDifferentLengths(t *testing.T) {
	list := []int64{10, 20, 40, 80, 160}
	for i := range len(list) + 1 {
		for j := range len(list) + 1 {
			c, ok := impl.CascadeNew(5, list[:i], list[:j])
			if i == j && i <= 4 {
				wantCascade(t, c, ok, history{keep: 5, widths: list[:i], keeps: list[:j]}.cascade())
			} else {
				wantNoCascade(t, c, ok)
			}
		}
	}
}

func TestTimesOfCascades(t *testing.T) {
	for now, want := range map[int64]bool{0: true, 1: true, maxTime: true, -1: false, maxTime + 1: false, maxInt: false, minInt: false} {
		for _, h := range histories() {
			h.now = now
			wantValid(t, h.cascade(), want)
		}
	}
}

func TestPointsOfCascades(t *testing.T) {
	for _, c := range []struct {
		times []int64
		want  bool
	}{
		{[]int64{86}, true}, // 100 - 15 is 85
		{[]int64{85}, false},
		{[]int64{0}, false},
		{[]int64{100}, true},
		{[]int64{101}, false},
		{[]int64{86, 87, 99, 100}, true},
		{[]int64{85, 86, 99, 100}, false},
		{[]int64{86, 87, 99, 101}, false},
		{[]int64{86, 101, 99}, false},
		{[]int64{90, 90}, false},
		{[]int64{91, 90}, false},
		{[]int64{90, 84, 91}, false},
		{[]int64{-1}, false},
		{[]int64{maxInt}, false},
		{[]int64{minInt}, false},
		{[]int64{maxTime}, false},
	} {
		raw := pointsOf(c.times, make([]int64, len(c.times)))
		wantValid(t, impl.Cascade{Now: 100, Keep: 15, Raw: raw}, c.want)
		wantValid(t, impl.Cascade{Now: 100, Keep: 15, Raw: raw, Levels: []impl.Level{{Width: 10, Keep: 30}}}, c.want)
	}
	for _, at := range []int64{-1, 0, 1, 20} {
		wantValid(t, impl.Cascade{Now: 20, Keep: maxKeep, Raw: []impl.Point{{T: at}}}, at >= 0)
		wantValid(t, impl.Cascade{Now: 20, Keep: 21, Raw: []impl.Point{{T: at}}}, at >= 0)
		wantValid(t, impl.Cascade{Now: 20, Keep: 20, Raw: []impl.Point{{T: at}}}, at >= 1)
	}
}

func TestValuesOfPointsOfCascades(t *testing.T) {
	for v, want := range map[int64]bool{maxSmall: true, -maxSmall: true, maxSmall + 1: false, -maxSmall - 1: false, maxInt: false, minInt: false} {
		wantValid(t, impl.Cascade{Now: 100, Keep: 15, Raw: []impl.Point{{T: 90, V: v}}}, want)
		wantValid(t, impl.Cascade{Now: 100, Keep: 15, Raw: []impl.Point{{T: 90}, {T: 91, V: v}, {T: 92}}}, want)
	}
}

func TestNumbersOfPointsOfCascades(t *testing.T) {
	for n := maxPoints - 1; n < maxPoints+3; n++ {
		c := impl.Cascade{Now: 1000 * maxWidth, Keep: maxKeep, Raw: farPoints(n)}
		wantValid(t, c, n <= maxPoints)
	}
}

// levelCascade returns a cascade at 105 with these Rolls in its second level,
// of the width 10, which has those that end after 75.
func levelCascade(rolls []impl.Roll) impl.Cascade {
	return impl.Cascade{Now: 105, Keep: 3, Levels: []impl.Level{
		{Width: 5, Keep: 5},
		{Width: 10, Keep: 30, Rolls: rolls},
		{Width: 20, Keep: 40},
	}}
}

func TestTimesOfRollsOfCascades(t *testing.T) {
	for _, c := range []struct {
		times []int64
		want  bool
	}{
		{nil, true},
		{[]int64{70}, true}, // a part of its window is too old
		{[]int64{60}, false},
		{[]int64{0}, false},
		{[]int64{100}, true},
		{[]int64{110}, false},
		{[]int64{70, 80, 90, 100}, true},
		{[]int64{60, 70, 80, 90, 100}, false},
		{[]int64{70, 80, 90, 100, 110}, false},
		{[]int64{70, 75}, false},
		{[]int64{80, 80}, false},
		{[]int64{90, 80}, false},
		{[]int64{90, 60, 100}, false},
		{[]int64{-10}, false},
		{[]int64{maxTime + 10}, false},
		{[]int64{maxInt - 7}, false},
		{[]int64{minInt}, false},
	} {
		var l []impl.Roll
		for _, at := range c.times {
			l = append(l, windowRoll(at, []int64{1, 2}))
		}
		wantValid(t, levelCascade(l), c.want)
	}
	l := []impl.Roll{windowRoll(70, []int64{1})}
	for now, want := range map[int64]bool{69: false, 70: true, 71: true, 79: true, 80: true, 108: true, 109: true, 110: false, 111: false} {
		wantValid(t, impl.Cascade{Now: now, Keep: 3, Levels: []impl.Level{{Width: 10, Keep: 30, Rolls: l}}}, want)
	}
	l[0].T = maxTime
	wantValid(t, impl.Cascade{Now: maxTime, Keep: 3, Levels: []impl.Level{{Width: 10, Keep: 30, Rolls: l}}}, true)
	wantValid(t, impl.Cascade{Now: maxTime - 1, Keep: 3, Levels: []impl.Level{{Width: 10, Keep: 30, Rolls: l}}}, false)
}

func TestValuesOfRollsOfCascades(t *testing.T) {
	for want, list := range map[bool][][5]int64{true: validValues(), false: invalidValues()} {
		for _, x := range list {
			r := impl.Roll{T: 80, Count: x[0], Sum: x[1], Min: x[2], Max: x[3], Last: x[4]}
			wantValid(t, levelCascade([]impl.Roll{r}), want)
		}
	}
}

func TestNumbersOfRollsOfCascades(t *testing.T) {
	for n := maxRolls - 1; n < maxRolls+3; n++ {
		c := impl.Cascade{Now: 10000, Keep: 3, Levels: []impl.Level{{Width: 10, Keep: 10000, Rolls: equalRolls(n, 0, 10)}}}
		wantValid(t, c, n <= maxRolls)
	}
}

// randomPoint returns a point for the history, whose time or value is sometimes
// not valid, and whether they are.
func randomPoint(r *rand.Rand, h history) (impl.Point, bool) {
	p := impl.Point{T: h.now + 1 + r.Int64N(int64(1)<<r.IntN(10)), V: randomSmall(r)}
	switch r.IntN(30) {
	case 0:
		p.T = h.now
	case 1:
		p.T = h.now - 1 - r.Int64N(50)
	case 2:
		p.V = maxSmall + 1 + r.Int64N(9)
	case 3:
		p.V = -maxSmall - 1 - r.Int64N(9)
	default:
		return p, true
	}
	return p, false
}

// TestLevelsHaveTheRollsOfAllPoints makes random steps, and compares what the
// cascade has after each of them with the history.
func TestLevelsHaveTheRollsOfAllPoints(t *testing.T) {
	r := numbers()
	accepted, rejected := 0, 0
	for _, h := range histories() {
		c, ok := impl.CascadeNew(h.keep, h.widths, h.keeps)
		wantCascade(t, c, ok, h.cascade())
		for range 700 {
			if r.IntN(5) == 0 {
				h.now += r.Int64N(int64(1) << r.IntN(9))
				c, ok = impl.Tick(c, h.now)
				wantCascade(t, c, ok, h.cascade())
				continue
			}
			p, valid := randomPoint(r, h)
			next, ok := impl.Ingest(c, p)
			if !valid || !fits(h.with(p).cascade()) {
				wantNoCascade(t, next, ok)
				rejected++
				continue
			}
			h = h.with(p)
			wantCascade(t, next, ok, h.cascade())
			c = next
			accepted++
		}
	}
	if accepted < 3000 || rejected < 1000 {
		t.Error("few cases of one kind:", accepted, rejected)
	}
}

func TestIngestAtTheLimits(t *testing.T) {
	for _, h := range histories() {
		for _, now := range []int64{0, 1, 1000, maxTime - 1, maxTime} {
			h.now = now
			c := h.cascade()
			for _, p := range []impl.Point{{T: now + 1}, {T: maxTime}, {T: now + 1, V: maxSmall}, {T: now + 1, V: -maxSmall}} {
				got, ok := impl.Ingest(c, p)
				if p.T > now && p.T <= maxTime {
					wantCascade(t, got, ok, h.with(p).cascade())
				} else {
					wantNoCascade(t, got, ok)
				}
			}
			for _, p := range []impl.Point{{T: now}, {T: now - 1}, {T: maxTime + 1}, {T: 0}, {T: -1}, {T: maxInt}, {T: minInt}, {T: now + 1, V: maxSmall + 1}, {T: now + 1, V: -maxSmall - 1}, {T: now + 1, V: maxInt}, {T: now + 1, V: minInt}} {
				got, ok := impl.Ingest(c, p)
				wantNoCascade(t, got, ok)
			}
		}
	}
}

func TestTickAtTheLimits(t *testing.T) {
	h := history{keep: 15, widths: []int64{10, 20}, keeps: []int64{30, 60}}
	for _, p := range []impl.Point{{T: 3, V: 5}, {T: 7, V: -2}, {T: 12, V: 4}, {T: 31, V: 1}, {T: 44, V: 9}} {
		h = h.with(p)
	}
	c := h.cascade()
	for _, now := range []int64{43, 12, 0, -1, maxTime + 1, maxInt, minInt} {
		got, ok := impl.Tick(c, now)
		wantNoCascade(t, got, ok)
	}
	got, ok := impl.Tick(c, maxTime)
	h.now = maxTime
	wantCascade(t, got, ok, h.cascade())
	for now := int64(44); now < 150; now++ {
		h.now = now
		got, ok := impl.Tick(c, now)
		wantCascade(t, got, ok, h.cascade())
		again, ok := impl.Tick(got, now)
		wantCascade(t, again, ok, got)
	}
}

// TestWindowsOfWhichAPartIsTooOld has points at 13 and 17 in a window that ends
// at 20, and a level that retains 30.
func TestWindowsOfWhichAPartIsTooOld(t *testing.T) {
	h := history{keep: 5, widths: []int64{10}, keeps: []int64{30}}
	h = h.with(impl.Point{T: 13, V: 4}).with(impl.Point{T: 17, V: 6})
	whole := impl.Cascade{Keep: 5, Levels: []impl.Level{{Width: 10, Keep: 30, Rolls: []impl.Roll{{T: 10, Count: 2, Sum: 10, Min: 4, Max: 6, Last: 6}}}}}
	gone := impl.Cascade{Keep: 5, Levels: []impl.Level{{Width: 10, Keep: 30}}}
	for now := int64(22); now <= 60; now++ {
		want := whole
		if now >= 50 {
			want = gone
		}
		want.Now = now
		got, ok := impl.Tick(h.cascade(), now)
		wantCascade(t, got, ok, want)
		got, ok = impl.Ingest(h.cascade(), impl.Point{T: now, V: 1})
		if !ok || (now < 50) != slices.Contains(got.Levels[0].Rolls, whole.Levels[0].Rolls[0]) {
			t.Error(now, got)
		}
	}
}

// TestPointsAtTheEndOfTheirRetention has a point at 20 that is retained while
// the time is less than 25.
func TestPointsAtTheEndOfTheirRetention(t *testing.T) {
	c := history{keep: 5}.with(impl.Point{T: 20, V: 4}).cascade()
	for now := int64(20); now < 30; now++ {
		got, ok := impl.Tick(c, now)
		if !ok || (now < 25) != (len(got.Raw) == 1) {
			t.Error(now, got)
		}
	}
}

func TestTooManyPointsForACascade(t *testing.T) {
	h := history{keep: maxPoints, widths: []int64{10}, keeps: []int64{1000}}
	for at := range int64(maxPoints) {
		h = h.with(impl.Point{T: at + 1, V: at})
	}
	wantIngested(t, h.cascade(), []impl.Point{{T: 121}, {T: 122}}, h.with(impl.Point{T: 121}).with(impl.Point{T: 122}).cascade())
	h.keep++
	got, ok := impl.Ingest(h.cascade(), impl.Point{T: 121})
	wantNoCascade(t, got, ok)
	wantIngested(t, h.cascade(), []impl.Point{{T: 122}}, h.with(impl.Point{T: 122}).cascade())
}

// TestTooManyRollsForACascade has 400 Rolls, of which the first one ends at 10.
func TestTooManyRollsForACascade(t *testing.T) {
	for _, c := range []struct {
		keep, at int64
		want     int
	}{
		{4000, 3995, maxRolls},
		{4000, 3999, maxRolls},
		{4000, 4000, 0},
		{4000, 4009, 0},
		{4000, 4010, maxRolls},
		{3990, 4000, maxRolls},
		{5000, 4010, 0},
		{5000, 5010, maxRolls},
	} {
		cascade := impl.Cascade{Now: 3991, Keep: 3, Levels: []impl.Level{{Width: 10, Keep: c.keep, Rolls: equalRolls(maxRolls, 0, 10)}}}
		got, ok := impl.Ingest(cascade, impl.Point{T: c.at})
		if c.want == 0 {
			wantNoCascade(t, got, ok)
		} else if !ok || len(got.Levels[0].Rolls) != c.want || got.Levels[0].Rolls[c.want-1].T != c.at/10*10 {
			t.Error(c, got, ok)
		}
	}
}

func TestTooManyPointsForARoll(t *testing.T) {
	for _, c := range []struct {
		count, at int64
		want      bool
	}{
		{maxCount - 1, 99, true},
		{maxCount, 99, false},
		{maxCount, 100, true},
	} {
		r := impl.Roll{T: 90, Count: c.count, Sum: c.count * maxSmall, Min: maxSmall, Max: maxSmall, Last: maxSmall}
		cascade := impl.Cascade{Now: 98, Keep: 3, Levels: []impl.Level{{Width: 10, Keep: 30, Rolls: []impl.Roll{r}}}}
		got, ok := impl.Ingest(cascade, impl.Point{T: c.at, V: maxSmall})
		if !c.want {
			wantNoCascade(t, got, ok)
			continue
		}
		want := cascade
		want.Now, want.Raw = c.at, []impl.Point{{T: c.at, V: maxSmall}}
		rolls := []impl.Roll{r, windowRoll(100, []int64{maxSmall})}
		if c.at < 100 {
			rolls = []impl.Roll{{T: 90, Count: maxCount, Sum: maxCount * maxSmall, Min: maxSmall, Max: maxSmall, Last: maxSmall}}
		}
		want.Levels = []impl.Level{{Width: 10, Keep: 30, Rolls: rolls}}
		wantCascade(t, got, ok, want)
	}
}

// ingestEach is the model of IngestAll.
func ingestEach(c impl.Cascade, l []impl.Point) (impl.Cascade, int64) {
	for i, p := range l {
		next, ok := impl.Ingest(c, p)
		if !ok || i == maxIngest {
			return c, int64(i)
		}
		c = next
	}
	return c, int64(len(l))
}

// pointsInSteps returns n points at the multiples of the step.
func pointsInSteps(n int, step int64) []impl.Point {
	var l []impl.Point
	for i := range int64(n) {
		l = append(l, impl.Point{T: step * (i + 1), V: i})
	}
	return l
}

func TestIngestAll(t *testing.T) {
	for _, h := range histories() {
		for _, step := range []int64{1, 5, 50} {
			for _, n := range []int{0, 1, 119, 120, 121, 199, 200, 201, 202, 500} {
				l := pointsInSteps(n, step)
				got, count := impl.IngestAll(h.cascade(), l)
				want, wantCount := ingestEach(h.cascade(), l)
				wantCascade(t, got, count == wantCount, want)
			}
		}
	}
	got, count := impl.IngestAll(history{keep: 5}.cascade(), pointsInSteps(201, 1))
	wantCascade(t, got, count == maxIngest, impl.Cascade{Now: 200, Keep: 5, Raw: pointsInSteps(201, 1)[195:200]})
}

func TestIngestAllUpToARejectedPoint(t *testing.T) {
	h := history{keep: 15, widths: []int64{10}, keeps: []int64{30}}
	for i := range 10 {
		for _, p := range []impl.Point{{T: 0}, {T: 3 * int64(i)}, {T: -1}, {T: maxTime + 1}, {T: 3*int64(i) + 1, V: maxSmall + 1}} {
			l := pointsInSteps(20, 3)
			l[i] = p
			want := h
			for _, p := range l[:i] {
				want = want.with(p)
			}
			got, n := impl.IngestAll(h.cascade(), l)
			wantCascade(t, got, n == int64(i), want.cascade())
		}
	}
}

func TestPointsInTwoParts(t *testing.T) {
	r := numbers()
	for _, h := range histories() {
		for range 5 {
			l := pointsOf(randomTimes(r, 100, 1+r.IntN(12)), make([]int64, 100))
			for i := range l {
				l[i].T++
				l[i].V = randomSmall(r)
			}
			together, n := impl.IngestAll(h.cascade(), l)
			wantCascade(t, together, n == 100, ingested(h, l).cascade())
			for i := range len(l) + 1 {
				first, _ := impl.IngestAll(h.cascade(), l[:i])
				wantIngested(t, first, l[i:], together)
			}
		}
	}
}

func ingested(h history, l []impl.Point) history {
	for _, p := range l {
		h = h.with(p)
	}
	return h
}

// spacious returns a cascade like c of which each list has spare elements.
func spacious(c impl.Cascade) impl.Cascade {
	point := impl.Point{T: 1, V: 1}
	c.Raw = append(slices.Clip(c.Raw), point, point)[:len(c.Raw)]
	var levels []impl.Level
	for _, level := range c.Levels {
		level.Rolls = append(slices.Clip(level.Rolls), impl.Roll{T: 1}, impl.Roll{T: 2})[:len(level.Rolls)]
		levels = append(levels, level)
	}
	c.Levels = append(levels, impl.Level{Width: 1}, impl.Level{Width: 2})[:len(levels)]
	return c
}

// everything returns a copy of c in which the spare elements belong to the
// lists.
func everything(c impl.Cascade) impl.Cascade {
	c.Raw = slices.Clone(c.Raw[:cap(c.Raw)])
	c.Levels = slices.Clone(c.Levels[:cap(c.Levels)])
	for i, level := range c.Levels {
		c.Levels[i].Rolls = slices.Clone(level.Rolls[:cap(level.Rolls)])
	}
	return c
}

// spoil changes everything in c.
func spoil(c impl.Cascade) {
	overwrite(c.Raw, impl.Point{T: 77, V: 77})
	for _, level := range c.Levels {
		overwrite(level.Rolls, impl.Roll{T: 77})
	}
	overwrite(c.Levels, impl.Level{Width: 77})
}

// wantOwnLists reports that two lists of c share memory: it changes each of
// them, while the others must not change.
func wantOwnLists(t *testing.T, c impl.Cascade) {
	t.Helper()
	for i, level := range c.Levels {
		before := everything(c)
		overwrite(level.Rolls, impl.Roll{T: 88})
		before.Levels[i].Rolls = slices.Clone(level.Rolls[:cap(level.Rolls)])
		if !reflect.DeepEqual(everything(c), before) {
			t.Error("shared memory")
		}
	}
}

func TestCascadesAreNotModified(t *testing.T) {
	rolls := []impl.Roll{windowRoll(0, []int64{5, -2}), windowRoll(10, []int64{4})}
	for _, c := range []impl.Cascade{
		{Keep: 5},
		{Now: 12, Keep: 5, Raw: []impl.Point{{T: 8, V: 1}, {T: 12, V: 4}}},
		{Now: 12, Keep: 5, Raw: []impl.Point{{T: 12, V: 4}}, Levels: []impl.Level{{Width: 5, Keep: 10}, {Width: 10, Keep: 30, Rolls: rolls}, {Width: 20, Keep: 40, Rolls: rolls[:1]}}},
		{Now: 12, Keep: 5, Levels: []impl.Level{{Width: 10, Keep: 30, Rolls: rolls[:1]}, {Width: 20, Keep: 40}}},
		{Now: 12, Keep: 5, Levels: []impl.Level{{Width: 10, Keep: 30, Rolls: rolls}, {Width: 15, Keep: 45}}},
	} {
		c = spacious(c)
		before := everything(c)
		l, unchanged := withSpare([]impl.Point{{T: 13, V: 1}, {T: 28, V: 2}, {T: 28, V: 3}}, impl.Point{T: 29}, impl.Point{T: 31})
		for range 2 {
			impl.CascadeOk(c)
			for _, p := range []impl.Point{{T: 13, V: 1}, {T: 45, V: 1}, {T: 99, V: 1}, {T: 2}} {
				one, _ := impl.Ingest(c, p)
				two, _ := impl.Tick(c, p.T)
				three, _ := impl.Tick(c, c.Now)
				four, _ := impl.IngestAll(c, l)
				five, _ := impl.IngestAll(c, nil)
				for _, result := range []impl.Cascade{one, two, three, four, five} {
					wantOwnLists(t, result)
					spoil(result)
				}
			}
		}
		if !reflect.DeepEqual(everything(c), before) || !unchanged() {
			t.Errorf("%v has changed", c)
		}
	}
}

func TestListsOfWidthsAreNotModified(t *testing.T) {
	widths, unchanged := withSpare([]int64{10, 20}, 40, 80)
	keeps, unchangedToo := withSpare([]int64{30, 60}, 120, 240)
	for range 2 {
		c, ok := impl.CascadeNew(15, widths, keeps)
		wantCascade(t, c, ok, history{keep: 15, widths: []int64{10, 20}, keeps: []int64{30, 60}}.cascade())
		spoil(c)
		impl.CascadeNew(0, widths, keeps)
		impl.CascadeNew(15, widths, keeps[:1])
	}
	if !unchanged() || !unchangedToo() {
		t.Error(widths, keeps)
	}
}
