package tests

import (
	"math/rand/v2"
	"slices"
	"testing"

	"loop.example/g00617/impl"
)

// Promise 16: all points are counted once; a quantile lies in the slot that
// HistRank returns for it.

const (
	maxBounds = 20
	maxSlots  = 21
	maxInSlot = 1000000000
)

// slotOf is the model of the slots: it counts the bounds that a value reaches.
func slotOf(b []int64, v int64) int {
	slot := 0
	for _, bound := range b {
		if v >= bound {
			slot++
		}
	}
	return slot
}

// histOf is the model of HistOf for valid points and bounds.
func histOf(l []impl.Point, b []int64) []int64 {
	h := make([]int64, len(b)+1)
	for _, p := range l {
		h[slotOf(b, p.V)]++
	}
	return h
}

// rankOf is the model of the index of a quantile among n values: it tries one
// index after the other.
func rankOf(n, mille int64) int64 {
	index := int64(0)
	for index+1 < n && 1000*(index+1) <= n*mille {
		index++
	}
	return index
}

// quantileOf is the model of Quantile for valid points: the value before which
// there are few enough others, and with which there are enough.
func quantileOf(l []impl.Point, mille int64) int64 {
	index := rankOf(int64(len(l)), mille)
	for _, x := range l {
		less, equal := int64(0), int64(0)
		for _, p := range l {
			if p.V < x.V {
				less++
			} else if p.V == x.V {
				equal++
			}
		}
		if less <= index && index < less+equal {
			return x.V
		}
	}
	panic("there is no value at the index")
}

// histRank is the model of HistRank for small counts: it lists the slot of each
// value.
func histRank(h []int64, mille int64) int64 {
	var slots []int64
	for i, n := range h {
		for range n {
			slots = append(slots, int64(i))
		}
	}
	if len(slots) == 0 {
		return -1
	}
	return slots[rankOf(int64(len(slots)), mille)]
}

func boundLists() [][]int64 {
	return [][]int64{
		nil,
		{},
		{0},
		{-1},
		{minInt},
		{maxInt},
		{minInt, maxInt},
		{-1, 0, 1},
		{minInt, minInt + 1, -1, 0, 1, maxInt - 1, maxInt},
		idsInSteps(maxBounds-1, -9, 1),
		idsInSteps(maxBounds, -10, 1),
		idsInSteps(maxBounds, minInt, 1),
		idsInSteps(maxBounds, maxInt-maxBounds+1, 1),
		idsInSteps(maxBounds, minInt, maxInt/10),
	}
}

func invalidBounds() [][]int64 {
	almost := idsInSteps(maxBounds, 0, 1)
	almost[maxBounds-1]--
	return [][]int64{
		{0, 0},
		{5, 5},
		{minInt, minInt},
		{maxInt, maxInt},
		{1, 0},
		{maxInt, minInt},
		{0, 1, 1},
		{0, 0, 1},
		{0, 2, 1},
		{1, 0, 2},
		almost,
		idsInSteps(maxBounds, 0, 0),
		idsInSteps(maxBounds, 0, -1),
		idsInSteps(maxBounds+1, 0, 1),
		idsInSteps(maxBounds+1, minInt, 1),
		idsInSteps(maxBounds+2, 0, 1),
		idsInSteps(2*maxBounds, 0, 1),
		idsInSteps(100000, 0, 1),
	}
}

// valuePoints returns valid points; the first of them have none.
func valuePoints() [][]impl.Point {
	r := numbers()
	out := [][]impl.Point{
		nil,
		{},
		valued(minInt),
		valued(maxInt),
		valued(minInt, maxInt),
		valued(maxInt, minInt, 0, maxInt, minInt),
		valued(minInt, minInt+1, -1, 0, 1, maxInt-1, maxInt),
		valued(5, 5, 5, 5),
		valued(3, 3, 2, 2, 1, 1),
		valued(edgeNumbers()[:maxPoints]...),
	}
	for n := range maxPoints + 1 {
		values := make([]int64, n)
		for i := range values {
			values[i] = r.Int64N(24) - 12
		}
		out = append(out, valued(values...))
	}
	return append(out, pointLists()...)
}

// boundsNear returns bounds that equal values of l or are next to them.
func boundsNear(r *rand.Rand, l []impl.Point) []int64 {
	var b []int64
	for range min(len(l), 1+r.IntN(maxBounds)) {
		b = append(b, l[r.IntN(len(l))].V+r.Int64N(3)-1)
	}
	slices.Sort(b)
	return slices.Compact(b)
}

func milles() []int64 {
	return []int64{0, 1, 2, 8, 9, 333, 334, 499, 500, 501, 666, 667, 990, 991, 992, 998, 999, 1000}
}

func invalidMilles() []int64 {
	return []int64{-1, -2, -1000, 1001, 1002, 2000, 1 << 32, maxInt, minInt}
}

func wantHist(t *testing.T, l []impl.Point, b []int64, want ...int64) {
	t.Helper()
	if got := impl.HistOf(l, b); !slices.Equal(got, want) {
		t.Fatalf("%v with the bounds %v: got %v, want %v", l, b, got, want)
	}
}

func wantSums(t *testing.T, a, b []int64, want ...int64) {
	t.Helper()
	for range 2 {
		if got := impl.HistAdd(a, b); !slices.Equal(got, want) {
			t.Fatalf("%v and %v: got %v, want %v", a, b, got, want)
		}
		a, b = b, a
	}
}

func wantQuantile(t *testing.T, l []impl.Point, mille, want int64) {
	t.Helper()
	if got, ok := impl.Quantile(l, mille); !ok || got != want {
		t.Fatalf("%v, %d: got %d, %v; want %d, true", l, mille, got, ok, want)
	}
}

func wantNoQuantile(t *testing.T, l []impl.Point, mille int64) {
	t.Helper()
	if got, ok := impl.Quantile(l, mille); ok || got != 0 {
		t.Errorf("%v, %d: got %d, %v; want 0, false", l, mille, got, ok)
	}
}

func wantRank(t *testing.T, h []int64, mille, want int64) {
	t.Helper()
	if got := impl.HistRank(h, mille); got != want {
		t.Fatalf("%v, %d: got %d, want %d", h, mille, got, want)
	}
}

func TestBounds(t *testing.T) {
	for _, b := range boundLists() {
		if !impl.BoundsOk(b) {
			t.Error(b)
		}
	}
	for _, b := range invalidBounds() {
		if impl.BoundsOk(b) {
			t.Error(b)
		}
	}
}

func TestAllPointsAreCountedOnce(t *testing.T) {
	r := numbers()
	for _, l := range valuePoints() {
		for _, b := range append(boundLists(), boundsNear(r, l), boundsNear(r, l)) {
			h := impl.HistOf(l, b)
			wantHist(t, l, b, histOf(l, b)...)
			sum := int64(0)
			for _, n := range h {
				sum += n
			}
			if len(h) != len(b)+1 || sum != int64(len(l)) {
				t.Fatalf("%v with the bounds %v: got %v", l, b, h)
			}
		}
	}
}

func TestHistOfInvalidPointsOrBounds(t *testing.T) {
	for _, l := range append(invalidPoints(), farPoints(maxPoints+1)) {
		for _, b := range append(boundLists(), invalidBounds()...) {
			wantHist(t, l, b)
		}
	}
	for _, l := range [][]impl.Point{nil, valued(1), valued(5, -1, 20, 7, 5)} {
		for _, b := range invalidBounds() {
			wantHist(t, l, b)
		}
	}
}

func TestHistExamples(t *testing.T) {
	l := valued(5, -1, 20, 7, 5)
	wantHist(t, l, []int64{0, 5, 10}, 1, 0, 3, 1)
	wantHist(t, l, nil, 5)
	wantHist(t, nil, nil, 0)
	wantHist(t, nil, []int64{3}, 0, 0)
	wantHist(t, l, []int64{5}, 1, 4)
	wantHist(t, l, []int64{6}, 3, 2)
	wantHist(t, l, []int64{-1}, 0, 5)
	wantHist(t, l, []int64{20}, 4, 1)
	wantHist(t, l, []int64{21}, 5, 0)
	wantHist(t, l, []int64{minInt}, 0, 5)
	wantHist(t, l, []int64{maxInt}, 5, 0)
	wantHist(t, valued(minInt, maxInt), []int64{minInt}, 0, 2)
	wantHist(t, valued(minInt, maxInt), []int64{minInt + 1}, 1, 1)
	wantHist(t, valued(minInt, maxInt), []int64{maxInt}, 1, 1)
	wantHist(t, valued(minInt, maxInt), []int64{minInt, maxInt}, 0, 1, 1)
}

func TestHistsOfPartsAdded(t *testing.T) {
	r := numbers()
	for _, l := range valuePoints() {
		n := r.IntN(len(l) + 1)
		for _, b := range append(boundLists(), boundsNear(r, l)) {
			wantSums(t, impl.HistOf(l[:n], b), impl.HistOf(l[n:], b), histOf(l, b)...)
		}
	}
}

// invalidHists returns lists that are no arguments of HistAdd and HistRank.
func invalidHists() [][]int64 {
	out := [][]int64{
		nil,
		{},
		make([]int64, maxSlots+1),
		idsInSteps(maxSlots+1, 1, 0),
		make([]int64, 2*maxSlots),
		idsInSteps(100000, 1, 0),
	}
	for _, n := range []int64{-1, maxInSlot + 1, minInt, maxInt, -maxInSlot, 1 << 32} {
		out = append(out, []int64{n}, []int64{n, 1}, []int64{1, n}, []int64{1, n, 1})
		for i := range maxSlots {
			h := idsInSteps(maxSlots, 1, 0)
			h[i] = n
			out = append(out, h)
		}
	}
	return out
}

func TestSumsOfHists(t *testing.T) {
	wantSums(t, []int64{1, 0, 3, 1}, []int64{1, 1, 1, 1}, 2, 1, 4, 2)
	wantSums(t, []int64{0}, []int64{0}, 0)
	wantSums(t, []int64{0}, []int64{maxInSlot}, maxInSlot)
	wantSums(t, []int64{1, 2}, []int64{maxInSlot - 1, maxInSlot - 2}, maxInSlot, maxInSlot)
	wantSums(t, []int64{maxInSlot / 2}, []int64{maxInSlot / 2}, maxInSlot)
	ones, zeros := idsInSteps(maxSlots, 1, 0), make([]int64, maxSlots)
	full := idsInSteps(maxSlots, maxInSlot, 0)
	wantSums(t, ones, zeros, ones...)
	wantSums(t, ones, ones, idsInSteps(maxSlots, 2, 0)...)
	wantSums(t, full, zeros, full...)
	wantSums(t, idsInSteps(maxSlots, 0, 1), idsInSteps(maxSlots, 0, 10), idsInSteps(maxSlots, 0, 11)...)
}

func TestSumsThatAreTooGreat(t *testing.T) {
	wantSums(t, []int64{1}, []int64{maxInSlot})
	wantSums(t, []int64{maxInSlot}, []int64{maxInSlot})
	wantSums(t, []int64{maxInSlot / 2}, []int64{maxInSlot/2 + 1})
	for i := range maxSlots {
		a, b := idsInSteps(maxSlots, 1, 0), idsInSteps(maxSlots, maxInSlot-1, 0)
		wantSums(t, a, b, idsInSteps(maxSlots, maxInSlot, 0)...)
		a[i] = 2
		wantSums(t, a, b)
	}
}

func TestSumsOfInvalidHists(t *testing.T) {
	for _, h := range invalidHists() {
		wantSums(t, h, h)
		wantSums(t, h, make([]int64, len(h)))
		wantSums(t, h, []int64{1})
		var negated []int64
		for _, n := range h {
			negated = append(negated, 2-n)
		}
		wantSums(t, h, negated)
	}
}

func TestSumsOfHistsOfDifferentLengths(t *testing.T) {
	for a := range maxSlots + 3 {
		for b := range maxSlots + 3 {
			if a != b {
				wantSums(t, idsInSteps(a, 1, 0), idsInSteps(b, 1, 0))
			}
		}
	}
}

func TestQuantiles(t *testing.T) {
	for _, l := range valuePoints()[2:] {
		for _, mille := range milles() {
			if len(l) > 0 {
				wantQuantile(t, l, mille, quantileOf(l, mille))
			}
		}
	}
	for _, l := range [][]impl.Point{valued(7), valued(5, -1, 20, 7, 5), farPoints(7), farPoints(119), farPoints(maxPoints)} {
		for mille := range int64(1001) {
			wantQuantile(t, l, mille, quantileOf(l, mille))
		}
	}
}

func TestQuantileExamples(t *testing.T) {
	l := valued(5, -1, 20, 7, 5)
	for _, x := range []struct{ mille, want int64 }{
		{0, -1}, {1, -1}, {199, -1}, {200, 5}, {399, 5}, {400, 5}, {500, 5}, {599, 5}, {600, 7}, {799, 7}, {800, 20}, {999, 20}, {1000, 20},
	} {
		wantQuantile(t, l, x.mille, x.want)
	}
	for _, mille := range milles() {
		for _, v := range []int64{minInt, -7, 0, maxInt} {
			wantQuantile(t, valued(v), mille, v)
			wantQuantile(t, valued(v, v, v), mille, v)
		}
	}
	wantQuantile(t, valued(maxInt, minInt), 499, minInt)
	wantQuantile(t, valued(maxInt, minInt), 500, maxInt)
	wantQuantile(t, valued(3, 1, 2), 333, 1)
	wantQuantile(t, valued(3, 1, 2), 334, 2)
	wantQuantile(t, valued(3, 1, 2), 666, 2)
	wantQuantile(t, valued(3, 1, 2), 667, 3)
	wantQuantile(t, valued(3, 1, 2), 1000, 3)
}

func TestQuantilesOfInvalidArguments(t *testing.T) {
	for _, mille := range append(milles(), invalidMilles()...) {
		wantNoQuantile(t, nil, mille)
		wantNoQuantile(t, []impl.Point{}, mille)
		for _, l := range append(invalidPoints(), farPoints(maxPoints+1)) {
			wantNoQuantile(t, l, mille)
		}
	}
	for _, mille := range invalidMilles() {
		wantNoQuantile(t, valued(7), mille)
		wantNoQuantile(t, valued(5, -1, 20, 7, 5), mille)
		wantNoQuantile(t, farPoints(maxPoints), mille)
	}
}

func TestQuantileLiesInItsSlot(t *testing.T) {
	r := numbers()
	for _, l := range valuePoints() {
		for _, b := range append(boundLists(), boundsNear(r, l), boundsNear(r, l)) {
			for _, mille := range milles() {
				v, ok := impl.Quantile(l, mille)
				rank := impl.HistRank(impl.HistOf(l, b), mille)
				if !ok && rank != -1 || ok && rank != int64(slotOf(b, v)) {
					t.Fatalf("%v with the bounds %v, %d: the quantile is %d, %v, in the slot %d", l, b, mille, v, ok, rank)
				}
			}
		}
	}
}

func TestRanksOfHists(t *testing.T) {
	for _, h := range [][]int64{{1}, {7}, {0, 1}, {1, 0}, {0, 0, 5, 0, 0}, {1, 0, 3, 1}, {1, 1, 1}, idsInSteps(maxSlots, 1, 0), idsInSteps(maxSlots, 0, 1)} {
		for mille := range int64(1001) {
			wantRank(t, h, mille, histRank(h, mille))
		}
	}
	r := numbers()
	for range 300 {
		h := make([]int64, 1+r.IntN(maxSlots))
		for i := range h {
			h[i] = max(0, r.Int64N(16)-8)
		}
		for _, mille := range milles() {
			wantRank(t, h, mille, histRank(h, mille))
		}
	}
}

func TestRankExamples(t *testing.T) {
	for _, x := range []struct{ mille, want int64 }{
		{0, 0}, {199, 0}, {200, 2}, {500, 2}, {799, 2}, {800, 3}, {999, 3}, {1000, 3},
	} {
		wantRank(t, []int64{1, 0, 3, 1}, x.mille, x.want)
		wantRank(t, []int64{1, 0, 3, 1, 0, 0}, x.mille, x.want)
		wantRank(t, []int64{0, 1, 0, 3, 1}, x.mille, x.want+1)
	}
	for _, mille := range milles() {
		wantRank(t, []int64{1}, mille, 0)
		wantRank(t, []int64{0, 0, maxInSlot, 0}, mille, 2)
	}
}

// TestRanksOfGreatHists has sums that are greater than what one slot can have.
func TestRanksOfGreatHists(t *testing.T) {
	full := idsInSteps(maxSlots, maxInSlot, 0)
	for mille := range int64(1001) {
		wantRank(t, full, mille, min(mille*maxSlots/1000, maxSlots-1))
		wantRank(t, []int64{maxInSlot, maxInSlot}, mille, min(mille/500, 1))
	}
	wantRank(t, []int64{333000000, 667000000}, 332, 0)
	wantRank(t, []int64{333000000, 667000000}, 333, 1)
	wantRank(t, []int64{333000000, 667000001}, 333, 1)
	wantRank(t, []int64{333000000, 666999999}, 333, 0)
	wantRank(t, []int64{333000001, 667000000}, 333, 0)
	wantRank(t, []int64{1, maxInSlot}, 0, 0)
	wantRank(t, []int64{1, maxInSlot}, 1, 1)
	wantRank(t, []int64{maxInSlot, 1}, 999, 0)
	wantRank(t, []int64{maxInSlot, 1}, 1000, 1)
	wantRank(t, []int64{maxInSlot, 1, 0}, 1000, 1)
}

func TestRanksWithoutValues(t *testing.T) {
	for n := range maxSlots + 2 {
		for _, mille := range append(milles(), invalidMilles()...) {
			wantRank(t, make([]int64, n), mille, -1)
		}
	}
}

func TestRanksOfInvalidArguments(t *testing.T) {
	for _, h := range invalidHists() {
		for _, mille := range append(milles(), invalidMilles()...) {
			wantRank(t, h, mille, -1)
		}
	}
	for _, mille := range invalidMilles() {
		wantRank(t, []int64{1}, mille, -1)
		wantRank(t, []int64{1, 0, 3, 1}, mille, -1)
		wantRank(t, idsInSteps(maxSlots, maxInSlot, 0), mille, -1)
	}
}

func TestHistsModifyNothing(t *testing.T) {
	for _, points := range append(valuePoints()[:80], invalidPoints()...) {
		for _, bounds := range append(boundLists(), invalidBounds()[:9]...) {
			l, _ := withSpare(points, impl.Point{T: 77, V: 77}, impl.Point{T: 1, V: 9}, impl.Point{T: 78, V: 77})
			b, _ := withSpare(bounds, maxInt, minInt, 3)
			pointsSame, boundsSame := wantUnchanged(t, l), wantUnchanged(t, b)
			one, two := impl.HistOf(l, b), impl.HistOf(l, b)
			v, ok := impl.Quantile(l, 500)
			again, okAgain := impl.Quantile(l, 500)
			if !slices.Equal(one, two) || v != again || ok != okAgain || impl.BoundsOk(b) != impl.BoundsOk(b) {
				t.Error("other results for equal arguments", l, b)
			}
			wantOwnMemory(t, one, l, b, two)
			overwrite(one, 77)
			pointsSame()
			boundsSame()
		}
	}
}

func TestSumsAndRanksModifyNothing(t *testing.T) {
	for _, counts := range append(invalidHists()[:20], []int64{0}, []int64{1, 0, 3, 1}, make([]int64, maxSlots), idsInSteps(maxSlots, 1, 0)) {
		a, _ := withSpare(counts, 5, -1, 6)
		b, _ := withSpare(idsInSteps(len(counts), 3, 1), maxInt, 8)
		same, otherSame := wantUnchanged(t, a), wantUnchanged(t, b)
		for _, h := range [][]int64{a, b} {
			one, two := impl.HistAdd(a, h), impl.HistAdd(a, h)
			if !slices.Equal(one, two) || impl.HistRank(h, 500) != impl.HistRank(h, 500) {
				t.Error("other results for equal arguments", a, h)
			}
			wantOwnMemory(t, one, a, b, two)
			overwrite(one, 77)
		}
		same()
		otherSame()
	}
}
