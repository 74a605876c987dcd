package tests

import (
	"slices"
	"strings"
	"testing"

	"loop.example/g00617/impl"
)

// A listReader is ReadTimes or ReadValues, together with the model of the
// encoding that it reads. What both of them promise is checked by its methods.
type listReader struct {
	read   func(b impl.Bits, at int64, n int64) ([]int64, int64, bool)
	digits func(l []int64) string
}

// wantList reports a result of ReadTimes or ReadValues that is not this list
// with this end.
func wantList(t *testing.T, got []int64, end int64, ok bool, want []int64, wantEnd int) {
	t.Helper()
	if !ok || !slices.Equal(got, want) || end != int64(wantEnd) {
		t.Fatalf("got %v, %d, %v; want %v, %d, true", got, end, ok, want, wantEnd)
	}
}

// wantNoList reports a result of ReadTimes or ReadValues that is not a
// rejection.
func wantNoList(t *testing.T, got []int64, end int64, ok bool) {
	t.Helper()
	if ok || len(got) != 0 || end != 0 {
		t.Errorf("got %v, %d, %v; want no list, 0, false", got, end, ok)
	}
}

// wantRecovered reads l from between other bits, and from the end of the bits.
func (x listReader) wantRecovered(t *testing.T, l []int64) {
	t.Helper()
	r := numbers()
	digits, behind := x.digits(l), randomDigits(r, 90)
	for _, n := range []int{0, 1, 24, 63, 64, 65, len(l)} {
		before := randomDigits(r, n)
		for _, tail := range []string{"", behind} {
			got, end, ok := x.read(bitsOf(before+digits+tail), int64(len(before)), int64(len(l)))
			wantList(t, got, end, ok, l, len(before+digits))
		}
	}
}

// wantEachStart reads fewer elements than there are.
func (x listReader) wantEachStart(t *testing.T, l []int64) {
	t.Helper()
	b := bitsOf(x.digits(l))
	for n := range len(l) + 1 {
		got, end, ok := x.read(b, 0, int64(n))
		wantList(t, got, end, ok, l[:n], len(x.digits(l[:n])))
	}
}

// wantNoPart cuts the bits off anywhere, and reads more elements than there
// are.
func (x listReader) wantNoPart(t *testing.T, l []int64) {
	t.Helper()
	digits := x.digits(l)
	for n := range digits {
		got, end, ok := x.read(bitsOf(digits[:n]), 0, int64(len(l)))
		wantNoList(t, got, end, ok)
	}
	got, end, ok := x.read(bitsOf(digits), 0, int64(len(l)+1))
	wantNoList(t, got, end, ok)
}

// wantIndexes reads no elements, which is possible from every index within the
// bits and at their end, and one element from beyond.
func (x listReader) wantIndexes(t *testing.T) {
	t.Helper()
	for _, digits := range []string{"", "1", strings.Repeat("1", 130), strings.Repeat("01", maxBits/2)} {
		b := bitsOf(digits)
		for _, at := range []int{0, len(digits) / 2, len(digits)} {
			got, end, ok := x.read(b, int64(at), 0)
			wantList(t, got, end, ok, nil, at)
		}
		for _, at := range []int64{-64, -1, b.N + 1, b.N + 8, maxInt, minInt} {
			for n := range int64(2) {
				got, end, ok := x.read(b, at, n)
				wantNoList(t, got, end, ok)
			}
		}
	}
}

// wantNumbers reads the first MaxPoints elements of l, and no more, although
// they exist.
func (x listReader) wantNumbers(t *testing.T, l []int64) {
	t.Helper()
	b := bitsOf(x.digits(l))
	for _, n := range []int64{-1, -maxPoints, maxPoints + 1, maxPoints + 2, maxInt, minInt} {
		got, end, ok := x.read(b, 0, n)
		wantNoList(t, got, end, ok)
	}
	got, end, ok := x.read(b, 0, maxPoints)
	wantList(t, got, end, ok, l[:maxPoints], len(x.digits(l[:maxPoints])))
}

func (x listReader) wantValidBits(t *testing.T) {
	t.Helper()
	for _, b := range invalidBits() {
		for n := range int64(2) {
			got, end, ok := x.read(b, 0, n)
			wantNoList(t, got, end, ok)
		}
	}
}
