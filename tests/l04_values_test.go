package tests

import (
	"math/rand/v2"
	"slices"
	"strings"
	"testing"

	"loop.example/g00617/impl"
)

// Promise 4: values are recovered from their bits; a repeated value has one
// bit.

// valuesDigits is the model of ValuesBits. It keeps the window as the ends of a
// range of the 64 digits; there is none if they are equal.
func valuesDigits(l []int64) string {
	var out strings.Builder
	from, to := 0, 0
	for i, v := range l {
		if i == 0 {
			out.WriteString(digitsOf(v, 64))
			continue
		}
		x := digitsOf(v^l[i-1], 64)
		switch {
		case !strings.Contains(x, "1"):
			out.WriteString("0")
			continue
		case from < to && !strings.Contains(x[:from]+x[to:], "1"):
			out.WriteString("10")
		default:
			from, to = min(strings.Index(x, "1"), 31), strings.LastIndex(x, "1")+1
			out.WriteString("11" + digitsOf(int64(from), 5) + digitsOf(int64(to-from-1), 6))
		}
		out.WriteString(x[from:to])
	}
	return out.String()
}

var readValues = listReader{read: impl.ReadValues, digits: valuesDigits}

// newWindow returns the digits of a code with a new window.
func newWindow(before, size, v int64) string {
	return "11" + digitsOf(before, 5) + digitsOf(size-1, 6) + digitsOf(v, size)
}

// randomValues returns n values: each one repeats the preceding one, differs
// from it in a few bits near to each other, or is any number.
func randomValues(r *rand.Rand, n int) []int64 {
	var l []int64
	v, at := int64(r.Uint64()), r.IntN(64)
	for range n {
		l = append(l, v)
		switch r.IntN(8) {
		case 0, 1:
		case 2:
			v = int64(r.Uint64())
		case 3:
			at = r.IntN(64)
			v ^= 1 << at
		default:
			v ^= int64(r.Uint64N(16)) << at
		}
	}
	return l
}

func valueLists() [][]int64 {
	r := numbers()
	out := [][]int64{
		nil,
		{0},
		{-1},
		{minInt},
		{0, 0, 0},
		{-1, -1, -1},
		{0, -1, 0, -1},
		{maxInt, minInt, maxInt},
		{0, minInt, 1, 0},
		{0, 1, 0, 1, 0},
		{0, 1 << 32, 1 << 33, 1 << 32},
		{0, 1 << 33, 0, 1 << 32},
		{0, 6, 6, 0, 2, 0, 4, 0, 1, 0, 8, 0, 16, 0},
		{12, 12, 28, 12, 15},
		edgeNumbers()[:maxPoints],
		edgeNumbers()[len(edgeNumbers())-maxPoints:],
	}
	for n := range maxPoints + 1 {
		out = append(out, randomValues(r, n), randomValues(r, n))
	}
	return out
}

func TestZerosAtTheEnds(t *testing.T) {
	r := numbers()
	list := edgeNumbers()
	for i := range 1000 {
		list = append(list, int64(r.Uint64()>>(i%64)), int64(r.Uint64()<<(i%64)))
	}
	for _, n := range list {
		digits := digitsOf(n, 64)
		lead, trail := len(digits)-len(strings.TrimLeft(digits, "0")), len(digits)-len(strings.TrimRight(digits, "0"))
		if got := impl.Lead(n); got != int64(lead) {
			t.Errorf("Lead(%d) = %d, want %d", n, got, lead)
		}
		if got := impl.Trail(n); got != int64(trail) {
			t.Errorf("Trail(%d) = %d, want %d", n, got, trail)
		}
	}
}

func TestZerosExamples(t *testing.T) {
	for n, want := range map[int64][2]int64{0: {64, 64}, 1: {63, 0}, 8: {60, 3}, -1: {0, 0}, minInt: {0, 63}, maxInt: {1, 0}, -2: {0, 1}} {
		if impl.Lead(n) != want[0] || impl.Trail(n) != want[1] {
			t.Error(n, impl.Lead(n), impl.Trail(n))
		}
	}
}

func TestBitsOfValues(t *testing.T) {
	for _, l := range valueLists() {
		got, ok := impl.ValuesBits(l)
		wantBits(t, got, ok, valuesDigits(l))
	}
}

func TestTooManyValues(t *testing.T) {
	for _, n := range []int{maxPoints + 1, maxPoints + 2, 1000} {
		got, ok := impl.ValuesBits(make([]int64, n))
		wantNoBits(t, got, ok)
	}
}

func TestValuesAreRecovered(t *testing.T) {
	for _, l := range valueLists() {
		readValues.wantRecovered(t, l)
		readValues.wantEachStart(t, l)
	}
}

func TestValuesThatAreCutOff(t *testing.T) {
	for _, l := range [][]int64{{0}, {12, 12, 28, 12, 15}, {0, -1, 0}, randomValues(numbers(), 20)} {
		readValues.wantNoPart(t, l)
	}
}

func TestValuesAtIndexesOutOfRange(t *testing.T) {
	readValues.wantIndexes(t)
}

func TestNumbersOfValuesOutOfRange(t *testing.T) {
	readValues.wantNumbers(t, randomValues(numbers(), maxPoints+1))
}

func TestValuesOfInvalidBits(t *testing.T) {
	readValues.wantValidBits(t)
}

func TestRepeatedValuesHaveOneBit(t *testing.T) {
	for _, l := range valueLists() {
		if len(l) == 0 || len(l) == maxPoints {
			continue
		}
		got, ok := impl.ValuesBits(append(slices.Clone(l), l[len(l)-1]))
		wantBits(t, got, ok, valuesDigits(l)+"0")
	}
	got, ok := impl.ValuesBits(slices.Repeat([]int64{-5}, maxPoints))
	wantBits(t, got, ok, digitsOf(-5, 64)+strings.Repeat("0", maxPoints-1))
}

// TestWindows gives the exclusive or of each value and the preceding one, and
// the number of bits of its code.
func TestWindows(t *testing.T) {
	for i, list := range [][][2]int64{
		// A window still fits if it begins or ends with a zero, or is in use in full.
		{{0b1110 << 40, 16}, {0b1110 << 40, 5}, {0b1000 << 40, 5}, {0b0010 << 40, 5}, {0b0100 << 40, 5}, {0b0110 << 40, 5}, {0b1100 << 40, 5}},
		// One bit before it or behind it does not fit, and makes a new window.
		{{0b1110 << 40, 16}, {0b10000 << 40, 14}, {0b1000 << 40, 14}},
		{{0b1110 << 40, 16}, {0b0001 << 40, 14}, {0b0010 << 40, 14}},
		{{0b1110 << 40, 16}, {0b1111 << 40, 17}, {0b0001 << 40, 6}},
		// A repeated value leaves the window as it is.
		{{0, 1}, {0b1110 << 40, 16}, {0, 1}, {0, 1}, {0b0010 << 40, 5}},
		// At most 31 bits are before a window.
		{{1 << 32, 14}, {1 << 31, 15}, {1 << 32, 4}, {1 << 30, 16}, {1 << 31, 5}},
		{{1, 46}, {1 << 32, 35}, {1 << 33, 14}, {1, 46}},
		{{1 << 33, 14}, {1 << 32, 14}, {1 << 31, 15}},
		// All 64 bits, and each of their ends.
		{{-1, 77}, {1, 66}, {minInt, 66}, {-1, 66}},
		{{minInt, 14}, {minInt, 3}, {1, 46}, {minInt, 14}, {minInt | 1, 77}, {1, 66}},
	} {
		l := []int64{99}
		bits := int64(64)
		for _, c := range list {
			l = append(l, l[len(l)-1]^c[0])
			bits += c[1]
			if got, ok := impl.ValuesBits(l); !ok || got.N != bits {
				t.Errorf("list %d, %d values: %d bits, %v, want %d", i, len(l), got.N, ok, bits)
			}
		}
	}
}

// TestBitsOfWhichOtherOnesWouldBeMade has encodings from which values could be
// read, but of which ValuesBits makes other bits.
func TestBitsOfWhichOtherOnesWouldBeMade(t *testing.T) {
	first, window := digitsOf(9, 64), newWindow(20, 3, 0b101)
	zeros := strings.Repeat("0", 64)
	for i, codes := range [][]string{
		{"10"},                 // no window yet
		{"0", "10"},            // also behind a repeated value
		{window, "10" + "000"}, // a repeated value within the window
		{newWindow(20, 3, 0)},  // a repeated value in a new one
		{newWindow(31, 33, 0)},
		{newWindow(20, 3, 0b110)}, // the window does not end with its last one
		{newWindow(20, 3, 0b011)}, // nor begin with its first one
		{newWindow(30, 3, 0b011)},
		{window, window},                   // a new window that the old one makes needless
		{window, newWindow(21, 1, 1)},      // also a smaller one
		{window, "0", newWindow(20, 1, 1)}, // also behind a repeated value
		{newWindow(31, 34, 1)},             // more than 64 bits
		{newWindow(1, 64, 1)},
		{newWindow(31, 64, 1)},
		{newWindow(31, 64, 0)},
	} {
		digits := first + strings.Join(codes, "")
		for _, tail := range []string{"", zeros} {
			got, end, ok := impl.ReadValues(bitsOf(digits+tail), 0, int64(len(codes)+1))
			if ok {
				t.Error("list", i)
			}
			wantNoList(t, got, end, ok)
		}
	}
	good := first + window + "10" + "001" + "0" + newWindow(19, 1, 1)
	got, end, ok := impl.ReadValues(bitsOf(good), 0, 5)
	one := int64(9) ^ 0b101<<41
	two := one ^ 1<<41
	wantList(t, got, end, ok, []int64{9, one, two, two, two ^ 1<<44}, len(good))
}

// TestValuesOfChangedBits exchanges each bit: what is read, if anything, is
// what the changed bits encode.
func TestValuesOfChangedBits(t *testing.T) {
	r := numbers()
	for range 40 {
		l := randomValues(r, 12)
		digits := valuesDigits(l)
		for i := range digits {
			changed := invert(digits, i)
			got, end, ok := impl.ReadValues(bitsOf(changed), 0, int64(len(l)))
			if !ok {
				wantNoList(t, got, end, ok)
			} else if len(got) != len(l) || valuesDigits(got) != changed[:end] {
				t.Fatal(l, i, got, end)
			}
		}
	}
}

func TestValuesAreNotModified(t *testing.T) {
	for _, values := range [][]int64{nil, {1, 2, 3, 9}, make([]int64, maxPoints+1)} {
		l, unchanged := withSpare(values, 7, 8, 9)
		first, _ := impl.ValuesBits(l)
		if again, _ := impl.ValuesBits(l); !unchanged() || first != again {
			t.Error(values)
		}
	}
	b := bitsOf(valuesDigits([]int64{1, 2, 3}))
	one, _, _ := impl.ReadValues(b, 0, 3)
	two, _, _ := impl.ReadValues(b, 0, 3)
	one[0] = 77
	if !slices.Equal(two, []int64{1, 2, 3}) {
		t.Error("shared memory", two)
	}
}

func TestValuesExample(t *testing.T) {
	l := []int64{12, 12, 28, 12, 15}
	bits := int64(0)
	for i, n := range []int64{64, 1, 42, 31, 46} {
		bits += n
		if b, ok := impl.ValuesBits(l[:i+1]); !ok || b.N != bits {
			t.Error(i, b.N, ok)
		}
	}
}
