package tests

import (
	"math/rand/v2"
	"slices"
	"strings"
	"testing"

	"loop.example/g00617/impl"
)

// Promise 3: a step is recovered from its code; times are recovered from their
// bits.

// The document's limits, written out so that a change of the constants does not
// go unnoticed.
const (
	maxTime   = 1000000000000
	maxPoints = 120
)

// codeDigits is the model of CodeOf.
func codeDigits(d int64) string {
	switch {
	case d < -maxTime || d > maxTime:
		return ""
	case d == 0:
		return "0"
	case d >= -63 && d <= 64:
		return "10" + digitsOf(d+63, 7)
	case d >= -255 && d <= 256:
		return "110" + digitsOf(d+255, 9)
	case d >= -2047 && d <= 2048:
		return "1110" + digitsOf(d+2047, 12)
	}
	return "1111" + digitsOf(d+2199023255552, 42)
}

// timesDigits is the model of TimesBits, also for lists that are not valid.
func timesDigits(l []int64) string {
	var out strings.Builder
	for i, t := range l {
		switch i {
		case 0:
			out.WriteString(digitsOf(t, 40))
		case 1:
			out.WriteString(codeDigits(t - l[0]))
		default:
			out.WriteString(codeDigits((t - l[i-1]) - (l[i-1] - l[i-2])))
		}
	}
	return out.String()
}

var readTimes = listReader{read: impl.ReadTimes, digits: timesDigits}

// steps returns the numbers around the ends of each length of code, and others.
func steps() []int64 {
	out := []int64{maxTime - 1, maxTime, 1 - maxTime, -maxTime, 1 << 39, -1 << 39}
	for d := int64(-5000); d <= 5000; d++ {
		out = append(out, d)
	}
	r := numbers()
	for range 1000 {
		out = append(out, r.Int64N(2*maxTime+1)-maxTime)
	}
	return out
}

// randomTimes returns n valid times; half of the steps equal the one before,
// and the others have up to `size` digits.
func randomTimes(r *rand.Rand, n int, size int) []int64 {
	var l []int64
	at, step := r.Int64N(1000), int64(1)
	for range n {
		l = append(l, at)
		if r.IntN(2) == 0 {
			step = 1 + r.Int64N(int64(1)<<r.IntN(size))
		}
		at += step
	}
	return l
}

func validTimes() [][]int64 {
	r := numbers()
	out := [][]int64{
		nil,
		{0},
		{maxTime},
		{0, 1},
		{0, maxTime},
		{maxTime - 1, maxTime},
		{0, 1, maxTime},
		{0, maxTime - 1, maxTime},
		{0, 1, 3, 4},
		{0, 64, 128, 191, 319, 384, 640, 641, 3000, 5000, 9000},
	}
	for n := range maxPoints + 1 {
		out = append(out, randomTimes(r, n, 4), randomTimes(r, n, 32))
	}
	return out
}

func invalidTimes() [][]int64 {
	long := make([]int64, maxPoints+1)
	for i := range long {
		long[i] = int64(i)
	}
	return [][]int64{
		{-1},
		{minInt},
		{maxTime + 1},
		{maxInt},
		{0, 0},
		{5, 5},
		{maxTime, maxTime},
		{1, 0},
		{-1, 0},
		{0, maxTime + 1},
		{0, 10, 10, 20},
		{0, 10, 9, 20},
		{0, 10, 20, 19},
		{0, 10, 20, 20},
		{maxTime - 1, maxTime, maxTime + 1},
		{minInt, maxInt},
		long,
	}
}

func wantNoCode(t *testing.T, b impl.Bits, at int64) {
	t.Helper()
	if d, end, ok := impl.ReadCode(b, at); ok || d != 0 || end != 0 {
		t.Errorf("ReadCode(%q, %d bits; %d) = %d, %d, %v", b.Data, b.N, at, d, end, ok)
	}
}

func TestTimeLimits(t *testing.T) {
	if impl.MaxTime != maxTime || impl.MaxPoints != maxPoints {
		t.Error(impl.MaxTime, impl.MaxPoints)
	}
}

func TestCodesOfSteps(t *testing.T) {
	for _, d := range steps() {
		wantBits(t, impl.CodeOf(d), true, codeDigits(d))
	}
}

func TestLengthsOfCodes(t *testing.T) {
	ends := []struct{ low, high, bits int64 }{{0, 0, 1}, {-63, 64, 9}, {-255, 256, 12}, {-2047, 2048, 16}, {-maxTime, maxTime, 46}}
	for i, e := range ends {
		for _, d := range []int64{e.low, e.high} {
			if c := impl.CodeOf(d); c.N != e.bits {
				t.Errorf("CodeOf(%d) has %d bits", d, c.N)
			}
		}
		if i == len(ends)-1 {
			break
		}
		for _, d := range []int64{e.low - 1, e.high + 1} {
			if c := impl.CodeOf(d); c.N != ends[i+1].bits {
				t.Errorf("CodeOf(%d) has %d bits", d, c.N)
			}
		}
	}
}

func TestStepsWithoutCode(t *testing.T) {
	for _, d := range []int64{maxTime + 1, -maxTime - 1, 1 << 41, -1 << 41, 1<<41 - 1, 1 << 42, -1 << 42, maxInt, maxInt - 1, minInt, minInt + 1} {
		if c := impl.CodeOf(d); c != (impl.Bits{}) {
			t.Errorf("CodeOf(%d) = %q, %d bits", d, c.Data, c.N)
		}
	}
}

func TestStepsAreRecoveredFromTheirCodes(t *testing.T) {
	r := numbers()
	for _, d := range steps() {
		before, code, behind := randomDigits(r, r.IntN(140)), codeDigits(d), randomDigits(r, r.IntN(140))
		for _, tail := range []string{"", behind} {
			got, end, ok := impl.ReadCode(bitsOf(before+code+tail), int64(len(before)))
			if !ok || got != d || end != int64(len(before+code)) {
				t.Fatalf("%d behind %d bits: got %d, %d, %v", d, len(before), got, end, ok)
			}
		}
	}
}

func TestCodesThatAreCutOff(t *testing.T) {
	for _, d := range []int64{0, 1, -63, 64, 65, -255, 256, 257, -2047, 2048, 2049, -2048, maxTime, -maxTime} {
		code := codeDigits(d)
		for n := range code {
			for _, before := range []string{"", "1", strings.Repeat("10", 40)} {
				wantNoCode(t, bitsOf(before+code[:n]), int64(len(before)))
			}
		}
	}
}

// TestCodesOfAnotherLength reads all numbers from each length of code; only
// those for which CodeOf chooses this length are accepted.
func TestCodesOfAnotherLength(t *testing.T) {
	for _, c := range []struct {
		head         string
		bits, offset int64
	}{{"10", 7, 63}, {"110", 9, 255}, {"1110", 12, 2047}} {
		for v := range int64(1) << c.bits {
			digits := c.head + digitsOf(v, c.bits)
			if codeDigits(v-c.offset) != digits {
				wantNoCode(t, bitsOf(digits), 0)
			} else if d, end, ok := impl.ReadCode(bitsOf(digits), 0); !ok || d != v-c.offset || end != int64(len(digits)) {
				t.Error(digits, d, end, ok)
			}
		}
	}
	for d := int64(-2047); d <= 2048; d++ {
		wantNoCode(t, bitsOf("1111"+digitsOf(d+1<<41, 42)), 0)
	}
	for _, v := range []int64{0, 1, 1<<42 - 1, 1<<41 + maxTime + 1, 1<<41 - maxTime - 1} {
		wantNoCode(t, bitsOf("1111"+digitsOf(v, 42)), 0)
	}
}

func TestCodesFromInvalidPlaces(t *testing.T) {
	b := bitsOf(strings.Repeat("0", 70))
	for _, at := range []int64{-1, -64, 70, 71, 72, 128, maxInt, minInt} {
		wantNoCode(t, b, at)
	}
	wantNoCode(t, impl.Bits{}, 0)
	for _, b := range invalidBits() {
		wantNoCode(t, b, 0)
		wantNoCode(t, b, 1)
	}
}

func TestTimesOk(t *testing.T) {
	for _, l := range validTimes() {
		if !impl.TimesOk(l) {
			t.Error(l)
		}
	}
	for _, l := range invalidTimes() {
		if impl.TimesOk(l) {
			t.Error(l)
		}
	}
}

func TestBitsOfTimes(t *testing.T) {
	for _, l := range validTimes() {
		got, ok := impl.TimesBits(l)
		wantBits(t, got, ok, timesDigits(l))
	}
	for _, l := range invalidTimes() {
		got, ok := impl.TimesBits(l)
		wantNoBits(t, got, ok)
	}
}

func TestTimesAreRecovered(t *testing.T) {
	for _, l := range validTimes() {
		readTimes.wantRecovered(t, l)
		readTimes.wantEachStart(t, l)
	}
}

func TestTimesThatAreCutOff(t *testing.T) {
	for _, l := range [][]int64{{0}, {100, 110, 120, 131, 200}, {0, 1, maxTime}, randomTimes(numbers(), 20, 30)} {
		readTimes.wantNoPart(t, l)
	}
}

func TestTimesAtIndexesOutOfRange(t *testing.T) {
	readTimes.wantIndexes(t)
}

func TestNumbersOfTimesOutOfRange(t *testing.T) {
	readTimes.wantNumbers(t, randomTimes(numbers(), maxPoints+1, 20))
}

func TestTimesOfInvalidBits(t *testing.T) {
	readTimes.wantValidBits(t)
}

func TestBitsOfInvalidTimes(t *testing.T) {
	for _, l := range [][]int64{{maxTime + 1}, {1<<40 - 1}, {0, 0}, {1, 0}, {7, 8, 8}, {7, 9, 8}, {0, maxTime, 2 * maxTime}, {1, maxTime + 1}, {maxTime - 1, maxTime, maxTime + 1}, {10, 5, 11}} {
		got, end, ok := impl.ReadTimes(bitsOf(timesDigits(l)), 0, int64(len(l)))
		wantNoList(t, got, end, ok)
	}
	// A step of 1 in a code that is longer than the one of CodeOf.
	for _, code := range []string{"110" + digitsOf(256, 9), "1110" + digitsOf(2048, 12), "1111" + digitsOf(1<<41+1, 42)} {
		got, end, ok := impl.ReadTimes(bitsOf(digitsOf(5, 40)+code), 0, 2)
		wantNoList(t, got, end, ok)
	}
}

// TestTimesOfChangedBits exchanges each bit: what is read, if anything, is what
// the changed bits encode.
func TestTimesOfChangedBits(t *testing.T) {
	r := numbers()
	for range 40 {
		l := randomTimes(r, 12, 12)
		digits := timesDigits(l)
		for i := range digits {
			changed := invert(digits, i)
			got, end, ok := impl.ReadTimes(bitsOf(changed), 0, int64(len(l)))
			if !ok {
				wantNoList(t, got, end, ok)
			} else if len(got) != len(l) || !impl.TimesOk(got) || timesDigits(got) != changed[:end] {
				t.Fatal(l, i, got, end)
			}
		}
	}
}

func TestTimesAreNotModified(t *testing.T) {
	for _, times := range [][]int64{nil, {1, 2, 3, 9}, {3, 2, 1}} {
		l, unchanged := withSpare(times, 7, 8, 9)
		impl.TimesOk(l)
		first, _ := impl.TimesBits(l)
		if again, _ := impl.TimesBits(l); !unchanged() || first != again {
			t.Error(times)
		}
	}
	b := bitsOf(timesDigits([]int64{1, 2, 3}))
	one, _, _ := impl.ReadTimes(b, 0, 3)
	two, _, _ := impl.ReadTimes(b, 0, 3)
	one[0] = 77
	if !slices.Equal(two, []int64{1, 2, 3}) {
		t.Error("shared memory", two)
	}
}

func TestTimesExamples(t *testing.T) {
	if c := impl.CodeOf(1); c != (impl.Bits{Data: "\xa0\x00", N: 9}) {
		t.Errorf("%q, %d bits", c.Data, c.N)
	}
	if c := impl.CodeOf(65); c.N != 12 {
		t.Error(c.N)
	}
	if b, ok := impl.TimesBits([]int64{100, 110, 120, 131, 200}); !ok || b.N != 68 {
		t.Error(b.N, ok)
	}
}
