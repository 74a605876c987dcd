package tests

import (
	"math"
	"strings"
	"testing"

	"loop.example/g00617/impl"
)

// Promise 1: bits that are appended are read there; joined bit strings can be
// divided again.

const maxInt, minInt = math.MaxInt64, math.MinInt64

// maxBits is the document's limit, written out so that a change of MaxBits
// does not go unnoticed.
const maxBits = 20000

func invalidBits() []impl.Bits {
	full := strings.Repeat("\x00", 2500)
	return []impl.Bits{
		{N: 1},
		{N: -1},
		{N: -8, Data: "a"},
		{N: maxInt},
		{N: minInt},
		{N: maxInt, Data: "ab"},
		{Data: "a"},
		{Data: "\x00"},
		{N: 8, Data: "ab"},
		{N: 8, Data: "a\x00"},
		{N: 9, Data: "a"},
		{N: 3, Data: "\xa1"},
		{N: 3, Data: "\xb0"},
		{N: 9, Data: "\xff\xc0"},
		{N: 15, Data: "\xff\xff"},
		{N: maxBits, Data: full + "\x00"},
		{N: maxBits, Data: full[1:]},
		{N: maxBits + 1, Data: full + "\x00"},
		{N: maxBits + 8, Data: full + "\x00"},
	}
}

func TestMaxBits(t *testing.T) {
	if impl.MaxBits != maxBits {
		t.Error(impl.MaxBits)
	}
}

func TestBitsOkAcceptsEveryLength(t *testing.T) {
	for n := range 200 {
		for _, digit := range []string{"0", "1"} {
			if b := bitsOf(strings.Repeat(digit, n)); !impl.BitsOk(b) {
				t.Errorf("%q, %d bits", b.Data, b.N)
			}
		}
	}
	for _, n := range []int{maxBits - 1, maxBits} {
		if !impl.BitsOk(bitsOf(strings.Repeat("1", n))) {
			t.Error(n)
		}
	}
	if impl.BitsOk(bitsOf(strings.Repeat("1", maxBits+1))) {
		t.Error("one bit too many")
	}
}

func TestBitsOkWantsZerosBehindTheLastBit(t *testing.T) {
	for n := 1; n <= 24; n++ {
		b := bitsOf(strings.Repeat("1", n))
		for unused := n; unused < (n+7)/8*8; unused++ {
			data := []byte(b.Data)
			data[unused/8] |= 128 >> (unused % 8)
			if impl.BitsOk(impl.Bits{Data: string(data), N: b.N}) {
				t.Errorf("%q, %d bits", data, b.N)
			}
		}
	}
}

func TestInvalidBitsAreRejected(t *testing.T) {
	for i, b := range invalidBits() {
		if impl.BitsOk(b) {
			t.Error("BitsOk", i)
		}
		got, ok := impl.PutBits(b, 0, 0)
		wantNoBits(t, got, ok)
		got, ok = impl.Part(b, 0, 0)
		wantNoBits(t, got, ok)
		got, ok = impl.Joined(b, impl.Bits{})
		wantNoBits(t, got, ok)
		got, ok = impl.Joined(impl.Bits{}, b)
		wantNoBits(t, got, ok)
		for _, n := range []int64{0, 1} {
			if v, ok := impl.GetBits(b, 0, n); ok || v != 0 {
				t.Error("GetBits", i, v, ok)
			}
		}
	}
}

// valuesOf returns numbers that fit in n bits: the extremes and one between.
func valuesOf(n int64, random int64) []int64 {
	if n == 64 {
		return []int64{0, 1, -1, -2, maxInt, minInt, random, -random}
	}
	largest := int64(1)<<n - 1
	return []int64{0, largest, largest / 2, random & largest}
}

func TestAppendedBitsAreReadThere(t *testing.T) {
	r := numbers()
	for before := range 140 {
		digits := randomDigits(r, before)
		for n := int64(0); n <= 64; n++ {
			for _, v := range valuesOf(n, r.Int64()) {
				b, ok := impl.PutBits(bitsOf(digits), v, n)
				wantBits(t, b, ok, digits+digitsOf(v, n))
				if !impl.BitsOk(b) {
					t.Fatalf("not valid: %q, %d bits", b.Data, b.N)
				}
				if got, ok := impl.GetBits(b, int64(before), n); !ok || got != v {
					t.Fatalf("%d in %d bits behind %d: got %d, %v", v, n, before, got, ok)
				}
			}
		}
	}
}

func TestManyAppendsAreReadAtTheirPlaces(t *testing.T) {
	r := numbers()
	var b impl.Bits
	var places, sizes, values []int64
	for {
		n := r.Int64N(65)
		v := valuesOf(n, r.Int64())[r.IntN(4)]
		c, ok := impl.PutBits(b, v, n)
		if ok != (b.N+n <= maxBits) {
			t.Fatal(b.N, n, ok)
		}
		if !ok {
			break
		}
		places, sizes, values = append(places, b.N), append(sizes, n), append(values, v)
		b = c
	}
	for i, at := range places {
		if got, ok := impl.GetBits(b, at, sizes[i]); !ok || got != values[i] {
			t.Fatalf("%d bits at %d: got %d, %v, want %d", sizes[i], at, got, ok, values[i])
		}
	}
}

func TestGetBitsAtEveryIndex(t *testing.T) {
	digits := randomDigits(numbers(), 200)
	b := bitsOf(digits)
	for at := int64(0); at <= 202; at++ {
		for n := int64(0); n <= 64; n++ {
			got, ok := impl.GetBits(b, at, n)
			if at+n > b.N {
				if ok || got != 0 {
					t.Fatal(at, n, got, ok)
				}
			} else if want := numberOf(digits[at : at+n]); !ok || got != want {
				t.Fatal(at, n, got, ok, want)
			}
		}
	}
}

func TestNegativeNumbersIn64Bits(t *testing.T) {
	for _, before := range []string{"", "1", "1010101", "00000000", strings.Repeat("1", 63), strings.Repeat("0", 64)} {
		for _, v := range []int64{-1, -2, -300, minInt, minInt + 1} {
			b, ok := impl.PutBits(bitsOf(before), v, 64)
			wantBits(t, b, ok, before+digitsOf(v, 64))
			if got, ok := impl.GetBits(b, int64(len(before)), 64); !ok || got != v {
				t.Error(before, v, got, ok)
			}
		}
	}
}

func TestValuesThatDoNotFit(t *testing.T) {
	for _, b := range []impl.Bits{{}, bitsOf("101"), bitsOf(strings.Repeat("1", 64))} {
		for n := int64(0); n < 64; n++ {
			values := []int64{-1, minInt, -maxInt}
			if n < 63 {
				values = append(values, 1<<n, 1<<n+1, maxInt)
			}
			for _, v := range values {
				got, ok := impl.PutBits(b, v, n)
				wantNoBits(t, got, ok)
			}
		}
	}
}

func TestNumbersOfBitsOutOfRange(t *testing.T) {
	b := bitsOf(strings.Repeat("1", 300))
	for _, n := range []int64{-1, -64, 65, 66, 128, 256, maxInt, minInt} {
		for _, v := range []int64{0, 1, -1} {
			got, ok := impl.PutBits(b, v, n)
			wantNoBits(t, got, ok)
		}
		if got, ok := impl.GetBits(b, 0, n); ok || got != 0 {
			t.Error(n, got, ok)
		}
	}
}

func TestIndexesOutOfRange(t *testing.T) {
	b := bitsOf(strings.Repeat("1", 100))
	ranges := [][2]int64{{-1, 0}, {-1, 1}, {-1, 64}, {101, 0}, {100, 1}, {37, 64}, {maxInt, 1}, {maxInt, 64}, {maxInt, 0}, {minInt, 0}, {minInt, 64}}
	for _, r := range ranges {
		if got, ok := impl.GetBits(b, r[0], r[1]); ok || got != 0 {
			t.Error(r, got, ok)
		}
	}
	ranges = append(ranges, [][2]int64{{0, 101}, {1, 100}, {0, -1}, {50, -50}, {0, maxInt}, {maxInt, maxInt}, {1, maxInt}, {0, minInt}, {maxInt, minInt}, {minInt, minInt}, {minInt, maxInt}}...)
	for _, r := range ranges {
		got, ok := impl.Part(b, r[0], r[1])
		wantNoBits(t, got, ok)
	}
}

func TestNoBitsAtTheEnds(t *testing.T) {
	for _, digits := range []string{"", "1", "10101", strings.Repeat("1", 64), strings.Repeat("10", maxBits/2)} {
		b := bitsOf(digits)
		got, ok := impl.PutBits(b, 0, 0)
		wantBits(t, got, ok, digits)
		for _, at := range []int64{0, b.N} {
			if v, ok := impl.GetBits(b, at, 0); !ok || v != 0 {
				t.Error(b.N, at, v, ok)
			}
			got, ok = impl.Part(b, at, 0)
			wantBits(t, got, ok, "")
		}
		got, ok = impl.Joined(b, impl.Bits{})
		wantBits(t, got, ok, digits)
		got, ok = impl.Joined(impl.Bits{}, b)
		wantBits(t, got, ok, digits)
	}
}

func TestPutBitsUpToMaxBits(t *testing.T) {
	digits := randomDigits(numbers(), maxBits)
	for n := int64(1); n <= 64; n++ {
		before := digits[:maxBits-n]
		last := digits[maxBits-n:]
		got, ok := impl.PutBits(bitsOf(before), numberOf(last), n)
		wantBits(t, got, ok, digits)
		if v, ok := impl.GetBits(got, maxBits-n, n); !ok || v != numberOf(last) {
			t.Error(n, v, ok)
		}
		got, ok = impl.PutBits(bitsOf(before+"0"), 0, n)
		wantNoBits(t, got, ok)
	}
}

func TestJoinedBitsCanBeDivided(t *testing.T) {
	r := numbers()
	sizes := []int{0, 1, 2, 7, 8, 9, 31, 63, 64, 65, 100, 127, 128, 129, 200, 1000, 9999}
	for _, m := range sizes {
		for _, n := range sizes {
			a, b := randomDigits(r, m), randomDigits(r, n)
			whole, ok := impl.Joined(bitsOf(a), bitsOf(b))
			wantBits(t, whole, ok, a+b)
			head, ok := impl.Part(whole, 0, int64(m))
			wantBits(t, head, ok, a)
			tail, ok := impl.Part(whole, int64(m), int64(n))
			wantBits(t, tail, ok, b)
		}
	}
}

func TestJoinedUpToMaxBits(t *testing.T) {
	digits := randomDigits(numbers(), maxBits)
	for _, m := range []int{0, 1, 63, 64, 65, 10000, maxBits - 1, maxBits} {
		head, tail := bitsOf(digits[:m]), bitsOf(digits[m:])
		whole, ok := impl.Joined(head, tail)
		wantBits(t, whole, ok, digits)
		if m < maxBits {
			got, ok := impl.Joined(bitsOf(digits[:m+1]), tail)
			wantNoBits(t, got, ok)
		} else {
			got, ok := impl.Joined(head, bitsOf("0"))
			wantNoBits(t, got, ok)
		}
	}
}

func TestPartAtEveryIndex(t *testing.T) {
	digits := randomDigits(numbers(), 200)
	b := bitsOf(digits)
	for from := range 201 {
		for n := range 201 - from {
			got, ok := impl.Part(b, int64(from), int64(n))
			wantBits(t, got, ok, digits[from:from+n])
		}
	}
}

func TestPartOfMaxBits(t *testing.T) {
	digits := randomDigits(numbers(), maxBits)
	b := bitsOf(digits)
	for _, r := range [][2]int{{0, maxBits}, {1, maxBits - 1}, {0, maxBits - 1}, {77, 19000}, {19999, 1}, {19936, 64}, {20000, 0}} {
		got, ok := impl.Part(b, int64(r[0]), int64(r[1]))
		wantBits(t, got, ok, digits[r[0]:r[0]+r[1]])
	}
}

func TestBitsExamples(t *testing.T) {
	got, ok := impl.PutBits(impl.Bits{}, 5, 3)
	if !ok || got != (impl.Bits{Data: "\xa0", N: 3}) {
		t.Error(got, ok)
	}
	got, ok = impl.Joined(impl.Bits{Data: "\xa0", N: 3}, impl.Bits{Data: "\xff", N: 8})
	if !ok || got != (impl.Bits{Data: "\xbf\xe0", N: 11}) {
		t.Error(got, ok)
	}
}
