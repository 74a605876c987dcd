package tests

import (
	"math/rand/v2"
	"slices"
	"strings"
	"testing"

	"loop.example/g00617/impl"
)

// numbers is a source with a fixed seed, so that a failure can be repeated.
func numbers() *rand.Rand {
	return rand.New(rand.NewPCG(1, 2))
}

// edgeNumbers returns 0, the extremes, and the numbers around each power of 2
// and around its negation.
func edgeNumbers() []int64 {
	out := []int64{0}
	for i := range 64 {
		p := int64(1) << i
		out = append(out, p-1, p, p+1, -p-1, -p, -p+1)
	}
	return out
}

// bitsOf is the model of bit strings: it builds one from the digits 0 and 1.
func bitsOf(digits string) impl.Bits {
	data := make([]byte, (len(digits)+7)/8)
	for i, c := range digits {
		if c == '1' {
			data[i/8] |= 128 >> (i % 8)
		}
	}
	return impl.Bits{Data: string(data), N: int64(len(digits))}
}

// digitsOf returns the lower n binary digits of v.
func digitsOf(v int64, n int64) string {
	out := make([]byte, n)
	for i := range out {
		out[i] = '0' + byte(uint64(v)>>(n-1-int64(i))&1)
	}
	return string(out)
}

// numberOf is the inverse of digitsOf.
func numberOf(digits string) int64 {
	var v uint64
	for _, c := range digits {
		v = 2*v + uint64(c-'0')
	}
	return int64(v)
}

func randomDigits(r *rand.Rand, n int) string {
	var out strings.Builder
	for range n {
		out.WriteByte('0' + byte(r.IntN(2)))
	}
	return out.String()
}

// wantBits reports a result of PutBits, Joined or Part that is not the bit
// string with these digits.
func wantBits(t *testing.T, got impl.Bits, ok bool, digits string) {
	t.Helper()
	if !ok || got != bitsOf(digits) {
		t.Fatalf("got %q, %d bits, %v; want %q, %d bits, true", got.Data, got.N, ok, bitsOf(digits).Data, len(digits))
	}
}

// wantNoBits reports a result of PutBits, Joined or Part that is not a
// rejection.
func wantNoBits(t *testing.T, got impl.Bits, ok bool) {
	t.Helper()
	if ok || got != (impl.Bits{}) {
		t.Errorf("got %q, %d bits, %v; want no bits, false", got.Data, got.N, ok)
	}
}

// invert returns the digits with the digit i exchanged.
func invert(digits string, i int) string {
	out := []byte(digits)
	out[i] ^= '0' ^ '1'
	return string(out)
}

// withSpare returns a copy of l with spare elements behind its end, and a
// function that tells whether neither l nor these elements have changed.
func withSpare[T comparable](l []T, spare ...T) ([]T, func() bool) {
	all := append(slices.Clone(l), spare...)
	before := slices.Clone(all)
	return all[:len(l)], func() bool { return slices.Equal(all, before) }
}

// overwrite changes l and the spare elements behind its end, so that a list
// that shares memory with it is seen to change.
func overwrite[T any](l []T, with T) {
	l = l[:cap(l)]
	for i := range l {
		l[i] = with
	}
}
