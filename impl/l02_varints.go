package impl

import (
	"iter"
	"strings"
)

const (
	maxVarBytes = 10
	maxVars     = 200
)

func Zig(n int64) int64 {
	return n<<1 ^ n>>63
}

func Zag(n int64) int64 {
	return int64(uint64(n)>>1) ^ -(n & 1)
}

func VarOf(n int64) string {
	return string(appendVar(nil, n))
}

func ReadVar(s string) (int64, int64, bool) {
	var n uint64
	for i := range min(len(s), maxVarBytes) {
		n |= uint64(s[i]&127) << (7 * i)
		if s[i] < 128 {
			return checkedVar(s, int64(n))
		}
	}
	return 0, 0, false
}

func VarsOf(l []int64) string {
	if len(l) > maxVars {
		return ""
	}
	out := appendVar(nil, int64(len(l)))
	for _, n := range l {
		out = appendVar(out, Zig(n))
	}
	return string(out)
}

func ReadVars(s string) ([]int64, bool) {
	count, at, ok := ReadVar(s)
	if !ok || count < 0 || count > maxVars {
		return nil, false
	}
	var list []int64
	for range count {
		n, size, ok := ReadVar(s[at:])
		if !ok {
			return nil, false
		}
		list = append(list, Zag(n))
		at += size
	}
	if at != int64(len(s)) {
		return nil, false
	}
	return list, true
}

// varBytes yields the bytes of the encoding of n, the first one first.
func varBytes(n int64) iter.Seq[byte] {
	return func(yield func(byte) bool) {
		rest := uint64(n)
		for rest >= 128 {
			if !yield(byte(rest) | 128) {
				return
			}
			rest >>= 7
		}
		yield(byte(rest))
	}
}

func appendVar(out []byte, n int64) []byte {
	for c := range varBytes(n) {
		out = append(out, c)
	}
	return out
}

// checkedVar encodes n again: n was read without regard to superfluous bytes
// and to bits beyond the 64th, and in both cases the encoding is another one.
func checkedVar(s string, n int64) (int64, int64, bool) {
	code := VarOf(n)
	if !strings.HasPrefix(s, code) {
		return 0, 0, false
	}
	return n, int64(len(code)), true
}
