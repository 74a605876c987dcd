package tests

import (
	"encoding/binary"
	"hash/crc32"
	"slices"
	"strings"
	"testing"

	"loop.example/g00617/impl"
)

// Promise 5: points are recovered from their block, and a block from its text;
// a text with one modified bit is not accepted.

// pointsOf returns points with these times and values.
func pointsOf(times, values []int64) []impl.Point {
	var l []impl.Point
	for i, at := range times {
		l = append(l, impl.Point{T: at, V: values[i]})
	}
	return l
}

// pointsDigits is the model of the bits of a block.
func pointsDigits(l []impl.Point) string {
	var times, values []int64
	for _, p := range l {
		times, values = append(times, p.T), append(values, p.V)
	}
	return timesDigits(times) + valuesDigits(values)
}

// blockWith returns a block of n points with these bits, and zeros behind them.
func blockWith(n int64, digits string) impl.Block {
	return impl.Block{N: n, Data: bitsOf(digits).Data}
}

// blockOf is the model of BlockOf, also for points that are not valid.
func blockOf(l []impl.Point) impl.Block {
	return blockWith(int64(len(l)), pointsDigits(l))
}

// partsText returns the parts of a text of a block, and their checksum.
func partsText(parts ...string) string {
	all := []byte(strings.Join(parts, ""))
	return string(binary.BigEndian.AppendUint32(all, crc32.ChecksumIEEE(all)))
}

func varText(n int64) string {
	return string(binary.AppendUvarint(nil, uint64(n)))
}

// blockText is the model of BlockText, also for blocks that are not valid.
func blockText(b impl.Block) string {
	return partsText(varText(b.N), varText(int64(len(b.Data))), b.Data)
}

// longestBlock returns MaxPoints points, each with a code of the greatest
// length for its step, and with a new window for its value.
func longestBlock() []impl.Point {
	times, values := []int64{7}, []int64{-9}
	steps, changes := []int64{5000, 1}, []int64{minInt | 2, 1<<62 | 1}
	for i := range maxPoints - 1 {
		times, values = append(times, times[i]+steps[i%2]), append(values, values[i]^changes[i%2])
	}
	return pointsOf(times, values)
}

// pointLists returns valid points, with each possible number of them.
func pointLists() [][]impl.Point {
	r := numbers()
	out := [][]impl.Point{
		{{}},
		{{V: -1}},
		{{T: maxTime, V: minInt}},
		{{T: 0, V: maxInt}, {T: maxTime, V: minInt}},
		{{T: 5, V: 1}, {T: 15, V: 1}},
		longestBlock(),
	}
	for n := 1; n <= maxPoints; n++ {
		out = append(out, pointsOf(randomTimes(r, n, 4), make([]int64, n)))
		out = append(out, pointsOf(randomTimes(r, n, 32), randomValues(r, n)))
	}
	return out
}

// invalidPoints returns the invalid lists of times, with values.
func invalidPoints() [][]impl.Point {
	var out [][]impl.Point
	for _, times := range invalidTimes() {
		out = append(out, pointsOf(times, make([]int64, len(times))))
		out = append(out, pointsOf(times, randomValues(numbers(), len(times))))
	}
	return out
}

func wantPoints(t *testing.T, b impl.Block, want []impl.Point) {
	t.Helper()
	if got, ok := impl.PointsOf(b); !ok || !slices.Equal(got, want) {
		t.Fatalf("block of %d, %q: got %v, %v; want %v, true", b.N, b.Data, got, ok, want)
	}
}

// wantInvalidBlock reports a block that has points or a text, or is read from
// what would be its text.
func wantInvalidBlock(t *testing.T, b impl.Block) {
	t.Helper()
	if got, ok := impl.PointsOf(b); ok || len(got) != 0 {
		t.Errorf("block of %d, %q: got %v, %v; want no points, false", b.N, b.Data, got, ok)
	}
	if got := impl.BlockText(b); got != "" {
		t.Errorf("block of %d, %q: got the text %q", b.N, b.Data, got)
	}
	wantNoBlock(t, blockText(b))
}

func wantNoBlock(t *testing.T, s string) {
	t.Helper()
	if got, ok := impl.ReadBlock(s); ok || got != (impl.Block{}) {
		t.Errorf("ReadBlock(%q) = %v, %v", s, got, ok)
	}
}

func TestPointsOk(t *testing.T) {
	for _, l := range append(pointLists(), nil) {
		if !impl.PointsOk(l) {
			t.Error(l)
		}
	}
	for _, l := range invalidPoints() {
		if impl.PointsOk(l) {
			t.Error(l)
		}
	}
}

func TestBlocksOfPoints(t *testing.T) {
	for _, l := range pointLists() {
		if got, ok := impl.BlockOf(l); !ok || got != blockOf(l) {
			t.Errorf("%v: got %v, %v", l, got, ok)
		}
	}
	for _, l := range append(invalidPoints(), nil, []impl.Point{}) {
		if got, ok := impl.BlockOf(l); ok || got != (impl.Block{}) {
			t.Errorf("%v: got %v, %v", l, got, ok)
		}
	}
}

func TestPointsAreRecoveredFromTheirBlocks(t *testing.T) {
	for _, l := range pointLists() {
		wantPoints(t, blockOf(l), l)
	}
}

func TestBlocksOfInvalidPoints(t *testing.T) {
	wantInvalidBlock(t, blockOf(nil))
	for _, l := range invalidPoints() {
		// Other first times than these cannot be written in 40 bits.
		if l[0].T >= 0 && l[0].T < 1<<40 {
			wantInvalidBlock(t, blockOf(l))
		}
	}
}

func TestNumbersOfPointsOfABlock(t *testing.T) {
	for _, l := range [][]impl.Point{{{T: 5, V: 1}}, longestBlock()[:2], longestBlock()[:50], longestBlock()} {
		b := blockOf(l)
		for n := int64(-3); n <= maxPoints+3; n++ {
			if n != int64(len(l)) {
				wantInvalidBlock(t, impl.Block{N: n, Data: b.Data})
			}
		}
		for _, n := range []int64{-b.N, b.N + 256, b.N + 1<<32, maxInt, minInt} {
			wantInvalidBlock(t, impl.Block{N: n, Data: b.Data})
		}
	}
}

// TestDataOfSeveralNumbersOfPoints has bits that encode 2 to 5 points in equal
// steps with equal values: each further point has a 0 in front of the values,
// and a 0 behind them.
func TestDataOfSeveralNumbersOfPoints(t *testing.T) {
	data := blockOf([]impl.Point{{T: 5, V: 1}, {T: 15, V: 1}}).Data
	l := []impl.Point{{T: 5}}
	for n := int64(2); n <= 5; n++ {
		l = append(l, impl.Point{T: 10*n - 5})
		for i := range l {
			l[i].V = 1 << (n - 2)
		}
		wantPoints(t, impl.Block{N: n, Data: data}, l)
	}
	for _, n := range []int64{1, 6, 7, 8, 9} {
		wantInvalidBlock(t, impl.Block{N: n, Data: data})
	}
}

func TestZerosBehindTheLastBitOfABlock(t *testing.T) {
	seen := map[int]bool{}
	for _, l := range pointLists()[:60] {
		digits := pointsDigits(l)
		unused := len(blockOf(l).Data)*8 - len(digits)
		seen[unused] = true
		for i := range unused {
			changed := digits + invert(strings.Repeat("0", unused), i)
			wantInvalidBlock(t, blockWith(int64(len(l)), changed))
		}
		for _, more := range []string{"\x00", "\x00\x00", strings.Repeat("\x00", 8), "\x01", "\x80"} {
			wantInvalidBlock(t, impl.Block{N: int64(len(l)), Data: blockOf(l).Data + more})
		}
	}
	if len(seen) != 8 {
		t.Error("not every number of unused bits was tried:", seen)
	}
}

func TestLongDataOfBlocks(t *testing.T) {
	data := blockOf(longestBlock()).Data
	for _, n := range []int{2499, 2500, 2501, 2508, 2509, 9000, 100000} {
		b := impl.Block{N: maxPoints, Data: data + strings.Repeat("\x00", n-len(data))}
		wantInvalidBlock(t, b)
		wantInvalidBlock(t, impl.Block{N: 1, Data: b.Data})
	}
}

func TestDataThatIsCutOff(t *testing.T) {
	for _, l := range [][]impl.Point{{{T: 5, V: 1}}, {{T: 5, V: 1}, {T: 15, V: 1}}, longestBlock()[:9]} {
		b := blockOf(l)
		for i := range b.Data {
			wantInvalidBlock(t, impl.Block{N: b.N, Data: b.Data[:i]})
			wantInvalidBlock(t, impl.Block{N: b.N, Data: b.Data[i+1:]})
		}
	}
}

// TestDataThatBlockOfWouldNotMake has encodings from which points could be
// read, but of which BlockOf makes other bits or none.
func TestDataThatBlockOfWouldNotMake(t *testing.T) {
	at, v := digitsOf(5, 40), digitsOf(9, 64)
	step, window := codeDigits(10), newWindow(20, 3, 0b101)
	for i, c := range []struct{ times, values string }{
		{at + "110" + digitsOf(10+255, 9), v + window},        // a longer code than needed
		{at + "1111" + digitsOf(10+1<<41, 42), v + window},    // the longest one
		{at + codeDigits(0), v + window},                      // equal times
		{at + codeDigits(-5), v + window},                     // decreasing times
		{at + codeDigits(maxTime), v + window},                // a time that is too late
		{digitsOf(maxTime+1, 40) + codeDigits(1), v + window}, // also the first one
		{at + step, v + "10" + "101"},                         // no window yet
		{at + step, v + newWindow(20, 3, 0)},                  // a window for a repeated value
		{at + step, v + newWindow(19, 4, 0b0101)},             // a window that is too large
		{at + step, v + newWindow(20, 4, 0b1010)},
		{at + step, v + newWindow(31, 34, 1)}, // a window of more than 64 bits
	} {
		b := blockWith(2, c.times+c.values)
		if _, ok := impl.PointsOf(b); ok {
			t.Error("case", i)
		}
		wantInvalidBlock(t, b)
	}
	wantPoints(t, blockWith(2, at+step+v+window), []impl.Point{{T: 5, V: 9}, {T: 15, V: 9 ^ 0b101<<41}})
}

// TestDataWithChangedBits exchanges each bit: the points that are read, if any,
// are those of which the changed bits are the block.
func TestDataWithChangedBits(t *testing.T) {
	r := numbers()
	for range 20 {
		l := pointsOf(randomTimes(r, 12, 12), randomValues(r, 12))
		digits := pointsDigits(l)
		for i := range digits {
			b := blockWith(12, invert(digits, i))
			if got, ok := impl.PointsOf(b); !ok {
				wantInvalidBlock(t, b)
			} else if !impl.PointsOk(got) || blockOf(got) != b || slices.Equal(got, l) {
				t.Fatal(l, i, got)
			}
		}
	}
}

func TestSums(t *testing.T) {
	r := numbers()
	var all []byte
	for range 10000 {
		all = append(all, byte(r.Uint32()))
	}
	list := []string{string(all), string(all[1:]), strings.Repeat("\x00", 10000), strings.Repeat("\xff", 10000)}
	for i := range 256 {
		list = append(list, string([]byte{byte(i)}), string(all[:i]), strings.Repeat("\x00", i))
	}
	for _, s := range list {
		if got, want := impl.SumOf(s), int64(crc32.ChecksumIEEE([]byte(s))); got != want {
			t.Errorf("%d bytes: got %d, want %d", len(s), got, want)
		}
	}
}

func TestSumsOfTooManyBytes(t *testing.T) {
	for _, n := range []int{10001, 10002, 20000, 1000000} {
		if got := impl.SumOf(strings.Repeat("a", n)); got != -1 {
			t.Errorf("%d bytes: got %d", n, got)
		}
	}
}

func TestBlocksAreRecoveredFromTheirTexts(t *testing.T) {
	for _, l := range pointLists() {
		b := blockOf(l)
		s := blockText(b)
		if got := impl.BlockText(b); got != s {
			t.Fatalf("%v: got %q, want %q", l, got, s)
		}
		if got, ok := impl.ReadBlock(s); !ok || got != b {
			t.Fatalf("%v: got %v, %v", l, got, ok)
		}
	}
}

func TestTextsWithAModifiedBit(t *testing.T) {
	for _, l := range [][]impl.Point{{{}}, {{T: 5, V: 1}, {T: 15, V: 1}}, longestBlock()[:40]} {
		s := blockText(blockOf(l))
		for i := range 8 * len(s) {
			changed := []byte(s)
			changed[i/8] ^= 128 >> (i % 8)
			wantNoBlock(t, string(changed))
		}
	}
}

func TestTextsThatAreTooShortOrTooLong(t *testing.T) {
	for _, l := range [][]impl.Point{{{T: 5, V: 1}}, longestBlock()[:20]} {
		s := blockText(blockOf(l))
		for i := range s {
			wantNoBlock(t, s[:i])
			wantNoBlock(t, s[i+1:])
		}
		for _, more := range []string{"\x00", "a", s, strings.Repeat("\x00", 4)} {
			wantNoBlock(t, s+more)
			wantNoBlock(t, more+s)
		}
	}
}

// TestTextsWithOtherParts gives all texts the checksum of their other parts, so
// that they are wrong only in these.
func TestTextsWithOtherParts(t *testing.T) {
	b := blockOf([]impl.Point{{T: 5, V: 1}, {T: 15, V: 1}})
	n, size := varText(b.N), int64(len(b.Data))
	for _, length := range []int64{0, 1, size - 1, size + 1, size + 3, size + 4, size + 5, size + 128, size + 1<<32, maxInt, maxInt - 1, -1, -size, minInt, minInt + size} {
		wantNoBlock(t, partsText(n, varText(length), b.Data))
		wantNoBlock(t, partsText(n, varText(length), b.Data, "\x00"))
	}
	for _, other := range []string{"", "\x00", "\x01", "\x82\x00", "\x82\x80\x00", "\x82\x02", "\x02\x00", varText(-2), varText(maxInt), strings.Repeat("\x80", 10)} {
		wantNoBlock(t, partsText(other, varText(size), b.Data))
	}
	for _, other := range []string{"", "\x8f\x00", "\x8f\x80\x00", "\x0f\x00", strings.Repeat("\xff", 10), strings.Repeat("\x80", 10)} {
		wantNoBlock(t, partsText(n, other, b.Data))
	}
	for _, s := range []string{"", "\x00", "\x00\x00", "\x01\x00", "\x02\x00", "\x02", n + "\x80", b.Data} {
		wantNoBlock(t, s)
		wantNoBlock(t, partsText(s))
	}
}

func TestTextsWithOtherChecksums(t *testing.T) {
	b := blockOf([]impl.Point{{T: 5, V: 1}, {T: 15, V: 1}})
	head := varText(b.N) + varText(int64(len(b.Data)))
	sum := crc32.ChecksumIEEE([]byte(head + b.Data))
	if s := string(binary.BigEndian.AppendUint32([]byte(head+b.Data), sum)); s != impl.BlockText(b) {
		t.Fatalf("%q", s)
	}
	for _, other := range []uint32{0, 1, sum + 1, sum - 1, ^sum, 0xffffffff, crc32.ChecksumIEEE([]byte(b.Data)), crc32.Checksum([]byte(head+b.Data), crc32.MakeTable(crc32.Castagnoli))} {
		wantNoBlock(t, string(binary.BigEndian.AppendUint32([]byte(head+b.Data), other)))
	}
	wantNoBlock(t, string(binary.LittleEndian.AppendUint32([]byte(head+b.Data), sum)))
	wantNoBlock(t, head+b.Data)
	wantNoBlock(t, head+b.Data+"\x00\x00\x00\x00")
}

func TestLongTexts(t *testing.T) {
	b := blockOf(longestBlock())
	s := blockText(b)
	for _, n := range []int{4999, 5000, 5001, 10000, 1000000} {
		wantNoBlock(t, s+strings.Repeat("\x00", n-len(s)))
		wantNoBlock(t, blockText(impl.Block{N: b.N, Data: b.Data + strings.Repeat("\x00", n-7-len(b.Data))}))
	}
}

func TestPointsAreNotModified(t *testing.T) {
	spare := []impl.Point{{T: 70, V: 7}, {T: 80, V: 8}}
	for _, points := range [][]impl.Point{nil, {{T: 5, V: 1}, {T: 15, V: 2}}, {{T: 5, V: 1}, {T: 3, V: 2}}} {
		l, unchanged := withSpare(points, spare...)
		impl.PointsOk(l)
		first, _ := impl.BlockOf(l)
		if again, _ := impl.BlockOf(l); !unchanged() || first != again {
			t.Error(points)
		}
	}
	b := blockOf(spare)
	one, _ := impl.PointsOf(b)
	two, _ := impl.PointsOf(b)
	one[0].V = 77
	if !slices.Equal(two, spare) {
		t.Error("shared memory", two)
	}
}

func TestSumExample(t *testing.T) {
	if got := impl.SumOf("123456789"); got != 0xcbf43926 {
		t.Error(got)
	}
}
