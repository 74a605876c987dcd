package tests

import (
	"math/rand/v2"
	"reflect"
	"slices"
	"strings"
	"testing"
	"unsafe"

	"loop.example/g00617/impl"
)

// Promise 17: points are recovered from their chunks of any size; a dropped
// chunk ends before the given time.

// parts are valid points in consecutive parts, none of them empty.
type parts [][]impl.Point

func (x parts) points() []impl.Point {
	return slices.Concat(x...)
}

func (x parts) blocks() []impl.Block {
	var out []impl.Block
	for _, l := range x {
		out = append(out, blockOf(l))
	}
	return out
}

// partsOf is the model of Chunks.
func partsOf(l []impl.Point, size int) parts {
	var out parts
	for from := 0; from < len(l); from += size {
		out = append(out, l[from:min(from+size, len(l))])
	}
	return out
}

// randomParts returns parts of different sizes.
func randomParts(r *rand.Rand, l []impl.Point, size int) parts {
	var out parts
	for len(l) > 0 {
		n := 1 + r.IntN(min(len(l), size))
		out = append(out, l[:n])
		l = l[n:]
	}
	return out
}

func partLists() []parts {
	r := numbers()
	out := []parts{nil, {{{}}}, {{{T: 0, V: 1}}, {{T: maxTime, V: 2}}}, partsOf(farPoints(maxPoints), 1)}
	for _, l := range pointLists() {
		out = append(out, partsOf(l, 1+r.IntN(maxPoints)), randomParts(r, l, 50))
	}
	return out
}

// first and last return the times of the first and of the last point of the
// part i.
func (x parts) first(i int) int64 {
	return x[i][0].T
}

func (x parts) last(i int) int64 {
	return x[i][len(x[i])-1].T
}

// partAt is the model of ChunkAt.
func (x parts) partAt(at int64) int64 {
	for i := range x {
		if x.first(i) <= at && at <= x.last(i) {
			return int64(i)
		}
	}
	return -1
}

// edgeTimes returns the first and the last times of some parts, those before
// and behind them, those in the middle between them, and others.
func (x parts) edgeTimes() []int64 {
	out := []int64{0, -1, maxTime, maxTime + 1, minInt, maxInt}
	for i := range x {
		if i%(1+len(x)/8) != 0 && i != len(x)-1 {
			continue
		}
		first, last := x.first(i), x.last(i)
		out = append(out, first-1, first, first+1, last-1, last, last+1, first+(last-first)/2)
		if i > 0 {
			out = append(out, x.last(i-1)+(first-x.last(i-1))/2)
		}
	}
	slices.Sort(out)
	return slices.Compact(out)
}

func sizes() []int64 {
	return []int64{1, 2, 3, 4, 5, 7, 10, 40, 59, 60, 61, maxPoints - 1, maxPoints}
}

func invalidSizes() []int64 {
	return []int64{0, -1, -2, -maxPoints, maxPoints + 1, maxPoints + 2, 1 << 32, 1<<32 + 1, maxInt, minInt}
}

// invalidBlocks returns blocks without points, and blocks that BlockOf does not
// return.
func invalidBlocks() []impl.Block {
	b := blockOf([]impl.Point{{T: 5, V: 1}, {T: 15, V: 1}})
	return []impl.Block{
		{},
		blockOf(nil),
		{N: 0, Data: b.Data},
		{N: 1, Data: b.Data},
		{N: b.N + 4, Data: b.Data},
		{N: b.N},
		{N: -1, Data: b.Data},
		{N: -b.N, Data: b.Data},
		{N: maxPoints + 1, Data: b.Data},
		{N: maxInt, Data: b.Data},
		{N: minInt, Data: b.Data},
		{N: b.N, Data: b.Data + "\x00"},
		{N: b.N, Data: b.Data[1:]},
		{N: b.N, Data: b.Data[:len(b.Data)-1]},
		{N: b.N, Data: b.Data[:len(b.Data)-1] + "\x01"},
		blockOf([]impl.Point{{T: 5, V: 1}, {T: 5, V: 2}}),
		blockOf([]impl.Point{{T: 5, V: 1}, {T: 3, V: 2}}),
		blockOf([]impl.Point{{T: maxTime + 1, V: 1}}),
	}
}

func wantBlocks(t *testing.T, got []impl.Block, ok bool, want []impl.Block) {
	t.Helper()
	if !ok || !slices.Equal(got, want) {
		t.Fatalf("got %v, %v; want %v, true", got, ok, want)
	}
}

func wantNoBlocks(t *testing.T, got []impl.Block, ok bool) {
	t.Helper()
	if ok || len(got) != 0 {
		t.Errorf("got %v, %v; want no blocks, false", got, ok)
	}
}

func wantUnchunked(t *testing.T, l []impl.Block, want []impl.Point) {
	t.Helper()
	if got, ok := impl.Unchunked(l); !ok || !slices.Equal(got, want) {
		t.Fatalf("%v: got %v, %v; want %v, true", l, got, ok, want)
	}
}

// wantNotUnchunked reports a list of blocks that one of the functions accepts.
func wantNotUnchunked(t *testing.T, l []impl.Block) {
	t.Helper()
	if got, ok := impl.Unchunked(l); ok || len(got) != 0 {
		t.Errorf("%v: got %v, %v; want no points, false", l, got, ok)
	}
	for _, at := range []int64{0, 5, 15, 40, -1, maxTime, minInt, maxInt} {
		wantChunkAt(t, l, at, -1)
		wantKept(t, l, at)
	}
	for _, size := range []int64{1, 2, maxPoints, 0, maxPoints + 1} {
		got, ok := impl.Rechunked(l, size)
		wantNoBlocks(t, got, ok)
	}
}

func wantChunkAt(t *testing.T, l []impl.Block, at, want int64) {
	t.Helper()
	if got := impl.ChunkAt(l, at); got != want {
		t.Fatalf("%v at %d: got %d, want %d", l, at, got, want)
	}
}

func wantKept(t *testing.T, l []impl.Block, at int64, want ...impl.Block) {
	t.Helper()
	if got := impl.DropChunks(l, at); !slices.Equal(got, want) {
		t.Fatalf("%v from %d: got %v, want %v", l, at, got, want)
	}
}

func TestPointsAreRecoveredFromTheirChunks(t *testing.T) {
	for _, l := range append(pointLists(), nil) {
		for _, size := range append(sizes(), int64(max(len(l), 1))) {
			blocks, ok := impl.Chunks(l, size)
			wantBlocks(t, blocks, ok, partsOf(l, int(size)).blocks())
			wantUnchunked(t, blocks, l)
		}
	}
}

func TestEachSizeOfChunks(t *testing.T) {
	for _, n := range []int{0, 1, 2, 60, 119, maxPoints} {
		l := farPoints(n)
		for size := int64(1); size <= maxPoints; size++ {
			blocks, ok := impl.Chunks(l, size)
			wantBlocks(t, blocks, ok, partsOf(l, int(size)).blocks())
			again, ok := impl.Rechunked(partsOf(l, 7).blocks(), size)
			wantBlocks(t, again, ok, blocks)
		}
	}
}

func TestInvalidSizesOfChunks(t *testing.T) {
	for _, l := range [][]impl.Point{nil, {{}}, {{T: 5, V: 1}, {T: 15, V: 1}}, farPoints(maxPoints)} {
		for _, size := range invalidSizes() {
			got, ok := impl.Chunks(l, size)
			wantNoBlocks(t, got, ok)
			got, ok = impl.Rechunked(partsOf(l, 1).blocks(), size)
			wantNoBlocks(t, got, ok)
		}
	}
}

func TestChunksOfInvalidPoints(t *testing.T) {
	for _, l := range append(invalidPoints(), farPoints(maxPoints+1)) {
		for _, size := range append(sizes(), invalidSizes()...) {
			got, ok := impl.Chunks(l, size)
			wantNoBlocks(t, got, ok)
		}
	}
}

func TestPointsOfAllBlocks(t *testing.T) {
	for _, x := range partLists() {
		wantUnchunked(t, x.blocks(), x.points())
		for _, size := range sizes() {
			got, ok := impl.Rechunked(x.blocks(), size)
			wantBlocks(t, got, ok, partsOf(x.points(), int(size)).blocks())
		}
	}
}

func TestNumbersOfBlocks(t *testing.T) {
	for n := range maxPoints + 1 {
		wantUnchunked(t, partsOf(farPoints(n), 1).blocks(), farPoints(n))
	}
	for _, n := range []int{maxPoints + 1, maxPoints + 2, 2 * maxPoints} {
		wantNotUnchunked(t, partsOf(farPoints(n), 1).blocks())
	}
	wantNotUnchunked(t, make([]impl.Block, maxPoints+1))
	wantNotUnchunked(t, make([]impl.Block, 100000))
	wantNotUnchunked(t, append(partsOf(farPoints(maxPoints), 1).blocks(), impl.Block{}))
}

func TestInvalidBlocks(t *testing.T) {
	before, behind := blockOf([]impl.Point{{T: 1, V: 1}}), blockOf([]impl.Point{{T: 70, V: 1}, {T: 80, V: 1}})
	wantUnchunked(t, []impl.Block{before, behind}, []impl.Point{{T: 1, V: 1}, {T: 70, V: 1}, {T: 80, V: 1}})
	for _, b := range invalidBlocks() {
		wantNotUnchunked(t, []impl.Block{b})
		wantNotUnchunked(t, []impl.Block{b, behind})
		wantNotUnchunked(t, []impl.Block{before, b})
		wantNotUnchunked(t, []impl.Block{before, b, behind})
	}
}

// TestBlocksThatDoNotFit has blocks that are valid, each of them alone.
func TestBlocksThatDoNotFit(t *testing.T) {
	block := func(times ...int64) impl.Block {
		return blockOf(pointsOf(times, make([]int64, len(times))))
	}
	for _, l := range [][]impl.Block{
		{block(5), block(5)},
		{block(5), block(4)},
		{block(maxTime), block(0)},
		{block(5, 15), block(5, 15)},
		{block(5, 15), block(15, 20)},
		{block(5, 15), block(14, 20)},
		{block(5, 15), block(10)},
		{block(5, 15), block(0)},
		{block(5, 15), block(0, 5)},
		{block(5, 15), block(0, 20)},
		{block(0), block(10), block(10)},
		{block(0), block(10), block(9)},
		{block(10), block(0), block(20)},
		{block(0), block(20), block(10)},
		{blockOf(farPoints(maxPoints)), block(maxTime)},
		{block(0), blockOf(farPoints(maxPoints))},
		{blockOf(farPoints(121)[:60]), blockOf(farPoints(121)[60:])},
		{blockOf(farPoints(122)[:60]), blockOf(farPoints(122)[60:121]), blockOf(farPoints(122)[121:])},
		{blockOf(farPoints(240)[:maxPoints]), blockOf(farPoints(240)[maxPoints:])},
	} {
		for _, b := range l {
			if _, ok := impl.PointsOf(b); !ok {
				t.Error("not valid alone:", b)
			}
		}
		wantNotUnchunked(t, l)
	}
	wantUnchunked(t, []impl.Block{block(5, 15), block(16, 20)}, pointsOf([]int64{5, 15, 16, 20}, make([]int64, 4)))
	wantUnchunked(t, []impl.Block{blockOf(farPoints(120)[:60]), blockOf(farPoints(120)[60:])}, farPoints(maxPoints))
}

func TestChunksAtTimes(t *testing.T) {
	seen := map[bool]int{}
	for _, x := range partLists() {
		blocks := x.blocks()
		for _, at := range x.edgeTimes() {
			want := x.partAt(at)
			wantChunkAt(t, blocks, at, want)
			seen[want < 0]++
		}
	}
	if seen[true] < 1000 || seen[false] < 1000 {
		t.Error("few cases of one kind:", seen)
	}
}

// TestDroppedChunksEndBeforeTheTime also has that no other chunk is dropped: as
// the times increase, the others follow those that end before the time.
func TestDroppedChunksEndBeforeTheTime(t *testing.T) {
	for _, x := range partLists() {
		blocks := x.blocks()
		for _, at := range x.edgeTimes() {
			kept := impl.DropChunks(blocks, at)
			dropped := len(blocks) - len(kept)
			wantKept(t, blocks, at, blocks[max(dropped, 0):]...)
			if dropped > 0 && x.last(dropped-1) >= at || dropped < len(x) && x.last(dropped) < at {
				t.Fatalf("%v from %d: dropped %d", x, at, dropped)
			}
		}
	}
}

func TestChunkExamples(t *testing.T) {
	l := []impl.Point{{T: 0, V: 1}, {T: 10, V: 2}, {T: 20, V: 3}, {T: 30, V: 4}, {T: 40, V: 5}}
	blocks, ok := impl.Chunks(l, 2)
	wantBlocks(t, blocks, ok, []impl.Block{blockOf(l[:2]), blockOf(l[2:4]), blockOf(l[4:])})
	for _, x := range []struct{ at, chunk, kept int64 }{
		{minInt, -1, 3}, {-1, -1, 3}, {0, 0, 3}, {5, 0, 3}, {10, 0, 3}, {11, -1, 2}, {19, -1, 2}, {20, 1, 2}, {25, 1, 2},
		{30, 1, 2}, {31, -1, 1}, {39, -1, 1}, {40, 2, 1}, {41, -1, 0}, {maxTime, -1, 0}, {maxInt, -1, 0},
	} {
		wantChunkAt(t, blocks, x.at, x.chunk)
		wantKept(t, blocks, x.at, blocks[3-x.kept:]...)
	}
	again, ok := impl.Rechunked(blocks, 4)
	wantBlocks(t, again, ok, []impl.Block{blockOf(l[:4]), blockOf(l[4:])})
}

func TestNoBlocks(t *testing.T) {
	for _, l := range [][]impl.Block{nil, {}} {
		wantUnchunked(t, l, nil)
		for _, at := range []int64{0, 5, maxTime, -1, minInt, maxInt} {
			wantChunkAt(t, l, at, -1)
			wantKept(t, l, at)
		}
		for _, size := range sizes() {
			got, ok := impl.Rechunked(l, size)
			wantBlocks(t, got, ok, nil)
		}
	}
}

// wantOwnBits reports two blocks of a result that share memory.
func wantOwnBits(t *testing.T, l []impl.Block) {
	t.Helper()
	for i, a := range l {
		for _, b := range l[:i] {
			if regionsOf(reflect.ValueOf(a))[0].meets(regionsOf(reflect.ValueOf(b))[0]) {
				t.Fatalf("two blocks of %v share memory", l)
			}
		}
	}
}

// spaciousBlocks returns blocks like these: the list has spare elements, and
// the bits are in memory that can be modified.
func spaciousBlocks(l []impl.Block) []impl.Block {
	junk := impl.Block{N: 1, Data: strings.Repeat("\x00", 13)}
	out, _ := withSpare(l, junk, impl.Block{N: 77, Data: "junk"})
	for i, b := range out[:cap(out)] {
		data := []byte(b.Data)
		out[:cap(out)][i].Data = unsafe.String(unsafe.SliceData(data), len(data))
	}
	return out
}

func TestOverlappingBits(t *testing.T) {
	second := impl.Point{T: 100, V: 9}
	later := blockOf([]impl.Point{second})
	first := impl.Point{T: 7, V: numberOf(digitsOf(100, 40) + strings.Repeat("0", 24))}
	all := blockOf([]impl.Point{first}).Data[:5] + later.Data
	l := []impl.Block{{N: 1, Data: all[:13]}, {N: 1, Data: all[5:]}}
	wantUnchunked(t, l, []impl.Point{first, second})
	for _, at := range []int64{0, 7, 8} {
		kept := impl.DropChunks(l, at)
		wantOwnBits(t, kept)
		wantOwnMemory(t, kept, l)
	}
	again, _ := impl.Rechunked(l, 1)
	wantOwnBits(t, again)
	wantOwnMemory(t, again, l)
}

func TestChunkingModifiesNothing(t *testing.T) {
	for _, points := range append(pointLists()[:60], invalidPoints()...) {
		l, _ := withSpare(points, impl.Point{T: 77, V: 77}, impl.Point{T: 1, V: 9}, impl.Point{T: 78, V: 77})
		unchanged := wantUnchanged(t, l)
		for _, size := range append(sizes(), 0, maxPoints+1) {
			one, ok := impl.Chunks(l, size)
			two, okAgain := impl.Chunks(l, size)
			if !slices.Equal(one, two) || ok != okAgain {
				t.Error("other results for equal arguments", l, size)
			}
			wantOwnBits(t, one)
			wantOwnMemory(t, one, l, two)
			overwrite(one, impl.Block{N: 77})
		}
		unchanged()
	}
}

func TestBlocksAreNotModified(t *testing.T) {
	lists := [][]impl.Block{{blockOf(farPoints(2)), blockOf(farPoints(1))}}
	for _, x := range partLists()[:60] {
		lists = append(lists, x.blocks())
	}
	for _, b := range invalidBlocks() {
		lists = append(lists, []impl.Block{b}, []impl.Block{blockOf(farPoints(1)), b})
	}
	for _, blocks := range lists {
		l := spaciousBlocks(blocks)
		unchanged := wantUnchanged(t, l)
		one, ok := impl.Unchunked(l)
		two, okAgain := impl.Unchunked(l)
		if !slices.Equal(one, two) || ok != okAgain || impl.ChunkAt(l, 5) != impl.ChunkAt(l, 5) {
			t.Error("other results for equal arguments", l)
		}
		wantOwnMemory(t, one, l, two)
		overwrite(one, impl.Point{T: 77, V: 77})
		for _, at := range []int64{-1, 0, 5, 500, maxTime} {
			one, two := impl.DropChunks(l, at), impl.DropChunks(l, at)
			wantSameBlocks(t, one, two, l)
		}
		for _, size := range []int64{1, 2, maxPoints, 0} {
			one, _ := impl.Rechunked(l, size)
			two, _ := impl.Rechunked(l, size)
			wantSameBlocks(t, one, two, l)
		}
		unchanged()
	}
}

// wantSameBlocks reports results of two equal calls that differ, or that share
// memory with each other or with the argument, and overwrites the first one.
func wantSameBlocks(t *testing.T, one, two, argument []impl.Block) {
	t.Helper()
	if !slices.Equal(one, two) {
		t.Error("other results for equal arguments", argument)
	}
	wantOwnBits(t, one)
	wantOwnMemory(t, one, argument, two)
	overwrite(one, impl.Block{N: 77})
}
