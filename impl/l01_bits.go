package impl

const MaxBits = 20000

type Bits struct {
	Data string
	N    int64
}

const wordBits = 64

// A bitArray holds n bits, the first one in the most significant bit of
// words[0]. All bits behind the last one are zero, so that put only has to set
// bits. There is always a word at the index n / wordBits, also if all MaxBits
// bits are in use.
type bitArray struct {
	words [MaxBits/wordBits + 1]uint64
	n     int64
}

func BitsOk(b Bits) bool {
	if b.N < 0 || b.N > MaxBits || int64(len(b.Data)) != bytesFor(b.N) {
		return false
	}
	used := b.N % 8
	return used == 0 || b.Data[len(b.Data)-1]<<used == 0
}

func PutBits(b Bits, v int64, n int64) (Bits, bool) {
	if !BitsOk(b) || !fitsIn(v, n) || b.N+n > MaxBits {
		return Bits{}, false
	}
	a := unpacked(b)
	a.put(uint64(v), n)
	return a.packed(), true
}

func GetBits(b Bits, at int64, n int64) (int64, bool) {
	if n > wordBits || !hasBits(b, at, n) {
		return 0, false
	}
	a := unpacked(b)
	return int64(a.get(at, n)), true
}

func Joined(a Bits, b Bits) (Bits, bool) {
	if !BitsOk(a) || !BitsOk(b) || a.N+b.N > MaxBits {
		return Bits{}, false
	}
	head, tail := unpacked(a), unpacked(b)
	head.putPart(&tail, 0, tail.n)
	return head.packed(), true
}

func Part(b Bits, from int64, n int64) (Bits, bool) {
	if !hasBits(b, from, n) {
		return Bits{}, false
	}
	whole, part := unpacked(b), bitArray{}
	part.putPart(&whole, from, n)
	return part.packed(), true
}

func bytesFor(n int64) int64 {
	return (n + 7) / 8
}

func fitsIn(v int64, n int64) bool {
	if n == wordBits {
		return true
	}
	return n >= 0 && n < wordBits && v >= 0 && v>>n == 0
}

// hasBits compares `at` with b.N - n, because at + n may overflow.
func hasBits(b Bits, at int64, n int64) bool {
	return BitsOk(b) && n >= 0 && at >= 0 && at <= b.N-n
}

func unpacked(b Bits) bitArray {
	a := bitArray{n: b.N}
	for i := range len(b.Data) {
		a.words[i/8] |= uint64(b.Data[i]) << byteShift(i)
	}
	return a
}

func (a *bitArray) packed() Bits {
	data := make([]byte, bytesFor(a.n))
	for i := range data {
		data[i] = byte(a.words[i/8] >> byteShift(i))
	}
	return Bits{Data: string(data), N: a.n}
}

// byteShift returns the distance of the byte i from the end of its word.
func byteShift(i int) int {
	return wordBits - 8 - i%8*8
}

// put appends the lower n bits of v, n in 0..64. A shift by 64 yields 0, so
// that no bits are set if n is 0.
func (a *bitArray) put(v uint64, n int64) {
	v <<= wordBits - n
	word, used := a.n/wordBits, a.n%wordBits
	a.words[word] |= v >> used
	if used+n > wordBits {
		a.words[word+1] |= v << (wordBits - used)
	}
	a.n += n
}

// get returns the n bits from the index `at` on, n in 0..64.
func (a *bitArray) get(at int64, n int64) uint64 {
	word, before := at/wordBits, at%wordBits
	v := a.words[word] << before
	if before+n > wordBits {
		v |= a.words[word+1] >> (wordBits - before)
	}
	return v >> (wordBits - n)
}

func (a *bitArray) putPart(b *bitArray, from int64, n int64) {
	for n > 0 {
		step := min(n, wordBits)
		a.put(b.get(from, step), step)
		from += step
		n -= step
	}
}

// A bitReader takes one number after the other from the bits, from the index
// `at` on. It panics where the bits are no encoding of what is read, so that
// its callers need no checks; readFrom turns that into false.
type bitReader struct {
	bits bitArray
	at   int64
}

func (r *bitReader) take(n int64) uint64 {
	if n > r.bits.n-r.at {
		r.fail()
	}
	v := r.bits.get(r.at, n)
	r.at += n
	return v
}

func (r *bitReader) fail() {
	panic("the bits are no encoding")
}

// readFrom returns what read reads from the index `at` on, and the index
// behind it. If read panics, the results still have their zero values.
func readFrom[T any](b Bits, at int64, read func(r *bitReader) T) (value T, end int64, ok bool) {
	if !hasBits(b, at, 0) {
		return value, 0, false
	}
	defer func() {
		if recover() != nil {
			ok = false
		}
	}()
	r := bitReader{bits: unpacked(b), at: at}
	value = read(&r)
	return value, r.at, true
}
