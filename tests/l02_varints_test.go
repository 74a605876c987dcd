package tests

import (
	"encoding/binary"
	"slices"
	"strings"
	"testing"

	"loop.example/g00617/impl"
)

// Promise 2: a number is recovered from its zigzag encoding and from its
// bytes, whatever follows them.

func wantNoVar(t *testing.T, s string) {
	t.Helper()
	if n, size, ok := impl.ReadVar(s); ok || n != 0 || size != 0 {
		t.Errorf("ReadVar(%q) = %d, %d, %v", s, n, size, ok)
	}
}

func wantNoVars(t *testing.T, s string) {
	t.Helper()
	if l, ok := impl.ReadVars(s); ok || len(l) != 0 {
		t.Errorf("ReadVars(%q) = %v, %v", s, l, ok)
	}
}

func TestZigzagOrder(t *testing.T) {
	for n := int64(0); n < 1000; n++ {
		if got := impl.Zig(n); got != 2*n {
			t.Errorf("Zig(%d) = %d", n, got)
		}
		if got := impl.Zig(-n - 1); got != 2*n+1 {
			t.Errorf("Zig(%d) = %d", -n-1, got)
		}
	}
}

func TestZigzagExamples(t *testing.T) {
	for n, want := range map[int64]int64{-2: 3, maxInt: -2, minInt: -1, minInt + 1: -3, maxInt - 1: -4, 1 << 62: minInt, 1<<62 - 1: maxInt - 1, -1 << 62: maxInt} {
		if got := impl.Zig(n); got != want {
			t.Errorf("Zig(%d) = %d, want %d", n, got, want)
		}
		if got := impl.Zag(want); got != n {
			t.Errorf("Zag(%d) = %d, want %d", want, got, n)
		}
	}
}

func TestZigzagIsRecovered(t *testing.T) {
	r := numbers()
	list := edgeNumbers()
	for range 1000 {
		list = append(list, int64(r.Uint64()))
	}
	for _, n := range list {
		if got := impl.Zag(impl.Zig(n)); got != n {
			t.Errorf("Zag(Zig(%d)) = %d", n, got)
		}
		if got := impl.Zig(impl.Zag(n)); got != n {
			t.Errorf("Zig(Zag(%d)) = %d", n, got)
		}
	}
}

func TestVarIsRecovered(t *testing.T) {
	r := numbers()
	list := edgeNumbers()
	for range 1000 {
		list = append(list, int64(r.Uint64()>>r.IntN(64)))
	}
	for _, n := range list {
		code := impl.VarOf(n)
		if want := string(binary.AppendUvarint(nil, uint64(n))); code != want {
			t.Errorf("VarOf(%d) = %q, want %q", n, code, want)
		}
		for _, rest := range []string{"", "\x00", "\x01", "\x7f", "\x80", "\xff", "more", code, strings.Repeat("\xff", 20)} {
			if got, size, ok := impl.ReadVar(code + rest); !ok || got != n || size != int64(len(code)) {
				t.Errorf("ReadVar(%q) = %d, %d, %v, want %d", code+rest, got, size, ok, n)
			}
		}
		for end := range len(code) {
			wantNoVar(t, code[:end])
		}
	}
}

func TestVarExamples(t *testing.T) {
	for n, want := range map[int64]string{
		0:      "\x00",
		127:    "\x7f",
		128:    "\x80\x01",
		300:    "\xac\x02",
		16383:  "\xff\x7f",
		16384:  "\x80\x80\x01",
		maxInt: "\xff\xff\xff\xff\xff\xff\xff\xff\x7f",
		minInt: "\x80\x80\x80\x80\x80\x80\x80\x80\x80\x01",
		-1:     "\xff\xff\xff\xff\xff\xff\xff\xff\xff\x01",
	} {
		if got := impl.VarOf(n); got != want {
			t.Errorf("VarOf(%d) = %q", n, got)
		}
	}
}

func TestVarThatIsNotTheShortest(t *testing.T) {
	wantNoVar(t, "\x80\x00")
	for _, n := range edgeNumbers() {
		code := []byte(impl.VarOf(n))
		code[len(code)-1] |= 128
		for range 4 {
			wantNoVar(t, string(code)+"\x00")
			wantNoVar(t, string(code)+"\x00\x01")
			code = append(code, 128)
		}
	}
}

func TestVarBeyond64Bits(t *testing.T) {
	nine := strings.Repeat("\xff", 9)
	zeros := strings.Repeat("\x80", 9)
	for last := 2; last < 256; last++ {
		wantNoVar(t, nine+string([]byte{byte(last)}))
		wantNoVar(t, zeros+string([]byte{byte(last)})+"\x01")
	}
	wantNoVar(t, nine+"\x81\x00")
	wantNoVar(t, nine+"\xff\x01")
	wantNoVar(t, zeros+"\x80\x01")
	wantNoVar(t, strings.Repeat("\x80", 1000)+"\x01")
	wantNoVar(t, strings.Repeat("\xff", 1000))
	if n, size, ok := impl.ReadVar(nine + "\x01"); !ok || n != -1 || size != 10 {
		t.Error(n, size, ok)
	}
}

func TestVarThatIsNotThere(t *testing.T) {
	for _, s := range []string{"", "\x80", "\xff", "\xac", "\x80\x80", strings.Repeat("\x80", 9), strings.Repeat("\xff", 9)} {
		wantNoVar(t, s)
	}
}

func wantVars(t *testing.T, l []int64) {
	t.Helper()
	want := binary.AppendUvarint(nil, uint64(len(l)))
	for _, n := range l {
		want = binary.AppendVarint(want, n)
	}
	code := impl.VarsOf(l)
	if code != string(want) {
		t.Errorf("VarsOf(%v) = %q", l, code)
	}
	if got, ok := impl.ReadVars(code); !ok || !slices.Equal(got, l) {
		t.Errorf("ReadVars(%q) = %v, %v", code, got, ok)
	}
	for end := range len(code) {
		wantNoVars(t, code[:end])
	}
	for _, rest := range []string{"\x00", "\x01", "\x80", code} {
		wantNoVars(t, code+rest)
	}
}

func TestVarsAreRecovered(t *testing.T) {
	wantVars(t, nil)
	wantVars(t, []int64{})
	wantVars(t, []int64{0, -1, 64})
	wantVars(t, []int64{minInt, maxInt, minInt})
	for _, n := range edgeNumbers() {
		wantVars(t, []int64{n})
		wantVars(t, []int64{n, 0, -n})
	}
	if got := impl.VarsOf([]int64{0, -1, 64}); got != "\x03\x00\x01\x80\x01" {
		t.Errorf("%q", got)
	}
	if got := impl.VarsOf(nil); got != "\x00" {
		t.Errorf("%q", got)
	}
}

func TestVarsUpTo200Elements(t *testing.T) {
	r := numbers()
	list := make([]int64, 201)
	for i := range list {
		list[i] = int64(r.Uint64() >> r.IntN(64))
	}
	for _, n := range []int{127, 128, 199, 200} {
		wantVars(t, list[:n])
	}
	if got := impl.VarsOf(list); got != "" {
		t.Errorf("%q", got)
	}
	if got := impl.VarsOf(make([]int64, 5000)); got != "" {
		t.Errorf("%q", got)
	}
	if got, ok := impl.ReadVars("\xc8\x01" + strings.Repeat("\x02", 200)); !ok || len(got) != 200 || got[199] != 1 {
		t.Error(got, ok)
	}
	wantNoVars(t, "\xc9\x01"+strings.Repeat("\x02", 201))
}

func TestVarsThatAreNone(t *testing.T) {
	for _, s := range []string{
		"",
		"\x01",
		"\x00\x00",
		"\x02\x00",
		"\x80",
		"\x80\x00",
		"\x81\x00\x00",
		"\x01\x80",
		"\x01\x80\x00",
		"\x02\x80\x00\x01",
		"\x01" + strings.Repeat("\xff", 9) + "\x02",
		impl.VarOf(-1),
		impl.VarOf(-1) + "\x00",
		impl.VarOf(minInt),
		impl.VarOf(maxInt) + "\x00",
		impl.VarOf(1<<32) + "\x00",
		impl.VarOf(1<<32+1) + "\x00",
	} {
		wantNoVars(t, s)
	}
}

func TestVarsOfDoesNotModifyItsArgument(t *testing.T) {
	whole := []int64{5, -6, 7, 8, 9}
	first := impl.VarsOf(whole[:3])
	if !slices.Equal(whole, []int64{5, -6, 7, 8, 9}) {
		t.Error(whole)
	}
	if again := impl.VarsOf(whole[:3]); again != first {
		t.Errorf("%q, %q", first, again)
	}
}

func TestReadVarsSharesNoMemory(t *testing.T) {
	code := impl.VarsOf([]int64{1, 2, 3})
	first, _ := impl.ReadVars(code)
	first[0] = 99
	if again, ok := impl.ReadVars(code); !ok || !slices.Equal(again, []int64{1, 2, 3}) {
		t.Error(again, ok)
	}
}
