package tests

import (
	"fmt"
	"regexp"
	"slices"
	"strconv"
	"strings"
	"testing"

	"loop.example/g00617/impl"
)

// Promise 11: valid lines are recovered from their texts.

// lineText is the model of LineText, also for lines that are not valid.
func lineText(x impl.Line) string {
	return fmt.Sprintf("%s %d %d", labelsText(x.L), x.V, x.T)
}

var validLine = regexp.MustCompile(`\A([^ ]*) (0|-?[1-9][0-9]{0,12}) (0|[1-9][0-9]{0,12})\z`)

// lineFrom is the model of ReadLine.
func lineFrom(s string) (impl.Line, bool) {
	words := validLine.FindStringSubmatch(s)
	if words == nil || labelsFrom(words[1]) == nil {
		return impl.Line{}, false
	}
	v, _ := strconv.Atoi(words[2])
	at, _ := strconv.Atoi(words[3])
	if v < -maxSmall || v > maxSmall || at > maxTime {
		return impl.Line{}, false
	}
	return impl.Line{L: labelsFrom(words[1]), V: int64(v), T: int64(at)}, true
}

func sameLine(a, b impl.Line) bool {
	return slices.Equal(a.L, b.L) && a.V == b.V && a.T == b.T
}

// wantRead reports a text of which ReadLine does not return what the model does,
// and returns whether it is that of a line.
func wantRead(t *testing.T, s string) bool {
	t.Helper()
	want, wantOk := lineFrom(s)
	got, ok := impl.ReadLine(s)
	if ok != wantOk || !sameLine(got, want) {
		t.Errorf("%q: got %v, %v; want %v, %v", s, got, ok, want, wantOk)
	}
	return wantOk
}

func wantNoLine(t *testing.T, s string) {
	t.Helper()
	if wantRead(t, s) {
		t.Errorf("%q is the text of a line", s)
	}
}

// wantLineOk reports a line that is not judged like this, or that is not
// recovered from its text if it is valid.
func wantLineOk(t *testing.T, x impl.Line, want bool) {
	t.Helper()
	text := ""
	if want {
		text = lineText(x)
	}
	if impl.LineOk(x) != want {
		t.Errorf("%v: want %v", x, want)
	}
	if got := impl.LineText(x); got != text {
		t.Errorf("%v: got %q, want %q", x, got, text)
	}
	wantRead(t, lineText(x))
	if got, ok := impl.ReadLine(text); ok != want || ok && !sameLine(got, x) {
		t.Errorf("%q: got %v, %v; want %v", text, got, ok, x)
	}
}

func smallEdges() []int64 {
	return []int64{0, 1, -1, 9, 10, -10, 123456789, maxSmall - 1, maxSmall, 1 - maxSmall, -maxSmall}
}

func timeEdges() []int64 {
	return []int64{0, 1, 9, 10, 1234567890123 / 10, maxTime - 1, maxTime}
}

func TestLinesAreRecoveredFromTheirTexts(t *testing.T) {
	for _, l := range validLabels() {
		for _, v := range smallEdges() {
			for _, at := range timeEdges() {
				wantLineOk(t, impl.Line{L: l, V: v, T: at}, true)
			}
		}
	}
}

func TestNumbersOfLines(t *testing.T) {
	l := []impl.Label{{Name: "a", Val: "b"}}
	all := append(edgeNumbers(), smallEdges()...)
	all = append(all, maxSmall+1, maxSmall+2, -maxSmall-1, -maxSmall-2, maxTime-1, maxTime, maxTime+1, maxTime+2, -maxTime)
	for _, n := range all {
		wantLineOk(t, impl.Line{L: l, V: n, T: 5}, n >= -maxSmall && n <= maxSmall)
		wantLineOk(t, impl.Line{L: l, V: 5, T: n}, n >= 0 && n <= maxTime)
		wantLineOk(t, impl.Line{L: l, V: n, T: n}, n >= 0 && n <= maxSmall)
	}
}

func TestInvalidLabelsOfLines(t *testing.T) {
	for _, l := range invalidLabels() {
		wantLineOk(t, impl.Line{L: l, V: 3, T: 4}, false)
		wantLineOk(t, impl.Line{L: l}, false)
	}
}

func TestNumbersOfLabelsOfLines(t *testing.T) {
	long := []impl.Label{{Name: "aaaaaaaaaa", Val: ten}, {Name: "bbbbbbbbbb", Val: ten}, {Name: "cccccccccc", Val: ten}, {Name: "dddddddddd", Val: ten}, {Name: "eeeeeeeeee", Val: ten}, {Name: "ffffffffff", Val: ten}}
	for n := range 7 {
		wantLineOk(t, impl.Line{L: long[:n], V: -maxSmall, T: maxTime}, n >= 1 && n <= 5)
	}
	long[4].Val += "a"
	wantLineOk(t, impl.Line{L: long[:5]}, false)
	wantLineOk(t, impl.Line{L: long[:4]}, true)
}

// numberWords returns words of which few are numbers in decimal.
func numberWords() []string {
	return []string{"0", "5", "-5", "10", "-10", "1000000000", "-1000000000", "1000000000000",
		"", "-", "+", "--5", "+-5", "-+5", "5-", "5+", "-0", "+0", "+5", "+10", "00", "-00", "05", "-05", "005", "0000000000005", "00000000000005",
		"1000000001", "-1000000001", "999999999999", "9999999999999", "-9999999999999", "1000000000001", "-1000000000000", "10000000000000", "99999999999999", "-10000000000000",
		"4294967301", "9223372036854775807", "-9223372036854775808", "9223372036854775808", "-9223372036854775809", "18446744073709551621", "-18446744073709551611", "100000000000000000000000000000000000000005",
		"5.0", "5.", ".5", "5e0", "1e3", "0x5", "0b1", "0o5", "1_0", "1,0", "5a", "a5", "a", "nan", "inf", "٥", "５", "5\x00", "\x005", "\t5", "5\t", "5\n", "5\r", "\u00a05", "5\xff"}
}

func TestWordsOfLines(t *testing.T) {
	valid := 0
	for _, labels := range []string{"a=b", "a=b,c=d", "", "a", "=", "a=", "=b", "a=b,", ",a=b", "a=b,c", "c=d,a=b", "a=b,a=b", "a=b,a=c", "A=b", "a=B", "a==b", "a=b=c", "a=-", "5", "a=b\x00", "\ta=b", "a=b\n"} {
		for _, v := range numberWords() {
			for _, at := range numberWords() {
				if wantRead(t, labels+" "+v+" "+at) {
					valid++
				}
			}
		}
	}
	// Seven of the words are small values, and eight are times.
	if valid != 2*7*8 {
		t.Error(valid, "valid texts")
	}
}

func TestSpacesOfLines(t *testing.T) {
	valid := 0
	spaces := []string{"", " ", "  ", "   ", "\t", "\n", "\r", "\v", "\x00", "\u00a0", "\u3000", "\t ", " \t", ",", "+", "_"}
	for _, before := range spaces {
		for _, first := range spaces {
			for _, second := range spaces {
				for _, behind := range spaces {
					if wantRead(t, before+"a=b"+first+"7"+second+"12"+behind) {
						valid++
					}
				}
			}
		}
	}
	// "_" may also belong to a name.
	if valid != 2 {
		t.Error(valid, "valid texts")
	}
}

func TestTextsThatAreNoLines(t *testing.T) {
	for _, s := range []string{"", " ", "  ", "   ", "a=b", "a=b ", "a=b 1", "a=b 1 ", "a=b  2", " 1 2", "1 2", "a=b 1 2 ", " a=b 1 2", "a=b 1 2  ", "  a=b 1 2", "a=b  1 2", "a=b 1  2", "a=b 1 2 3", "a=b 1 2 3 4", "a=b c=d 1 2", "a=b, c=d 1 2", "a=b ,c=d 1 2", "1 a=b 2", "1 2 a=b", "a=b 1 a=b",
		"a=b 1 2\na=b 1 3", "a=b 1 2\n", "c=d,a=b 1 2", "a=b -0 1", "a=b 0 -0", "a=b +1 1", "a=b 1 +1", "a=b 01 1", "a=b 1 01", "a=b 1 -1", "a=b 1000000001 1", "a=b 1 1000000000001", "A=b 1 1",
		strings.Repeat(" ", 100000), strings.Repeat("a=b 1 2 ", 1000), "a=b 1 " + strings.Repeat("0", 100000), "a=b " + strings.Repeat("1", 100000) + " 1", strings.Repeat("a=b,", 10000) + "a=b 1 2"} {
		wantNoLine(t, s)
	}
}

// TestChangedTextsOfLines replaces, inserts and removes bytes.
func TestChangedTextsOfLines(t *testing.T) {
	const letters = "ab_01=, -+.\x00\xff"
	valid := 0
	for i, l := range validLabels() {
		if i%5 > 0 {
			continue
		}
		s := lineText(impl.Line{L: l, V: smallEdges()[i%11], T: timeEdges()[i%7]})
		for i := range s {
			for j := range letters {
				for _, changed := range []string{s[:i] + letters[j:j+1] + s[i+1:], s[:i] + letters[j:j+1] + s[i:], s[:i] + s[i+1:], s[:i], s[i:]} {
					if wantRead(t, changed) {
						valid++
					}
				}
			}
		}
	}
	if valid < 1000 {
		t.Error("few valid texts:", valid)
	}
}

func TestLinesAreNotModified(t *testing.T) {
	for _, l := range append(validLabels()[:10], invalidLabels()[:14]...) {
		for _, v := range []int64{5, maxSmall + 1} {
			x := spaciousLine(impl.Line{L: l, V: v, T: 9})
			unchanged := wantUnchanged(t, x)
			for range 2 {
				impl.LineOk(x)
				impl.LineText(x)
			}
			unchanged()
		}
	}
	for _, s := range []string{"a=b,c=d -5 12", strings.Clone("host=a_1,name=cpu 0 7")} {
		one, _ := impl.ReadLine(s)
		two, _ := impl.ReadLine(s)
		wantOwnMemory(t, one, s, two)
		overwrite(one.L, impl.Label{Name: "x"})
		if lineText(two) != s {
			t.Error(two)
		}
	}
}

func TestLinesExamples(t *testing.T) {
	x, ok := impl.ReadLine("a=b,c=d -5 12")
	if !ok || !sameLine(x, impl.Line{L: []impl.Label{{Name: "a", Val: "b"}, {Name: "c", Val: "d"}}, V: -5, T: 12}) {
		t.Error(x, ok)
	}
	if s := impl.LineText(x); s != "a=b,c=d -5 12" {
		t.Error(s)
	}
}
