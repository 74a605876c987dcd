package tests

import (
	"fmt"
	"math/rand/v2"
	"regexp"
	"slices"
	"strconv"
	"strings"
	"testing"

	"loop.example/g00617/impl"
)

// Promise 18: the output of a script is a prefix of that of the script with
// further lines, as long as there are not too many lines or bytes; queries
// change nothing.

const (
	maxScript      = 40
	maxScriptBytes = 4000

	tooLong = "too long\n"
)

var (
	validScript = regexp.MustCompile(`\A(?:[^\n]*\n){0,40}\z`)
	scriptWord  = regexp.MustCompile(`[^ ]+`)
	validAsk    = regexp.MustCompile(`\A(count|sum|min|max|last|mean) (0|-?[1-9][0-9]{0,12}) (0|-?[1-9][0-9]{0,12})((?: [^ ]+)*)\z`)
	equalMatch  = regexp.MustCompile(`\A([^=]*)=([^ ]*)\z`)
	otherMatch  = regexp.MustCompile(`\A([^=!]*)!([^=]*)\z`)
)

// played is the model of RunScript.
func played(text string) string {
	if len(text) > maxScriptBytes || !validScript.MatchString(text) {
		return tooLong
	}
	s := store{}
	var out strings.Builder
	for _, line := range strings.Split(text, "\n") {
		out.WriteString(s.output(line))
	}
	return out.String()
}

// output returns what a line produces; it changes the store.
func (s store) output(line string) string {
	words := scriptWord.FindAllString(line, -1)
	if len(words) == 0 {
		return ""
	}
	rest := strings.Join(words[1:], " ")
	m, matched := matchesFrom(rest)
	switch {
	case words[0] == "put":
		return s.put(rest) + "\n"
	case words[0] == "forget" && matched:
		return "gone " + strconv.Itoa(s.forget(m)) + "\n"
	case words[0] == "series" && matched:
		out := "series"
		for _, i := range s.selected(m) {
			out += " " + s.texts()[i]
		}
		return out + "\n"
	case words[0] == "ask":
		return s.ask(rest) + "\n"
	}
	return "what\n"
}

// matchesFrom returns the matches in words with single spaces between them.
func matchesFrom(words string) ([]impl.Match, bool) {
	var out []impl.Match
	for _, word := range scriptWord.FindAllString(words, -1) {
		if parts := equalMatch.FindStringSubmatch(word); parts != nil {
			out = append(out, impl.Match{Name: parts[1], Val: parts[2]})
		} else if parts := otherMatch.FindStringSubmatch(word); parts != nil {
			out = append(out, impl.Match{Name: parts[1], Val: parts[2], Not: true})
		} else {
			return nil, false
		}
	}
	return out, true
}

func (s store) put(words string) string {
	x, ok := lineFrom(words)
	if !ok {
		return "what"
	}
	next, ok := s.written(x)
	if !ok {
		return "no"
	}
	text := labelsText(x.L)
	s[text] = next[text]
	return "ok"
}

func (s store) forget(m []impl.Match) int {
	texts, chosen := s.texts(), s.selected(m)
	for _, i := range chosen {
		delete(s, texts[i])
	}
	return len(chosen)
}

func (s store) ask(words string) string {
	parts := validAsk.FindStringSubmatch(words)
	if parts == nil {
		return "what"
	}
	m, ok := matchesFrom(parts[4])
	if !ok {
		return "what"
	}
	from, _ := strconv.Atoi(parts[2])
	to, _ := strconv.Atoi(parts[3])
	how := int64(slices.Index([]string{"count", "sum", "min", "max", "last", "mean"}, parts[1]) + agCount)
	l, _, ok := s.asked(m, int64(from), int64(to), how)
	if !ok {
		return "no"
	}
	out := "ask"
	for _, p := range l {
		out += fmt.Sprintf(" %d:%d", p.T, p.V)
	}
	return out
}

func scriptOf(lines ...string) string {
	var out strings.Builder
	for _, line := range lines {
		out.WriteString(line + "\n")
	}
	return out.String()
}

// wantPlayed reports a script whose output is not that of the model.
func wantPlayed(t *testing.T, text string) string {
	t.Helper()
	want := played(text)
	if got := impl.RunScript(text); got != want {
		t.Fatalf("%q: got %q, want %q", text, got, want)
	}
	return want
}

func wantScript(t *testing.T, text, want string) {
	t.Helper()
	if got := wantPlayed(t, text); got != want {
		t.Fatalf("%q: got %q, want %q", text, got, want)
	}
}

// wantLines has the lines and their outputs in turn.
func wantLines(t *testing.T, pairs ...string) {
	t.Helper()
	var lines, outputs []string
	for i, s := range pairs {
		if i%2 == 0 {
			lines = append(lines, s)
		} else {
			outputs = append(outputs, s)
		}
	}
	wantScript(t, scriptOf(lines...), scriptOf(outputs...))
}

// wantAfter has what one more line produces behind these.
func wantAfter(t *testing.T, lines []string, line, want string) {
	t.Helper()
	before := wantPlayed(t, scriptOf(lines...))
	wantScript(t, scriptOf(append(slices.Clip(lines), line)...), before+want+"\n")
}

// hosts are lines that write four series of one or two labels.
func hosts() []string {
	return []string{"put host=a 5 3", "put host=b 7 3", "put host=a 1 14", "put host=a,name=x 2 30", "put name=x 4 31"}
}

func TestScriptConstants(t *testing.T) {
	if impl.MaxScript != maxScript || impl.MaxLines != maxScriptBytes {
		t.Error(impl.MaxScript, impl.MaxLines)
	}
}

func TestScriptExample(t *testing.T) {
	wantLines(t,
		"put host=a 5 3", "ok",
		"put host=b 7 3", "ok",
		"put host=a 1 14", "ok",
		"put host=a 9 14", "no",
		"series", "series host=a host=b",
		"series host=a", "series host=a",
		"ask sum 0 99", "ask 3:12 14:1")
}

func TestTextsWithoutALastLineFeed(t *testing.T) {
	wantScript(t, "", "")
	wantScript(t, "\n", "")
	wantScript(t, "series\n", "series\n")
	for _, text := range []string{"series", " ", "x", "\r", "\x00", "series\nseries", "series\n ", "\nx", "\n\n ", "put n=1 1 1\nseries\r", strings.Repeat("\n", maxScript-1) + "series", strings.Repeat("\n", maxScript) + " "} {
		wantScript(t, text, tooLong)
	}
}

func TestNumbersOfScriptLines(t *testing.T) {
	for line, output := range map[string]string{"": "", "   ": "", "series": "series\n", "x": "what\n", "put n=1 1 0": "no\n", "forget": "gone 0\n"} {
		for n := range maxScript + 5 {
			want := strings.Repeat(output, n)
			if n > maxScript {
				want = tooLong
			}
			wantScript(t, strings.Repeat(line+"\n", n), want)
		}
	}
	// Lines without words count too.
	wantScript(t, strings.Repeat("\n", maxScript-1)+"series\n", "series\n")
	wantScript(t, "series\n"+strings.Repeat("\n", maxScript-1), "series\n")
	wantScript(t, strings.Repeat("\n", maxScript)+"series\n", tooLong)
	wantScript(t, "series\n"+strings.Repeat("\n", maxScript), tooLong)
	wantScript(t, strings.Repeat(" \n", maxScript+1), tooLong)
	for _, n := range []int{maxScriptBytes, maxScriptBytes + 1, 1000000} {
		wantScript(t, strings.Repeat("\n", n), tooLong)
	}
}

func TestNumbersOfScriptBytes(t *testing.T) {
	for _, x := range []struct {
		before, filler, behind, output string
	}{
		{"", " ", "\n", ""},
		{"", "x", "\n", "what\n"},
		{"", "ä", "\n", "what\n"},
		{"series ", " ", "\n", "series\n"},
		{"", " ", "series\n", "series\n"},
		{"series\n", " ", "\nseries\n", "series\nseries\n"},
		{"put", " ", "n=1 1 1\nseries\n", "ok\nseries n=1\n"},
		{"put n=1 1 1\nseries n=", "1", "\n", "ok\nseries\n"},
		{"put n=1 1 1\nseries n=1", " n=1", "\n", "ok\nseries n=1\n"},
		{"put n=1 1 1\nask sum 0 9", " x!1", "\n", "ok\nask 1:1\n"},
		{strings.Repeat("series\n", 30), " ", "\n", strings.Repeat("series\n", 30)},
	} {
		for n := maxScriptBytes - 20; n <= maxScriptBytes+20; n++ {
			count := (n - len(x.before) - len(x.behind)) / len(x.filler)
			text := x.before + strings.Repeat(x.filler, count)
			text += strings.Repeat(" ", n-len(text)-len(x.behind)) + x.behind
			if len(text) != n {
				t.Fatal(len(text), n)
			}
			want := x.output
			if n > maxScriptBytes {
				want = tooLong
			}
			wantScript(t, text, want)
		}
	}
	for _, n := range []int{maxScriptBytes, maxScriptBytes + 1, 8000, 100000} {
		wantScript(t, strings.Repeat("x", n), tooLong)
		wantScript(t, strings.Repeat("x", n)+"\n", tooLong)
	}
}

func TestLinesWithoutWords(t *testing.T) {
	for _, blank := range []string{"", " ", "  ", strings.Repeat(" ", 50)} {
		wantScript(t, blank+"\n", "")
		wantScript(t, scriptOf(blank, "put n=1 1 1", blank, blank, "series", blank), "ok\nseries n=1\n")
		wantScript(t, scriptOf(blank, "what", blank, "", " ", "forget", "ask sum 0 9"), "what\ngone 0\nask\n")
	}
}

// TestSpacesOfScripts has each line with more spaces than it needs.
func TestSpacesOfScripts(t *testing.T) {
	lines := append(hosts(), "put host=a 9 14", "put host=A 1 1", "series", "series host=a name!x", "ask sum 0 99 host!b", "ask big 0 99", "forget host=b", "forget", "x", "x y")
	want := wantPlayed(t, scriptOf(lines...))
	for _, before := range []string{"", " ", "    "} {
		for _, between := range []string{" ", "  ", "     "} {
			for _, behind := range []string{"", " ", "   "} {
				var spaced []string
				for _, line := range lines {
					spaced = append(spaced, before+strings.ReplaceAll(line, " ", between)+behind)
				}
				wantScript(t, scriptOf(spaced...), want)
			}
		}
	}
	for _, line := range []string{"puthost=a 5 3", "put host=a5 3", "put host=a 53", "put host =a 5 3", "put host= a 5 3", "p ut host=a 5 3", "put host=a 5 - 3", "put host=a - 5 3", "seriesn=1", "seri es", "ask sum0 9", "asksum 0 9", "ask sum 0 9n=1", "for get", "series n = 1", "series n !1 x", "ask sum 0 9 n =1"} {
		wantLines(t, line, "what")
	}
	// What remains of such a word may be a match.
	wantLines(t, "put n=1 1 1", "ok", "series n= 1=", "series", "series n! =1", "series", "series m= =", "series n=1")
}

// otherBytes returns each byte that is neither a space nor a line feed, and the
// bytes of other spaces.
func otherBytes() []string {
	out := []string{"\u0085", "\u00a0", "\u2003", "\u2028", "\u3000", "\r\t"}
	for c := range 256 {
		if c != ' ' && c != '\n' {
			out = append(out, string([]byte{byte(c)}))
		}
	}
	return out
}

// TestOtherBytesOfScripts has each of them at several places.
func TestOtherBytesOfScripts(t *testing.T) {
	for _, b := range otherBytes() {
		wantLines(t,
			"put n=1 1 1", "ok",
			b, "what",
			b+" ", "what",
			b+"series", "what",
			"series"+b, "what",
			b+" series", "what",
			"put"+b+"n=1 2 2", "what",
			"put n=1"+b+"2 2", "what",
			"put n=1 2"+b+"2 x", "what",
			"put n=1 2 2 "+b, "what",
			"ask"+b+"sum 0 9", "what",
			"ask sum"+b+"0 9", "what",
			"ask "+b+"sum 0 9", "what",
			"forget"+b, "what",
			"series n=1"+b, "series",
			"series n=1"+b+"n=1", "series",
			"forget n=1"+b, "gone 0",
			"series", "series n=1")
		if !strings.Contains("0123456789", b) {
			wantLines(t, "ask sum 0 9"+b, "what", "ask sum 0"+b+" 9", "what", "ask sum 0"+b+"9", "what", "put n=1 2 2"+b, "what")
		}
		if b != "=" && b != "!" {
			wantLines(t, "series "+b, "what", "forget "+b, "what", "ask sum 0 9 "+b, "what", "series n=1 "+b, "what")
		}
		wantPlayed(t, scriptOf("put n"+b+"=1 1 1", "put n="+b+" 1 1", "put n=1 "+b+"1 1", "put n=1 1 "+b+"1", "series", "series n"+b+"1", "series "+b+"n=1", "ask last 0 9 n=1"+b))
	}
}

// TestFirstWords has words that differ little from those of the commands.
func TestFirstWords(t *testing.T) {
	for _, rest := range []string{"", " n=1", " n=1 2 2", " sum 0 9", " sum 0 9 n=1"} {
		for _, word := range []string{"what", "ok", "no", "gone", "Put", "PUT", "pu", "putt", "puts", "xput", "Forget", "forge", "forgets", "serie", "seriess", "Series", "as", "asks", "Ask", "ASK", "query", "select", "write", "sum", "count", "n=1", "0", "#", "--", "ask,", "put=", "series!", "ásk"} {
			wantLines(t, "put n=1 1 1", "ok", word+rest, "what", "series", "series n=1", "ask last 0 9", "ask 1:1")
		}
	}
}

func TestPutOfScripts(t *testing.T) {
	wantLines(t,
		"put n=1 -2 7", "ok",
		"put n=1 3 8", "ok",
		"put n=1 4 8", "no",
		"put n=1 4 7", "no",
		"put n=1 4 0", "no",
		"put n=1 4 9", "ok",
		"put n=2 1 0", "no", // a new series is at the time 0
		"put n=2 1 1", "ok",
		"put m=0,n=1 1000000000 1000000000000", "ok",
		"put m=0,n=1 1 1000000000000", "no",
		"put m=0 -1000000000 5", "ok",
		"series", "series m=0 m=0,n=1 n=1 n=2",
		"ask last 0 10", "no",
		"ask last 0 10 n=1 m=", "ask 7:-2 8:3 9:4",
		"ask last 0 10 m=0 n=", "ask 5:-1000000000",
		"ask last 999999999999 1000000000000 m=0 n=1", "ask",
		"ask last 0 10 n=2", "ask 1:1")
}

// TestPutOfNoLine has words of which ReadLine does not return a line; they
// change nothing.
func TestPutOfNoLine(t *testing.T) {
	for _, words := range []string{"", "n=1", "n=1 2", "2 2", "n=1 2 2 2", "n=1 2 2 n=1", "n=1 m=1 2 2", "n=1 2 2 n=2 3 3", "2 2 n=1", "2 n=1 2", "n 2 2", "n= 2 2", "=1 2 2", "= 2 2", "n=1, 2 2", ",n=1 2 2", "n=1,m=1 2 2", "n=1,n=2 2 2", "n==1 2 2", "n!1 2 2", "N=1 2 2", "n=A 2 2", "n-=1 2 2", "n=" + ten + "a 2 2", ten + "a=1 2 2",
		"a=1,b=1,c=1,d=1,e=1,f=1 2 2", "n=1 x 2", "n=1 2 x", "n=1 +2 2", "n=1 2 +2", "n=1 02 2", "n=1 2 02", "n=1 -0 2", "n=1 2 -0", "n=1 2 -2", "n=1 1000000001 2", "n=1 -1000000001 2", "n=1 2 1000000000001", "n=1 2.0 2", "n=1 2 2.", "n=1 10000000000000 2", "n=1 2 99999999999999"} {
		wantLines(t, "put n=1 1 1", "ok", "put "+words, "what", "series", "series n=1", "ask last 0 99", "ask 1:1", "put n=1 3 2", "ok")
	}
}

func TestNinthSeriesOfScripts(t *testing.T) {
	r := numbers()
	for range 20 {
		var lines []string
		order := r.Perm(maxDb + 1)
		for i, n := range order {
			line := "put n=" + strconv.Itoa(n) + " 1 5"
			want := map[bool]string{true: "no", false: "ok"}[i == maxDb]
			wantAfter(t, lines, line, want)
			lines = append(lines, line)
		}
		for _, n := range order {
			wantAfter(t, lines, "put n="+strconv.Itoa(n)+" 1 6", map[bool]string{true: "no", false: "ok"}[n == order[maxDb]])
		}
		last := strconv.Itoa(order[maxDb])
		lines = append(lines, "forget n="+strconv.Itoa(order[r.IntN(maxDb)]))
		wantAfter(t, lines, "put n="+last+" 1 5", "ok")
		wantAfter(t, append(lines, "put n="+last+" 1 5"), "put m=1 1 5", "no")
	}
}

func TestForgetOfScripts(t *testing.T) {
	wantLines(t, "forget", "gone 0", "forget n=1", "gone 0", "forget n!1", "gone 0")
	for words, want := range map[string][2]string{
		"":                {"gone 4", "series"},
		" host=a":         {"gone 2", "series host=b name=x"},
		" host=b":         {"gone 1", "series host=a host=a,name=x name=x"},
		" host!a":         {"gone 2", "series host=a host=a,name=x"},
		" host=a name=x":  {"gone 1", "series host=a host=b name=x"},
		" name=x host=a":  {"gone 1", "series host=a host=b name=x"},
		" host=a name!x":  {"gone 1", "series host=a,name=x host=b name=x"},
		" host=":          {"gone 1", "series host=a host=a,name=x host=b"},
		" host!":          {"gone 3", "series name=x"},
		" host!a host!b":  {"gone 1", "series host=a host=a,name=x host=b"},
		" host=a host=b":  {"gone 0", "series host=a host=a,name=x host=b name=x"},
		" host=c":         {"gone 0", "series host=a host=a,name=x host=b name=x"},
		" host!c":         {"gone 4", "series"},
		" zone=":          {"gone 4", "series"},
		" zone!":          {"gone 0", "series host=a host=a,name=x host=b name=x"},
		" host=a,name=x":  {"gone 0", "series host=a host=a,name=x host=b name=x"},
		" host":           {"what", "series host=a host=a,name=x host=b name=x"},
		" host=a name":    {"what", "series host=a host=a,name=x host=b name=x"},
		" host host=a":    {"what", "series host=a host=a,name=x host=b name=x"},
		" host=a x host!": {"what", "series host=a host=a,name=x host=b name=x"},
	} {
		lines := append(hosts(), "forget"+words)
		wantAfter(t, lines[:5], lines[5], want[0])
		wantAfter(t, lines, "series", want[1])
	}
	// A series that is written anew begins without points.
	wantLines(t, "put n=1 1 50", "ok", "put n=2 2 50", "ok", "forget n=1", "gone 1", "put n=1 3 7", "ok", "put n=2 3 7", "no", "ask sum 0 99", "ask 7:3 50:2", "forget n=1", "gone 1", "forget n=1", "gone 0", "forget", "gone 1", "series", "series", "put n=2 3 7", "ok")
}

func TestSeriesOfScripts(t *testing.T) {
	wantLines(t, "series", "series", "series n=1", "series", "series n!1", "series", "series n=", "series")
	for words, want := range map[string]string{
		"":                                   "series host=a host=a,name=x host=b name=x",
		" host=a":                            "series host=a host=a,name=x",
		" host=b":                            "series host=b",
		" host!a":                            "series host=b name=x",
		" name=x":                            "series host=a,name=x name=x",
		" name=x host=a":                     "series host=a,name=x",
		" name=x host!a":                     "series name=x",
		" name=x host=a host=b":              "series",
		" host=a host=a host=a":              "series host=a host=a,name=x",
		" host!a host!b":                     "series name=x",
		" host!a host!b name!x":              "series",
		" zone=1":                            "series",
		" zone!1":                            "series host=a host=a,name=x host=b name=x",
		strings.Repeat(" zone!1", 50):        "series host=a host=a,name=x host=b name=x",
		" host":                              "what",
		" a":                                 "what",
		" host,a":                            "what",
		" host:a":                            "what",
		" host~a":                            "what",
		" host=a b":                          "what",
		" b host=a":                          "what",
		strings.Repeat(" zone!1", 50) + " c": "what",
	} {
		wantAfter(t, hosts(), "series"+words, want)
	}
}

// TestMatchesOfScripts has words with `=` and `!`. A word with `=` is divided
// there, whether it has `!` too or not.
func TestMatchesOfScripts(t *testing.T) {
	const all, none = "series n=1 n=1,o=2 o=2", "series"
	for word, want := range map[string]string{
		"n=1":            "series n=1 n=1,o=2",
		"n!1":            "series o=2",
		"n=2":            none,
		"n!2":            all,
		"m=1":            none,
		"m!1":            all,
		"n=":             "series o=2",
		"n!":             "series n=1 n=1,o=2",
		"m=":             all,
		"m!":             none,
		"=":              all,
		"!":              none,
		"=1":             none,
		"!1":             all,
		"==":             none,
		"!!":             all,
		"=!":             none,
		"!=":             all,  // the name "!" and the value ""
		"n==":            none, // the value "="
		"n=1=":           none,
		"n==1":           none,
		"n!!":            all, // not the value "!"
		"n!1!":           all,
		"n!!1":           all,
		"n=!":            none,
		"n=1!":           none,
		"n=!1":           none,
		"n=!=":           none,
		"n!=":            all,  // the name "n!" and the value ""
		"n!=1":           none, // the name "n!"
		"n!1=":           all,  // the name "n!1" and the value ""
		"n!1=1":          none,
		"n!=!":           none,
		"N=1":            none,
		"n=A":            none,
		"n!A":            all,
		"N!1":            all,
		"N=":             all,
		"N!":             none,
		"n=01":           none,
		"n=1,":           none,
		"n=1,o=2":        none, // the value "1,o=2"
		"n!1,o!2":        all,
		"n-=":            all,
		"\t=":            all,
		"\xff=":          all,
		"\xff!\xfe":      all,
		"n=\xff":         none,
		"n=" + ten + "a": none,
		ten + "a=":       all,
		"n":              "what",
		"1":              "what",
		"n1":             "what",
		"-":              "what",
		"n≠1":            "what",
		"\xff":           "what",
	} {
		lines := []string{"put n=1 1 1", "put o=2 2 1", "put n=1,o=2 4 1"}
		wantAfter(t, lines, "series "+word, want)
		wantAfter(t, lines, "series "+word+" zone=", want)
		wantAfter(t, lines, "series zone= "+word, want)
		sum, count := "", 0
		for text, v := range map[string]int{"n=1": 1, "o=2": 2, "n=1,o=2": 4} {
			if slices.Contains(strings.Fields(want), text) {
				count += v
				sum = " 1:" + strconv.Itoa(count)
			}
		}
		if want == "what" {
			wantAfter(t, lines, "ask sum 0 9 "+word, "what")
			wantAfter(t, lines, "ask sum 0 9 zone= "+word, "what")
			wantAfter(t, lines, "forget "+word, "what")
			continue
		}
		wantAfter(t, lines, "ask sum 0 9 "+word, "ask"+sum)
		wantAfter(t, lines, "forget "+word, "gone "+strconv.Itoa(len(strings.Fields(want))-1))
	}
}

func TestAskOfScripts(t *testing.T) {
	lines := []string{"put n=1 5 10", "put n=1 -2 12", "put n=2 4 11", "put n=2 -3 17", "put n=2 0 18", "put n=1 9 90"}
	for line, want := range map[string]string{
		"count 10 99":                     "ask 10:2 11:1 17:1 18:1 90:1",
		"count 10 99 n=1":                 "ask 10:2 90:1",
		"sum 10 99 n=1":                   "ask 10:3 90:9",
		"min 10 99 n=1":                   "ask 10:-2 90:9",
		"max 10 99 n=1":                   "ask 10:5 90:9",
		"last 10 99 n=1":                  "ask 10:-2 90:9",
		"mean 10 99 n=1":                  "ask 10:1 90:9",
		"sum 10 90 n=1":                   "ask 10:3",
		"sum 10 11 n=1":                   "ask 10:3",
		"sum 11 99 n=1":                   "ask 90:9",
		"sum 31 99 n=1":                   "ask 90:9",
		"count 0 99 n=2":                  "ask 11:1 17:1 18:1",
		"sum 0 99 n=2":                    "ask 11:4 17:-3 18:0",
		"mean 0 99 n=2":                   "ask 11:4 17:-3 18:0",
		"min 12 18 n=2":                   "ask 17:-3",
		"sum 0 99":                        "ask 10:3 11:4 17:-3 18:0 90:9",
		"sum 0 99 n!1":                    "ask 11:4 17:-3 18:0",
		"sum 0 99 n=3":                    "ask",
		"sum 0 99 n=1 n=2":                "ask",
		"sum 0 0":                         "ask",
		"sum 11 11":                       "ask",
		"sum 99 0":                        "ask",
		"sum 18 17":                       "ask",
		"sum 1000000000000 0":             "ask",
		"sum 0 1000000000000 n=2":         "ask 11:4 17:-3 18:0",
		"sum 1000000000000 1000000000000": "ask",
		"sum -1 99":                       "no",
		"sum 0 -1":                        "no",
		"sum 1000000000001 99":            "no",
		"sum 0 1000000000001":             "no",
		"sum 9999999999999 99":            "no",
		"sum 0 9999999999999":             "no",
		"sum -9999999999999 99":           "no",
		"sum 0 -9999999999999":            "no",
		"sum -1 -1 n=2":                   "no",
		"sum -1 -1 n=3":                   "ask", // there is no query
		"sum 9999999999999 0 n=3":         "ask",
		"sum 10000000000000 99":           "what",
		"sum 0 10000000000000":            "what",
		"sum -10000000000000 99":          "what",
		"sum 0 -10000000000000":           "what",
		"sum 10000000000000 0 n=3":        "what",
	} {
		wantAfter(t, lines, "ask "+line, want)
	}
	far := append(lines, "put n=3 1 1250")
	wantAfter(t, far, "ask sum 50 99", "no")
	wantAfter(t, far, "ask sum 51 99", "ask 90:9")
	wantAfter(t, far, "ask sum 50 99 n!3", "ask 90:9")
	wantAfter(t, far, "ask sum 50 99 n=3", "no")
}

// TestMeansOfScripts has sums that are not multiples of their counts.
func TestMeansOfScripts(t *testing.T) {
	lines := []string{"put n=1 5 10", "put n=1 -2 11", "put n=1 1 12", "put n=2 -5 10", "put n=2 1 11", "put n=1 0 100", "put n=2 0 100"}
	for line, want := range map[string]string{
		"ask mean 10 20 n=1":  "ask 10:1",
		"ask mean 10 20 n=2":  "ask 10:-2",
		"ask mean 10 20":      "ask 10:-1",
		"ask sum 10 20 n=1":   "ask 10:4",
		"ask sum 10 20":       "ask 10:0",
		"ask count 10 20":     "ask 10:5",
		"ask min 10 20":       "ask 10:-7",
		"ask max 10 20":       "ask 10:6",
		"ask last 10 20":      "ask 10:2",
		"ask last 10 101":     "ask 10:2 100:0",
		"ask count 41 101":    "ask 100:2",
		"ask count 40 101":    "ask 100:2",
		"ask count 0 101 n=1": "ask 10:3 100:1",
	} {
		wantAfter(t, lines, line, want)
	}
}

func TestWordsOfAsk(t *testing.T) {
	for _, word := range []string{"big", "Sum", "SUM", "su", "sums", "counts", "coun", "avg", "median", "minimum", "first", "1", "2", "6", "0", "n=1", "AgSum", "sum,", "sum=", "ask"} {
		for _, rest := range []string{" 0 9", " 0 9 n=1", ""} {
			wantLines(t, "put n=1 1 1", "ok", "ask "+word+rest, "what", "ask sum 0 9", "ask 1:1")
		}
	}
	for _, how := range []string{"count", "sum", "min", "max", "last", "mean"} {
		wantLines(t, "ask "+how+" 0 9", "ask", "put n=1 1 1", "ok", "ask "+how+" 0 9", "ask 1:1")
		for _, rest := range []string{"", " 0", " n=1", " 0 n=1", " n=1 0 9", " 0 n=1 9", " 0 9 9", " 0 9 n", " 0 9 n=1 9", " 0 9 sum", " 9 " + how + " 0", " 0 9 n=1 x"} {
			wantLines(t, "put n=1 1 1", "ok", "ask "+how+rest, "what")
		}
	}
	wantLines(t, "ask", "what", "ask 0", "what", "ask 0 9", "what", "ask 0 9 sum", "what", "ask 0 sum 9", "what", "ask n=1", "what", "ask n=1 sum 0 9", "what")
}

func TestNumbersOfAsk(t *testing.T) {
	seen := map[string]int{}
	for _, from := range numberWords() {
		for _, to := range numberWords() {
			for _, rest := range []string{"", " n=2"} {
				out := wantPlayed(t, scriptOf("put n=1 7 6", "ask sum "+from+" "+to+rest))
				seen[strings.TrimPrefix(out, "ok\n")]++
			}
		}
	}
	if seen["ask 6:7\n"] == 0 || seen["ask\n"] == 0 || seen["no\n"] == 0 || seen["what\n"] < 3000 {
		t.Error(seen)
	}
	for word, want := range map[string]string{"0": "ask", "9": "ask", "-1": "no", "1000000000000": "ask", "1000000000001": "no", "9999999999999": "no", "-9999999999999": "no", "10000000000000": "what", "-10000000000000": "what", "0000000000000": "what", "+9": "what", "09": "what", "-0": "what", "-": "what", "00": "what", "-09": "what", "0x9": "what", "9.0": "what", "1e1": "what", "9_9": "what", "٩": "what", "9223372036854775808": "what", "18446744073709551616": "what"} {
		wantLines(t, "put n=1 7 6", "ok", "ask sum 1000000000000 "+word, want, "ask sum "+word+" 0", want)
	}
}

// randomMatchWords returns up to two words, most of which are matches.
func randomMatchWords(r *rand.Rand) string {
	out := ""
	for range r.IntN(3) {
		out += " " + []string{"host", "name", "n", "zone", "host", "name", "", "x!", "A"}[r.IntN(9)]
		out += []string{"=", "!", "=", "!", "=", "!", "==", "!=", "", ","}[r.IntN(10)]
		out += []string{"a", "b", "x", "y", "", "", "=", "!", "1"}[r.IntN(9)]
	}
	return out
}

func randomQuery(r *rand.Rand, at int64) string {
	if r.IntN(4) == 0 {
		return "series" + randomMatchWords(r)
	}
	how := []string{"count", "sum", "min", "max", "last", "mean"}[r.IntN(6)]
	times := []int64{0, at, at + 1, at + 100, max(at-61, 0), max(at-205, 0), maxTime, r.Int64N(at + 1), r.Int64N(at + 1), r.Int64N(at + 1), -1}
	return fmt.Sprintf("ask %s %d %d", how, times[r.IntN(11)], times[r.IntN(11)]) + randomMatchWords(r)
}

// damaged returns the line with a byte that is replaced, inserted or removed.
func damaged(r *rand.Rand, line string) string {
	i := r.IntN(len(line))
	c := string("ab_01=, -!.\t\x00\xff"[r.IntN(14)])
	return []string{line[:i] + c + line[i+1:], line[:i] + c + line[i:], line[:i] + line[i+1:], line[:i]}[r.IntN(4)]
}

// randomScriptLines returns n lines that fit into a script.
func randomScriptLines(r *rand.Rand, n int) []string {
	labels := []string{"host=a", "host=b", "host=a,name=x", "host=b,name=x", "name=x", "name=y", "n=1", "n=1,zone=y", "zone=1", "host=a,zone=x"}
	r.Shuffle(len(labels), func(i, j int) { labels[i], labels[j] = labels[j], labels[i] })
	labels = labels[:1+r.IntN(len(labels))]
	var out []string
	at := int64(0)
	for range n {
		at += r.Int64N(1 << r.IntN(9))
		line := ""
		switch r.IntN(16) {
		case 0, 1, 2:
			line = randomQuery(r, at)
		case 3:
			line = "forget" + randomMatchWords(r)
		case 4:
			line = strings.Repeat(" ", r.IntN(3))
		default:
			line = fmt.Sprintf("put %s %d %d", labels[r.IntN(len(labels))], randomSmall(r), at-r.Int64N(at/8+1))
		}
		if line != "" && r.IntN(20) == 0 {
			line = damaged(r, line)
		}
		out = append(out, line)
	}
	return out
}

func TestRandomScripts(t *testing.T) {
	r := numbers()
	seen := map[string]int{}
	for range 600 {
		out := wantPlayed(t, scriptOf(randomScriptLines(r, r.IntN(maxScript+2))...))
		for line := range strings.Lines(out) {
			words := strings.Fields(line)
			kind := words[0]
			if len(words) > 1 && words[1] != "0" {
				kind += " .."
			}
			if len(words) > 2 {
				kind += " .."
			}
			seen[kind]++
		}
	}
	for _, kind := range []string{"ok", "no", "what", "gone", "gone ..", "series", "series ..", "series .. ..", "ask", "ask ..", "ask .. .."} {
		if seen[kind] < 50 {
			t.Error("few lines of one kind:", kind, seen)
		}
	}
}

// TestFurtherLines plays each start of a script.
func TestFurtherLines(t *testing.T) {
	r := numbers()
	for range 100 {
		lines := randomScriptLines(r, maxScript)
		whole := impl.RunScript(scriptOf(lines...))
		last := ""
		for n := range len(lines) + 1 {
			got := impl.RunScript(scriptOf(lines[:n]...))
			if !strings.HasPrefix(got, last) || !strings.HasPrefix(whole, got) {
				t.Fatalf("%q: %q, behind %q, of %q", lines[:n], got, last, whole)
			}
			added := 1
			if n == 0 || strings.Trim(lines[n-1], " ") == "" {
				added = 0
			}
			if behind := got[len(last):]; strings.Count(behind, "\n") != added || added == 1 && !strings.HasSuffix(behind, "\n") {
				t.Fatalf("%q produces %q", lines[:n], behind)
			}
			last = got
		}
		if last != whole {
			t.Fatal(last, whole)
		}
		for _, further := range []string{"", "series", "forget"} {
			if got := impl.RunScript(scriptOf(append(lines, further)...)); got != tooLong {
				t.Fatal(got)
			}
		}
	}
}

// TestFurtherBytes has further lines up to as many bytes as a script may have.
func TestFurtherBytes(t *testing.T) {
	r := numbers()
	for range 50 {
		text := scriptOf(randomScriptLines(r, maxScript-2)...)
		want := impl.RunScript(text)
		for _, n := range []int{maxScriptBytes - 1, maxScriptBytes, maxScriptBytes + 1} {
			longer := text + strings.Repeat(" ", n-len(text)-1) + "\n"
			if n > maxScriptBytes {
				wantScript(t, longer, tooLong)
			} else {
				wantScript(t, longer, want)
			}
		}
	}
}

// TestQueriesChangeNothing has queries between other lines, whose output is the
// same without them.
func TestQueriesChangeNothing(t *testing.T) {
	r := numbers()
	queries := 0
	for range 300 {
		var without, with []string
		var added []bool
		for _, line := range randomScriptLines(r, 1+r.IntN(20)) {
			for range r.IntN(3) {
				if len(with) < maxScript-20 {
					with, added = append(with, randomQuery(r, 1+r.Int64N(2000))), append(added, true)
					queries++
				}
			}
			without = append(without, line)
			with = append(with, line)
			if strings.Trim(line, " ") != "" {
				added = append(added, false)
			}
		}
		outputs := strings.SplitAfter(impl.RunScript(scriptOf(with...)), "\n")
		got := ""
		for i, query := range added {
			if !query {
				got += outputs[i]
			}
		}
		if want := impl.RunScript(scriptOf(without...)); got != want {
			t.Fatalf("%q: got %q, without the queries %q", with, got, want)
		}
	}
	if queries < 1000 {
		t.Error("few queries:", queries)
	}
}

// TestRepeatedQueries has each query several times, with the same output.
func TestRepeatedQueries(t *testing.T) {
	r := numbers()
	for range 200 {
		lines := randomScriptLines(r, 20)
		before := wantPlayed(t, scriptOf(lines...))
		query := randomQuery(r, 1+r.Int64N(2000))
		for n := range 5 {
			out := strings.TrimPrefix(wantPlayed(t, scriptOf(slices.Concat(lines, slices.Repeat([]string{query}, n))...)), before)
			if all := strings.SplitAfter(out, "\n"); n > 0 && len(slices.Compact(all[:n])) != 1 {
				t.Fatalf("%q: %q", query, all)
			}
		}
	}
}

// TestScriptsKeepNothing plays scripts in turn: each begins without series.
func TestScriptsKeepNothing(t *testing.T) {
	for range 3 {
		wantLines(t, "series", "series", "put n=1 1 1", "ok", "series", "series n=1")
		wantLines(t, "ask sum 0 9", "ask", "put n=1 5 1", "ok", "ask sum 0 9", "ask 1:5")
		wantScript(t, "put n=2 1 1", tooLong)
		wantLines(t, "forget", "gone 0")
	}
}
