package tests

import (
	"hash/fnv"
	"math/rand/v2"
	"regexp"
	"slices"
	"strings"
	"testing"

	"loop.example/g00617/impl"
)

// Promise 6: valid labels are recovered from their text; labels that match all
// of two lists match each of them.

const ten = "abcde_6789"

// labelsText is the model of LabelsText, also for labels that are not valid.
func labelsText(l []impl.Label) string {
	var out strings.Builder
	for i, x := range l {
		if i > 0 {
			out.WriteString(",")
		}
		out.WriteString(x.Name + "=" + x.Val)
	}
	return out.String()
}

var validText = regexp.MustCompile(`\A[a-z0-9_]{1,10}=[a-z0-9_]{1,10}(,[a-z0-9_]{1,10}=[a-z0-9_]{1,10}){0,4}\z`)

// labelsFrom is the model of ReadLabels; it returns nil if there are none.
func labelsFrom(s string) []impl.Label {
	if !validText.MatchString(s) {
		return nil
	}
	var l []impl.Label
	for _, part := range strings.Split(s, ",") {
		words := strings.Split(part, "=")
		if len(l) > 0 && l[len(l)-1].Name >= words[0] {
			return nil
		}
		l = append(l, impl.Label{Name: words[0], Val: words[1]})
	}
	return l
}

// pick returns 1 to n letters.
func pick(r *rand.Rand, letters string, n int) string {
	var out strings.Builder
	for range 1 + r.IntN(n) {
		out.WriteByte(letters[r.IntN(len(letters))])
	}
	return out.String()
}

func randomLabels(r *rand.Rand, n int) []impl.Label {
	values := map[string]string{}
	for len(values) < n {
		values[pick(r, "ab_01", 3)] = pick(r, "ab_01z9", 10)
	}
	var l []impl.Label
	for name, value := range values {
		l = append(l, impl.Label{Name: name, Val: value})
	}
	slices.SortFunc(l, func(a, b impl.Label) int { return strings.Compare(a.Name, b.Name) })
	return l
}

func validLabels() [][]impl.Label {
	out := [][]impl.Label{
		{{Name: "host", Val: "a_1"}, {Name: "name", Val: "cpu"}},
		{{Name: "a", Val: "a"}},
		{{Name: "0", Val: "9"}},
		{{Name: "z", Val: "z"}},
		{{Name: "_", Val: "_"}},
		{{Name: ten, Val: ten}},
		{{Name: "9", Val: "a"}, {Name: "_", Val: "a"}, {Name: "a", Val: "a"}},
		{{Name: "a", Val: "5"}, {Name: "a0", Val: "4"}, {Name: "a_", Val: "3"}, {Name: "aa", Val: "2"}, {Name: "b", Val: "1"}},
		{{Name: ten[:9] + "6", Val: ten}, {Name: ten[:9] + "7", Val: ten}, {Name: ten[:9] + "8", Val: ten}, {Name: ten[:9] + "_", Val: ten}, {Name: ten[:9] + "a", Val: ten}},
	}
	r := numbers()
	for i := range 100 {
		out = append(out, randomLabels(r, 1+i%5))
	}
	return out
}

func invalidLabels() [][]impl.Label {
	good := randomLabels(numbers(), 5)
	out := [][]impl.Label{
		nil,
		{},
		{{}},
		append(slices.Clone(good), impl.Label{Name: "z", Val: "z"}),
		{{Name: "a", Val: "1"}, {Name: "b", Val: "1"}, {Name: "c", Val: "1"}, {Name: "d", Val: "1"}, {Name: "e", Val: "1"}, {Name: "f", Val: "1"}, {Name: "g", Val: "1"}},
		{{Name: "a", Val: "1"}, {Name: "a", Val: "1"}},
		{{Name: "a", Val: "1"}, {Name: "a", Val: "2"}},
		{{Name: "a", Val: "2"}, {Name: "a", Val: "1"}},
		{{Name: "b", Val: "1"}, {Name: "a", Val: "2"}},
		{{Name: "aa", Val: "1"}, {Name: "a", Val: "2"}},
		{{Name: "_", Val: "1"}, {Name: "9", Val: "2"}},
		{{Name: "a", Val: "1"}, {Name: "_", Val: "2"}},
		{{Name: "a", Val: "1"}, {Name: "b", Val: "1"}, {Name: "a", Val: "1"}},
		{{Name: "a", Val: "1"}, {Name: "b", Val: "1"}, {Name: "c", Val: "1"}, {Name: "d", Val: "1"}, {Name: "d", Val: "1"}},
	}
	for _, word := range invalidWords() {
		for i := range good {
			l := slices.Clone(good)
			l[i].Val = word
			out = append(out, l)
		}
		out = append(out, []impl.Label{{Name: word, Val: "a"}})
		out = append(out, []impl.Label{{Name: "a", Val: "a"}, {Name: "a" + word, Val: ten + word}})
	}
	return out
}

// invalidWords returns the empty word, words that are too long, and words with
// each byte that is no letter at each of three places.
func invalidWords() []string {
	out := []string{"", ten + "a", ten + "_", ten + ten, strings.Repeat("a", 256), "ä", "été", "A", "Host", "a-1", "١"}
	for c := range 256 {
		letter := string([]byte{byte(c)})
		if !strings.Contains("abcdefghijklmnopqrstuvwxyz0123456789_", letter) {
			out = append(out, letter, letter+"b", "a"+letter+"b", "a"+letter)
		}
	}
	return out
}

func wantLabels(t *testing.T, s string, want []impl.Label) {
	t.Helper()
	if got, ok := impl.ReadLabels(s); ok != (want != nil) || !slices.Equal(got, want) {
		t.Errorf("ReadLabels(%q) = %v, %v; want %v", s, got, ok, want)
	}
}

func TestLabelsAreRecoveredFromTheirTexts(t *testing.T) {
	for _, l := range validLabels() {
		s := labelsText(l)
		if !impl.LabelsOk(l) {
			t.Error("not valid:", l)
		}
		if got := impl.LabelsText(l); got != s {
			t.Errorf("got %q, want %q", got, s)
		}
		wantLabels(t, s, l)
	}
}

func TestInvalidLabels(t *testing.T) {
	for _, l := range invalidLabels() {
		if impl.LabelsOk(l) {
			t.Error("valid:", l)
		}
		if got := impl.LabelsText(l); got != "" {
			t.Errorf("%v: got the text %q", l, got)
		}
		if got := impl.Hash(l); got != -1 {
			t.Errorf("%v: got the hash %d", l, got)
		}
		for _, m := range [][]impl.Match{nil, {{Name: "zone"}}, {{Name: "zone", Val: "b", Not: true}}} {
			if impl.Matches(l, m) {
				t.Error(l, "match", m)
			}
		}
		wantLabels(t, labelsText(l), labelsFrom(labelsText(l)))
	}
}

func TestEveryLetter(t *testing.T) {
	for c := range 256 {
		letter := string([]byte{byte(c)})
		want := strings.Contains("abcdefghijklmnopqrstuvwxyz0123456789_", letter)
		for _, word := range []string{letter, letter + "b", "a" + letter + "b", "a" + letter} {
			for _, x := range []impl.Label{{Name: word, Val: "a"}, {Name: "a", Val: word}} {
				if got := impl.LabelsOk([]impl.Label{x}); got != want {
					t.Errorf("%q: got %v", x, got)
				}
			}
		}
	}
}

func TestNumbersOfLettersAndLabels(t *testing.T) {
	for n := range 30 {
		word, want := strings.Repeat("a", n), n >= 1 && n <= 10
		for _, x := range []impl.Label{{Name: word, Val: "a"}, {Name: "a", Val: word}, {Name: word, Val: word}} {
			if got := impl.LabelsOk([]impl.Label{x}); got != want {
				t.Errorf("%q: got %v", x, got)
			}
		}
		var l []impl.Label
		for i := range n {
			l = append(l, impl.Label{Name: string(rune('0'+i/10)) + string(rune('0'+i%10)), Val: "a"})
		}
		if got, want := impl.LabelsOk(l), n >= 1 && n <= 5; got != want {
			t.Errorf("%d labels: got %v", n, got)
		}
	}
}

func TestTextsThatAreNoLabels(t *testing.T) {
	for _, s := range []string{"", ",", "=", "host", "host=", "=a", "a==1", "a=1=", "a=1=2", "=a=1",
		"a=1,", ",a=1", "a=1,,b=2", "a=1,b", "a=1,b=", "a=1,=b", "a=1,=", "a,b=1", "a=1;b=2", "a=1 ,b=2", "a=1, b=2", " a=1", "a=1 ", "a =1", "a= 1", "a=1\n", "a=1\x00",
		"A=1", "a=B", "a=b c", "a=12345678901", "12345678901=a", "a=1,a=2", "a=1,a=1", "b=1,a=2", "a=1,b=1,a=1", "name=cpu,host=a", "aa=1,a=1", "a=1,_=1",
		"a=1,b=1,c=1,d=1,e=1,f=1", "a=1,b=1,c=1,d=1,e=1,e=1", "a=1,b=1,c=1,d=1,e=1,", "a=1,b=1,c=1,d=1,e=1,a=1", strings.Repeat("a=1,", 1000) + "a=1", strings.Repeat(",", 1000), strings.Repeat("=", 1000), strings.Repeat("a", 100000)} {
		if labelsFrom(s) != nil {
			t.Errorf("%q has labels", s)
		}
		wantLabels(t, s, nil)
	}
}

// TestChangedTexts replaces, inserts and removes letters.
func TestChangedTexts(t *testing.T) {
	const letters = "ab_01,=,=A -.\x00\xff"
	valid := 0
	for _, l := range validLabels() {
		s := labelsText(l)
		for i := range s {
			for j := range letters {
				for _, changed := range []string{s[:i] + letters[j:j+1] + s[i+1:], s[:i] + letters[j:j+1] + s[i:], s[:i] + s[i+1:]} {
					want := labelsFrom(changed)
					wantLabels(t, changed, want)
					if want != nil {
						valid++
					}
				}
			}
		}
	}
	if valid == 0 {
		t.Error("no changed text is valid")
	}
}

// matches is the model of Matches for valid labels.
func matches(l []impl.Label, m []impl.Match) bool {
	for _, x := range m {
		value := ""
		for _, label := range l {
			if label.Name == x.Name {
				value = label.Val
			}
		}
		if value == x.Val && x.Not || value != x.Val && !x.Not {
			return false
		}
	}
	return true
}

func TestMatches(t *testing.T) {
	l := []impl.Label{{Name: "host", Val: "a_1"}, {Name: "name", Val: "cpu"}}
	for i, c := range []struct {
		m    []impl.Match
		want bool
	}{
		{nil, true},
		{[]impl.Match{}, true},
		// A label that there is.
		{[]impl.Match{{Name: "host", Val: "a_1"}}, true},
		{[]impl.Match{{Name: "host", Val: "a_1", Not: true}}, false},
		{[]impl.Match{{Name: "host", Val: "a_2"}}, false},
		{[]impl.Match{{Name: "host", Val: "a_2", Not: true}}, true},
		{[]impl.Match{{Name: "host", Val: "a_"}}, false},
		{[]impl.Match{{Name: "host", Val: "a_11"}}, false},
		{[]impl.Match{{Name: "host", Val: ""}}, false},
		{[]impl.Match{{Name: "host", Val: "", Not: true}}, true},
		// A label that there is not.
		{[]impl.Match{{Name: "zone", Val: ""}}, true},
		{[]impl.Match{{Name: "zone", Val: "", Not: true}}, false},
		{[]impl.Match{{Name: "zone", Val: "b"}}, false},
		{[]impl.Match{{Name: "zone", Val: "b", Not: true}}, true},
		// Words that no valid label can have.
		{[]impl.Match{{}}, true},
		{[]impl.Match{{Not: true}}, false},
		{[]impl.Match{{Name: "A B", Val: ""}}, true},
		{[]impl.Match{{Name: "host", Val: "A B"}}, false},
		{[]impl.Match{{Name: "host", Val: "A B", Not: true}}, true},
		// Several matches, in any order, also for one label.
		{[]impl.Match{{Name: "host", Val: "a_1"}, {Name: "name", Val: "cpu"}}, true},
		{[]impl.Match{{Name: "name", Val: "cpu"}, {Name: "host", Val: "a_1"}}, true},
		{[]impl.Match{{Name: "host", Val: "a_1"}, {Name: "name", Val: "mem"}}, false},
		{[]impl.Match{{Name: "host", Val: "b"}, {Name: "name", Val: "cpu"}}, false},
		{[]impl.Match{{Name: "host", Val: "a_1"}, {Name: "host", Val: "b"}}, false},
		{[]impl.Match{{Name: "host", Val: "a_1"}, {Name: "host", Val: "a_1"}}, true},
		{[]impl.Match{{Name: "host", Val: "b", Not: true}, {Name: "host", Val: "c", Not: true}}, true},
		{[]impl.Match{{Name: "host", Val: "b", Not: true}, {Name: "host", Val: "a_1", Not: true}}, false},
		{slices.Repeat([]impl.Match{{Name: "host", Val: "a_1"}}, 1000), true},
		{append(slices.Repeat([]impl.Match{{Name: "host", Val: "a_1"}}, 1000), impl.Match{Name: "zone", Not: true}), false},
	} {
		if got := impl.Matches(l, c.m); got != c.want || matches(l, c.m) != c.want {
			t.Error("case", i, got)
		}
	}
}

func randomMatches(r *rand.Rand, l []impl.Label) []impl.Match {
	var m []impl.Match
	for range r.IntN(4) {
		x := l[r.IntN(len(l))]
		if r.IntN(3) == 0 {
			x.Name = pick(r, "ab_01", 2)
		}
		if r.IntN(3) == 0 {
			x.Val = []string{"", "a", x.Name}[r.IntN(3)]
		}
		m = append(m, impl.Match{Name: x.Name, Val: x.Val, Not: r.IntN(3) == 0})
	}
	return m
}

func TestMatchesOfTwoLists(t *testing.T) {
	r := numbers()
	seen := map[bool]int{}
	for range 50 {
		for _, l := range validLabels() {
			one, two := randomMatches(r, l), randomMatches(r, l)
			both := impl.Matches(l, slices.Concat(one, two))
			seen[both]++
			if both != (impl.Matches(l, one) && impl.Matches(l, two)) || both != matches(l, slices.Concat(one, two)) {
				t.Fatal(l, one, two, both)
			}
		}
	}
	if seen[true] < 100 || seen[false] < 100 {
		t.Error("few cases of one kind:", seen)
	}
}

func TestHashes(t *testing.T) {
	high := 0
	for _, l := range validLabels() {
		h := fnv.New64a()
		h.Write([]byte(labelsText(l)))
		want := int64(h.Sum64() & 0xffffffff)
		if got := impl.Hash(l); got != want {
			t.Errorf("%v: got %d, want %d", l, got, want)
		}
		if want >= 1<<31 {
			high++
		}
	}
	if high == 0 {
		t.Error("no hash uses all 32 bits")
	}
}

func TestLabelsAreNotModified(t *testing.T) {
	for _, labels := range [][]impl.Label{nil, {{Name: "a", Val: "1"}, {Name: "b", Val: "2"}}, {{Name: "b", Val: "1"}, {Name: "a", Val: "2"}}} {
		l, unchanged := withSpare(labels, impl.Label{Name: "x", Val: "7"}, impl.Label{Name: "y", Val: "8"})
		m, unchangedToo := withSpare([]impl.Match{{Name: "b", Val: "1"}, {Name: "a", Val: "2", Not: true}}, impl.Match{Name: "z"})
		for range 2 {
			impl.LabelsOk(l)
			impl.LabelsText(l)
			impl.Matches(l, m)
			impl.Hash(l)
		}
		if !unchanged() || !unchangedToo() {
			t.Error(labels)
		}
	}
	one, _ := impl.ReadLabels("a=1,b=2")
	two, _ := impl.ReadLabels("a=1,b=2")
	one[0].Val = "77"
	if labelsText(two) != "a=1,b=2" {
		t.Error("shared memory", two)
	}
}

func TestLabelsExamples(t *testing.T) {
	if l, ok := impl.ReadLabels("host=a_1,name=cpu"); !ok || len(l) != 2 {
		t.Error(l, ok)
	}
	if l, ok := impl.ReadLabels("name=cpu,host=a"); ok || len(l) != 0 {
		t.Error(l, ok)
	}
}
