package edit

import (
	"math"
	"slices"
	"strconv"
	"strings"
	"sync"
	"testing"
	"unicode/utf8"
)

// short: of a long text the beginning is enough.
func short(s string) string {
	return strconv.Quote(s[:min(len(s), 60)]) + " (" + strconv.Itoa(len(s)) + " bytes)"
}

func wantDistance(t *testing.T, a, b string, want int) {
	t.Helper()
	if n, ok := Distance(a, b); !ok || n != want {
		t.Errorf("P10.1: Distance(%s, %s) = %d, %t, want %d, true", short(a), short(b), n, ok, want)
	}
}

func wantWithin(t *testing.T, a, b string, most int, want bool) {
	t.Helper()
	if got := Within(a, b, most); got != want {
		t.Errorf("P10.2: Within(%s, %s, %d) = %t, want %t", short(a), short(b), most, got, want)
	}
}

// oneEdit tells whether b is a with one rune put in, taken out, or put in another one's place.
func oneEdit(a, b []rune) bool {
	if len(a) > len(b) {
		return oneEdit(b, a)
	}
	n := 0
	for n < len(a) && a[n] == b[n] {
		n++
	}
	switch len(b) - len(a) {
	case 0:
		return n < len(a) && slices.Equal(a[n+1:], b[n+1:])
	case 1:
		return slices.Equal(a[n:], b[n+1:])
	}
	return false
}

// wantPath holds a path of so many edits against what P10.3 asks of any of them.
func wantPath(t *testing.T, a, b string, edits int) {
	t.Helper()
	l, ok := Path(a, b)
	if !ok || len(l) != edits+1 {
		t.Errorf("P10.3: Path(%s, %s) has %d texts, %t, want %d, true", short(a), short(b), len(l), ok, edits+1)
		return
	}
	if l[0] != a || l[edits] != b {
		t.Errorf("P10.3: Path(%s, %s) goes from %s to %s", short(a), short(b), short(l[0]), short(l[edits]))
	}
	for i := 1; i < len(l); i++ {
		if !utf8.ValidString(l[i]) || !oneEdit([]rune(l[i-1]), []rune(l[i])) {
			t.Errorf("P10.3: Path(%s, %s): %s and %s are not one edit apart", short(a), short(b), short(l[i-1]), short(l[i]))
		}
	}
}

// wantTold holds all three calls against the distance.
func wantTold(t *testing.T, a, b string, want int) {
	t.Helper()
	wantDistance(t, a, b, want)
	for _, most := range []int{math.MinInt, -1, want - 1} {
		wantWithin(t, a, b, most, false)
	}
	for _, most := range []int{want, want + 1, math.MaxInt} {
		wantWithin(t, a, b, most, true)
	}
	wantPath(t, a, b, want)
}

// wantNothing: of one of both nothing is told, so that nothing is told of both.
func wantNothing(t *testing.T, a, b string) {
	t.Helper()
	if n, ok := Distance(a, b); ok || n != 0 {
		t.Errorf("P10.1: Distance(%s, %s) = %d, %t, want 0, false", short(a), short(b), n, ok)
	}
	for _, most := range []int{math.MinInt, -1, 0, 1, mostRunes, math.MaxInt} {
		wantWithin(t, a, b, most, false)
	}
	if l, ok := Path(a, b); ok || len(l) != 0 {
		t.Errorf("P10.3: Path(%s, %s) has %d texts, %t, want none, false", short(a), short(b), len(l), ok)
	}
}

// P10.1 to P10.3: the chapter's examples.
func TestChapter(t *testing.T) {
	wantTold(t, "kitten", "sitting", 3)
	wantTold(t, "", "ab", 2)
	wantTold(t, "été", "ete", 2)
	wantWithin(t, "ab", "ba", 1, false)
	wantWithin(t, "ab", "ba", 2, true)
	wantNothing(t, "\xff", "")
}

// P10.1 to P10.3: ordinary words, counted by hand.
func TestByHand(t *testing.T) {
	for _, x := range []struct {
		a, b string
		n    int
	}{
		{"", "", 0}, {"a", "", 1}, {"a", "a", 0}, {"a", "b", 1}, {"a", "ab", 1}, {"a", "ba", 1},
		{"ab", "ba", 2}, {"abc", "acb", 2}, {"abcd", "bcde", 2}, {"abc", "xyz", 3}, {"abcdef", "ace", 3},
		{"saturday", "sunday", 3}, {"flaw", "lawn", 2}, {"intention", "execution", 5}, {"gumbo", "gambol", 2},
		{"book", "back", 2}, {"abecedary", "abecedarium", 3}, {"aaaa", "aa", 2}, {"abab", "baba", 2},
	} {
		wantTold(t, x.a, x.b, x.n)
		wantTold(t, x.b, x.a, x.n)
	}
}

// P10.1: runes count, not bytes; one rune is not nearer to another one because their bytes are.
func TestRunesCount(t *testing.T) {
	wantTold(t, "é", "", 1)
	wantTold(t, "é", "e", 1)
	wantTold(t, "é", "ê", 1)
	wantTold(t, "é", "\u0929", 1)
	wantTold(t, "€", "a", 1)
	wantTold(t, "€uro", "euro", 1)
	wantTold(t, "\U0010ffff\U00010000", "\U00010000", 1)
	wantTold(t, "aé", "éa", 2)
	wantTold(t, "e\u0301", "é", 2)
}

// P10.1: texts need not be words: any rune may stand in them, and more of them than in a word.
func TestTextsThatAreNoWords(t *testing.T) {
	wantTold(t, "a b", "ab", 1)
	wantTold(t, "\x00", "", 1)
	wantTold(t, "\x00\x00", "\x00", 1)
	wantTold(t, "\x7f\n", " \t", 2)
	wantTold(t, "\ufffd", "\ufeff", 1)
	wantTold(t, strings.Repeat("ab", 30), strings.Repeat("ab", 31), 2)
	wantTold(t, strings.Repeat("a", 25), strings.Repeat("b", 26), 26)
}

// unwritten are bytes that are no writing.
func unwritten() []string {
	return []string{
		"\xff", "\x80", "\xbf", "\xc0\x80", "\xc1\xbf", "\xe0\x80\x80", "\xed\xa0\x80", "\xed\xbf\xbf",
		"\xf0\x80\x80\x80", "\xf4\x90\x80\x80", "\xc3", "\xe2\x82", "\xf0\x9f\x98", "\xc3\x28", "\xf8\x88\x80\x80\x80",
	}
}

// P10.1 to P10.3: what is no writing, in the place of each of both, wherever its wrong bytes stand.
func TestNoWriting(t *testing.T) {
	for _, bad := range unwritten() {
		for _, s := range []string{bad, bad + "ab", "ab" + bad, "a" + bad + "b", strings.Repeat("a", mostRunes) + bad} {
			for _, good := range []string{"", "ab", "été", strings.Repeat("a", mostRunes)} {
				wantNothing(t, s, good)
				wantNothing(t, good, s)
			}
			wantNothing(t, s, s)
			wantNothing(t, s, unwritten()[0])
		}
	}
}

// P10.1 to P10.3: 1024 runes are told of, however many bytes they have, and 1025 are not.
func TestMostRunes(t *testing.T) {
	for _, r := range []string{"a", "é", "€", "\U0010ffff"} {
		most, more := strings.Repeat(r, 1024), strings.Repeat(r, 1025)
		wantTold(t, most, "", 1024)
		wantTold(t, "", most, 1024)
		wantTold(t, most, most, 0)
		wantTold(t, most, strings.Repeat("x", 1024), 1024)
		wantTold(t, most, most[len(r):], 1)
		for _, s := range []string{"", r, most, more, "\xff"} {
			wantNothing(t, more, s)
			wantNothing(t, s, more)
		}
	}
	wantNothing(t, strings.Repeat("\U0010ffff", 1024)+"a", "")
	wantNothing(t, "", strings.Repeat("a", 4096))
	wantNothing(t, strings.Repeat("a", 4097), "a")
	wantNothing(t, "a", strings.Repeat("é", 1<<23))
}

// P10.3: nothing would be told of a text on the way that is longer than 1024 runes, also where both ends are as long as that.
func TestPathIsToldOf(t *testing.T) {
	rest := strings.Repeat("abc", 341)
	for _, x := range [][2]string{
		{"x" + rest, rest + "z"},
		{rest + "z", "x" + rest},
		{"xy" + rest[1:], rest[1:] + "zz"},
		{rest[:500] + "é" + rest[500:], "é" + rest},
	} {
		if utf8.RuneCountInString(x[0]) != 1024 || utf8.RuneCountInString(x[1]) != 1024 {
			t.Fatal("the ends are not as long as may be")
		}
		l, ok := Path(x[0], x[1])
		if !ok || len(l) < 3 {
			t.Errorf("P10.3: a path of %d texts, %t", len(l), ok)
		}
		for i := 1; i < len(l); i++ {
			wantDistance(t, l[i-1], l[i], 1)
		}
	}
}

// R6, R7: what is told is the caller's own, and is told again.
func TestPathIsTheCallersOwn(t *testing.T) {
	first, _ := Path("kitten", "sitting")
	want := slices.Clone(first)
	for i := range first[:cap(first)] {
		first[:cap(first)][i] = "spoilt"
	}
	again, ok := Path("kitten", "sitting")
	if !ok || !slices.Equal(again, want) {
		t.Errorf("R6: Path tells %q behind a change of what it told, and %q ahead", again, want)
	}
}

// R7: nothing is kept from call to call, so many may ask at once.
func TestManyAtOnce(t *testing.T) {
	var all sync.WaitGroup
	for n := range 8 {
		all.Go(func() {
			a, b := strings.Repeat("a", n)+"kitten", "sitting"+strings.Repeat("b", n)
			want := slow([]rune(a), []rune(b))
			for range 200 {
				wantTold(t, a, b, want)
			}
		})
	}
	all.Wait()
}

// The way: rows lie one behind the other in one memory, and what is laid behind one is not written into the next.
func TestRowsKeepToThemselves(t *testing.T) {
	l := rows(3, 2)
	for i := range l {
		l[i] = append(l[i], 10*i, 10*i+1)
	}
	for i := range l {
		l[i] = append(l[i], -1)
	}
	for i, row := range l {
		if want := []int{10 * i, 10*i + 1, -1}; !slices.Equal(row, want) {
			t.Errorf("row %d: %v, want %v", i, row, want)
		}
	}
}
