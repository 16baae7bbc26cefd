package lev

import (
	"math"
	"strconv"
	"strings"
	"sync"
	"testing"

	"abecedary/api"
)

// made is the automaton of a word.
func made(t *testing.T, word string, edits int) *Lev {
	t.Helper()
	l, e := New(word, edits)
	if e != api.OK || l == nil {
		t.Fatalf("P11.1: New(%q, %d) = %v, %d, want an automaton and 0", word, edits, l, e)
	}
	return l
}

func wantRefused(t *testing.T, word string, edits int) {
	t.Helper()
	if l, e := New(word, edits); e != api.ErrLevForm || l != nil {
		t.Errorf("P11.1: New(%q, %d) = %v, %d, want nothing and %d", word, edits, l, e, api.ErrLevForm)
	}
}

func wantRow(t *testing.T, what string, got, want api.Row) {
	t.Helper()
	if got != want {
		t.Errorf("P11.2: %s = %v, want %v", what, got, want)
	}
}

func wantDist(t *testing.T, l *Lev, s api.Row, want int, ok bool) {
	t.Helper()
	if n, told := l.Dist(s); n != want || told != ok {
		t.Errorf("P11.3: of %q: Dist(%v) = %d, %t, want %d, %t", string(l.word), s, n, told, want, ok)
	}
}

func wantAlive(t *testing.T, l *Lev, s api.Row, want bool) {
	t.Helper()
	if got := l.Alive(s); got != want {
		t.Errorf("P11.3: of %q: Alive(%v) = %t, want %t", string(l.word), s, got, want)
	}
}

// read is the Row behind Start and a Step for each rune of the text.
func read(l *Lev, text string) api.Row {
	s := l.Start()
	for _, r := range text {
		s = l.Step(s, r)
	}
	return s
}

// P11.1 to P11.3: the chapter's examples.
func TestChapter(t *testing.T) {
	l := made(t, "ab", 1)
	s := l.Start()
	wantRow(t, "Start", s, api.Row{0, 1, 2})
	s = l.Step(s, 'b')
	wantRow(t, "Step by b", s, api.Row{1, 1, 1})
	wantDist(t, l, s, 1, true)
	wantAlive(t, l, s, true)
	s = l.Step(s, 'x')
	wantRow(t, "Step by x", s, api.Row{2, 2, 2})
	wantDist(t, l, s, 0, false)
	wantAlive(t, l, s, false)
}

// P11.1: each number of runes and of their bytes that a word may have, with each number of edits.
func TestNewTakesWords(t *testing.T) {
	for _, r := range []string{"!", "a", "~", "\u0080", "é", "€", "\uffff", "\U00010000", "\U0010ffff"} {
		for n := 1; n <= api.MaxRunes; n++ {
			for d := range api.MaxEdits + 1 {
				l := made(t, strings.Repeat(r, n), d)
				wantDist(t, l, read(l, strings.Repeat(r, n)), 0, true)
			}
		}
	}
}

// P11.1: texts that are no words, whatever the edits are.
func TestNewRefusesWords(t *testing.T) {
	bad := []string{
		"", " ", "a b", "a ", " a", "\x00", "a\x00", "\n", "\t", "\x1f", "\x7f", "a\x7fb",
		"\xff", "\x80", "\xc0\x80", "\xed\xa0\x80", "\xf4\x90\x80\x80", "a\xc3", "ab\xe2\x82",
		strings.Repeat("a", api.MaxRunes) + " ", strings.Repeat("a", 1<<16),
	}
	for _, r := range []string{"a", "é", "€", "\U0010ffff"} {
		bad = append(bad, strings.Repeat(r, api.MaxRunes+1))
	}
	for _, word := range bad {
		for edits := -1; edits <= api.MaxEdits+1; edits++ {
			wantRefused(t, word, edits)
		}
	}
}

// P11.1: edits that are not 0 to MaxEdits, also those whose last eight bits would be.
func TestNewRefusesEdits(t *testing.T) {
	for _, edits := range []int{-1, -2, 4, 5, 255, 256, 257, 259, -255, -256, 1 << 16, 1 << 32, 1<<32 + 1, math.MaxInt, math.MinInt} {
		wantRefused(t, "a", edits)
		wantRefused(t, strings.Repeat("é", api.MaxRunes), edits)
	}
}

// P11.2: Start, written out.
func TestStart(t *testing.T) {
	for _, x := range []struct {
		word  string
		edits int
		want  api.Row
	}{
		{"a", 0, api.Row{0, 1}},
		{"a", 3, api.Row{0, 1}},
		{"ab", 0, api.Row{0, 1, 1}},
		{"abcdef", 0, api.Row{0, 1, 1, 1, 1, 1, 1}},
		{"abcdef", 1, api.Row{0, 1, 2, 2, 2, 2, 2}},
		{"abcdef", 2, api.Row{0, 1, 2, 3, 3, 3, 3}},
		{"abcdef", 3, api.Row{0, 1, 2, 3, 4, 4, 4}},
		{"été", 3, api.Row{0, 1, 2, 3}},
		{strings.Repeat("é", 24), 3, api.Row{0, 1, 2, 3, 4, 4, 4, 4, 4, 4, 4, 4, 4, 4, 4, 4, 4, 4, 4, 4, 4, 4, 4, 4, 4}},
	} {
		l := made(t, x.word, x.edits)
		wantRow(t, "Start of "+strconv.Quote(x.word), l.Start(), x.want)
	}
}

// P11.2: Rows by hand: each of the ways in which a number may be the least one.
func TestStep(t *testing.T) {
	for _, x := range []struct {
		word  string
		edits int
		from  api.Row
		r     rune
		want  api.Row
	}{
		{"ab", 3, api.Row{0, 1, 2}, 'a', api.Row{1, 0, 1}},
		{"ab", 3, api.Row{1, 0, 1}, 'b', api.Row{2, 1, 0}},
		{"ab", 3, api.Row{0, 1, 2}, 'x', api.Row{1, 1, 2}},
		{"ab", 3, api.Row{2, 1, 0}, 'x', api.Row{3, 2, 1}},
		{"aa", 3, api.Row{0, 1, 2}, 'a', api.Row{1, 0, 1}},
		{"aa", 3, api.Row{1, 0, 1}, 'a', api.Row{2, 1, 0}},
		{"abc", 3, api.Row{3, 3, 3, 3}, 'x', api.Row{4, 4, 4, 4}},
		{"abc", 3, api.Row{3, 3, 3, 3}, 'c', api.Row{4, 4, 4, 3}},
		{"abc", 2, api.Row{2, 2, 2, 2}, 'a', api.Row{3, 2, 3, 3}},
		{"abc", 0, api.Row{0, 1, 1, 1}, 'a', api.Row{1, 0, 1, 1}},
		{"abc", 0, api.Row{1, 0, 1, 1}, 'b', api.Row{1, 1, 0, 1}},
		{"abc", 0, api.Row{1, 0, 1, 1}, 'c', api.Row{1, 1, 1, 1}},
		{"é", 1, api.Row{0, 1}, 'e', api.Row{1, 1}},
		{"é", 1, api.Row{0, 1}, 0xe9, api.Row{1, 0}},
		{"\U0010ffff", 1, api.Row{0, 1}, 0x10ffff, api.Row{1, 0}},
	} {
		l := made(t, x.word, x.edits)
		wantRow(t, "Step by "+strconv.QuoteRune(x.r)+" of "+strconv.Quote(x.word), l.Step(x.from, x.r), x.want)
	}
}

// P11.2: a Row that no call told: too great numbers count as d + 1, and have no 1 more; what is behind the word is not looked at, and not told.
func TestStepOfAnyRow(t *testing.T) {
	l := made(t, "ab", 1)
	wantRow(t, "Step", l.Step(api.Row{255, 0, 255, 9}, 'b'), api.Row{2, 1, 0})
	wantRow(t, "Step", l.Step(api.Row{255, 255, 255}, 'a'), api.Row{2, 2, 2})
	wantRow(t, "Step", l.Step(api.Row{254, 253, 3}, 'b'), api.Row{2, 2, 2})
	wantRow(t, "Step", l.Step(api.Row{0, 0, 0}, 'x'), api.Row{1, 1, 1})
	wantRow(t, "Step", l.Step(api.Row{0, 0, 0}, 'b'), api.Row{1, 1, 0})
	wantRow(t, "Step", l.Step(api.Row{}, 'a'), api.Row{1, 0, 1})
	full := api.Row{}
	for j := range full {
		full[j] = 255
	}
	wantRow(t, "Step", l.Step(full, 'a'), api.Row{2, 2, 2})
	full[24] = 0
	long := made(t, strings.Repeat("a", 23)+"b", 3)
	full[23] = 2
	want := api.Row{}
	for j := range 23 {
		want[j] = 4
	}
	want[23], want[24] = 3, 1
	wantRow(t, "Step", long.Step(full, 'x'), want)
}

// P11.2: what is no rune of the word is none of its runes, also where it is no rune.
func TestStepByAnyRune(t *testing.T) {
	word := "aé€\U0010ffff"
	l := made(t, word, 3)
	for _, r := range []rune{0, -1, 32, 127, 0xd800, 0xdfff, 0x110000, math.MaxInt32, math.MinInt32, 'a' + 256, 'a' + 1<<16, 'a' - 1<<31, 0xfffd} {
		wantRow(t, "Step by "+strconv.Itoa(int(r)), l.Step(l.Start(), r), api.Row{1, 1, 2, 3, 4})
	}
	// A rune that a text has where it is no word is read like others.
	wantDist(t, l, read(l, "a é€\U0010ffff"), 1, true)
	wantDist(t, l, read(l, "aé€\x00"), 1, true)
}

// P11.3: each number that counts, at the last value that is near and at the first that is too far.
func TestDistAndAlive(t *testing.T) {
	for n := 1; n <= api.MaxRunes; n++ {
		for d := range api.MaxEdits + 1 {
			l := made(t, strings.Repeat("a", n), d)
			near, far := uint8(d), uint8(d+1)
			var dead api.Row // what is 0 behind the word is no life
			for j := range n + 1 {
				dead[j] = far
			}
			wantAlive(t, l, dead, false)
			wantDist(t, l, dead, 0, false)
			for j := range n + 1 {
				for v := range 256 {
					s := dead
					s[j] = uint8(v)
					wantAlive(t, l, s, uint8(v) <= near)
					if j == n && uint8(v) <= near {
						wantDist(t, l, s, v, true)
					} else {
						wantDist(t, l, s, 0, false)
					}
				}
			}
			for j := range dead {
				dead[j] |= 128
			}
			wantAlive(t, l, dead, false)
			wantDist(t, l, dead, 0, false)
		}
	}
}

// P11.3: Dist tells of the whole word alone, Alive of each beginning of it.
func TestAliveWithoutDist(t *testing.T) {
	l := made(t, "abcde", 1)
	wantDist(t, l, read(l, "abc"), 0, false)
	wantAlive(t, l, read(l, "abc"), true)
	wantDist(t, l, read(l, "abcd"), 1, true)
	wantDist(t, l, read(l, "abcde"), 0, true)
	wantDist(t, l, read(l, "abcdef"), 1, true)
	wantAlive(t, l, read(l, "abcdef"), true)
	wantDist(t, l, read(l, "abcdefg"), 0, false)
	wantAlive(t, l, read(l, "abcdefg"), false)
	wantDist(t, l, read(l, ""), 0, false)
	wantAlive(t, l, read(l, ""), true)
	short := made(t, "a", 1)
	wantDist(t, short, read(short, ""), 1, true)
}

// P11.4: the distances that chapter 10 and the whole tell of.
func TestReadsNearWords(t *testing.T) {
	kitten := made(t, "kitten", 3)
	wantDist(t, kitten, read(kitten, "sitting"), 3, true)
	less := made(t, "kitten", 2)
	wantDist(t, less, read(less, "sitting"), 0, false)
	summer := made(t, "été", 2)
	wantDist(t, summer, read(summer, "ete"), 2, true)
	wantDist(t, summer, read(summer, "té"), 1, true)
}

// R5, R6: an automaton does not hang on another one, nor on what was asked ahead, nor on what is done to a Row that it told.
func TestNothingIsShared(t *testing.T) {
	a, b := made(t, "ab", 1), made(t, "xyz", 3)
	s := a.Start()
	given := s
	first := a.Step(s, 'a')
	if s != given {
		t.Errorf("R5: Step made %v of %v", s, given)
	}
	for j := range s {
		s[j] = 77
	}
	b.Step(s, 'x')
	a.Alive(s)
	a.Dist(s)
	if s[0] != 77 || s[24] != 77 {
		t.Errorf("R5: a Row was written into: %v", s)
	}
	wantRow(t, "Start", a.Start(), api.Row{0, 1, 2})
	wantRow(t, "Start", b.Start(), api.Row{0, 1, 2, 3})
	wantRow(t, "Step", a.Step(a.Start(), 'a'), first)
}

// R7: many may ask one automaton at once.
func TestManyAtOnce(t *testing.T) {
	l := made(t, "abecedary", 3)
	var all sync.WaitGroup
	for range 8 {
		all.Go(func() {
			for range 500 {
				wantDist(t, l, read(l, "abecedarium"), 3, true)
				wantAlive(t, l, read(l, "xxxxabecedary"), false)
			}
		})
	}
	all.Wait()
}
