package lev

import (
	"math/rand"
	"slices"
	"strings"
	"testing"
	"unicode/utf8"

	"abecedary/api"
	"abecedary/edit"
)

// everyText has all texts of up to n of those runes, the shorter ones first.
func everyText(n int, alphabet []rune) []string {
	all := []string{""}
	last := all
	for range n {
		var longer []string
		for _, s := range last {
			for _, r := range alphabet {
				longer = append(longer, s+string(r))
			}
		}
		all = append(all, longer...)
		last = longer
	}
	return all
}

// far is the distance of both texts as layer 10 tells it, or edits + 1, if it is greater.
func far(t *testing.T, a, b string, edits int) int {
	t.Helper()
	n, ok := edit.Distance(a, b)
	if !ok {
		t.Fatalf("nothing is told of %q and %q", a, b)
	}
	return min(n, edits+1)
}

// model is the Row behind the text by the distances themselves.
func model(t *testing.T, word, text string, edits int) api.Row {
	t.Helper()
	var s api.Row
	runes := []rune(word)
	for j := range len(runes) + 1 {
		s[j] = uint8(far(t, text, string(runes[:j]), edits))
	}
	return s
}

// wantRead holds what is behind a text against the distances.
func wantRead(t *testing.T, l *Lev, word, text string, edits int) {
	t.Helper()
	s := read(l, text)
	if want := model(t, word, text, edits); s != want {
		t.Errorf("P11.4: of %q, %d: behind %q %v, want %v", word, edits, text, s, want)
	}
	n, ok := l.Dist(s)
	want, _ := edit.Distance(word, text)
	if ok != (want <= edits) || ok && n != want || !ok && n != 0 {
		t.Errorf("P11.4: of %q, %d: Dist behind %q is %d, %t, and the distance %d", word, edits, text, n, ok, want)
	}
}

// P11.4: all short words, and all short texts, one of whose runes no word has.
func TestAllShortTexts(t *testing.T) {
	for _, x := range []struct {
		word, text int
		alphabet   []rune
	}{{4, 6, []rune{'a', 'b'}}, {3, 4, []rune{'a', 'é', 0x10000}}} {
		texts := everyText(x.text, append(slices.Clone(x.alphabet), ' '))
		for _, word := range everyText(x.word, x.alphabet)[1:] {
			for edits := range api.MaxEdits + 1 {
				l := made(t, word, edits)
				for _, text := range texts {
					wantRead(t, l, word, text, edits)
				}
			}
		}
	}
}

// alphabets: few runes, more, and those of all sizes.
func alphabets() [][]rune {
	return [][]rune{
		{'a', 'b'},
		{'a', 'b', 'c', 'd', 'e', 'f'},
		{'a', '!', '~', 0x80, 0x7ff, 0x800, 0xd7ff, 0xe000, 0xffff, 0x10000, 0x10ffff},
	}
}

func drawn(r *rand.Rand, alphabet []rune, n int) []rune {
	var l []rune
	for range n {
		l = append(l, alphabet[r.Intn(len(alphabet))])
	}
	return l
}

// changed is l behind so many drawn edits.
func changed(r *rand.Rand, alphabet, l []rune, edits int) []rune {
	l = slices.Clone(l)
	for range edits {
		i := r.Intn(len(l) + 1)
		switch c := drawn(r, alphabet, 1); {
		case r.Intn(3) == 0 || i == len(l):
			l = slices.Insert(l, i, c...)
		case r.Intn(2) == 0:
			l = slices.Delete(l, i, i+1)
		default:
			l[i] = c[0]
		}
	}
	return l
}

// P11.4: drawn words of each length, and texts near to them and far, also those that are longer than a word may be.
func TestDrawnTexts(t *testing.T) {
	r := rand.New(rand.NewSource(11))
	near, not := 0, 0
	for round := range 4000 {
		alphabet := alphabets()[round%3]
		word := drawn(r, alphabet, 1+r.Intn(api.MaxRunes))
		text := changed(r, alphabet, word, r.Intn(6))
		if round%4 == 0 {
			text = drawn(r, alphabet, r.Intn(60))
		}
		for edits := range api.MaxEdits + 1 {
			l := made(t, string(word), edits)
			wantRead(t, l, string(word), string(text), edits)
			if edit.Within(string(word), string(text), edits) {
				near++
			} else {
				not++
			}
		}
	}
	if near < 3000 || not < 3000 {
		t.Errorf("the texts show too little: %d near, %d not", near, not)
	}
}

// literal is a Step as P11.2 says it, in greater numbers.
func literal(word []rune, edits int, s api.Row, r rune) api.Row {
	at := func(j int) int { return min(int(s[j]), edits+1) }
	var next api.Row
	next[0] = uint8(min(at(0)+1, edits+1))
	for j := 1; j <= len(word); j++ {
		across := at(j - 1)
		if word[j-1] != r {
			across++
		}
		next[j] = uint8(min(across, at(j)+1, int(next[j-1])+1, edits+1))
	}
	return next
}

// drawnRow has any numbers, also behind the word: small ones, or those of all sizes.
func drawnRow(r *rand.Rand) api.Row {
	var s api.Row
	most := 2 + r.Intn(6)
	if r.Intn(3) == 0 {
		most = 256
	}
	for j := range s {
		s[j] = uint8(r.Intn(most))
	}
	return s
}

// P11.2, P11.3: Rows that no text leads to, held against the words of the chapter.
func TestAnyRows(t *testing.T) {
	r := rand.New(rand.NewSource(25))
	lives := map[[2]bool]int{}
	for round := range 40000 {
		alphabet := alphabets()[round%3]
		word := drawn(r, alphabet, 1+r.Intn(api.MaxRunes))
		edits := r.Intn(api.MaxEdits + 1)
		l := made(t, string(word), edits)
		s := drawnRow(r)
		c := drawn(r, alphabet, 1)[0]
		wantRow(t, "Step", l.Step(s, c), literal(word, edits, s, c))
		alive := slices.Min(s[:len(word)+1]) <= uint8(edits)
		wantAlive(t, l, s, alive)
		last := int(s[len(word)])
		if last <= edits {
			wantDist(t, l, s, last, true)
		} else {
			wantDist(t, l, s, 0, false)
		}
		lives[[2]bool{alive, last <= edits}]++
	}
	if len(lives) != 3 || lives[[2]bool{false, false}] < 1000 {
		t.Errorf("the Rows show too little: %v", lives)
	}
}

// P11.5: what is not Alive is never Alive again: behind all short texts, and from Rows that no text leads to.
func TestDeadStaysDead(t *testing.T) {
	r := rand.New(rand.NewSource(5))
	follow := everyText(4, []rune{'a', 'b', 'x'})
	for _, word := range []string{"a", "ab", "aab", "abab", "babba", strings.Repeat("ab", 12)} {
		for edits := range api.MaxEdits + 1 {
			l := made(t, word, edits)
			dead := []api.Row{read(l, "xxxxxxx"), read(l, strings.Repeat("x", 60))}
			for range 100 {
				s := drawnRow(r)
				for j := range utf8.RuneCountInString(word) + 1 {
					s[j] = max(s[j], uint8(edits+1))
				}
				dead = append(dead, s)
			}
			for _, s := range dead {
				wantNeverAlive(t, l, s, follow)
				wantNeverAlive(t, l, s, []string{word, "b" + word, word + word})
			}
		}
	}
}

func wantNeverAlive(t *testing.T, l *Lev, s api.Row, follow []string) {
	t.Helper()
	for _, text := range follow {
		next := s
		wantAlive(t, l, next, false)
		for _, c := range text {
			next = l.Step(next, c)
			wantAlive(t, l, next, false)
			wantDist(t, l, next, 0, false)
		}
	}
}

// P11.5: as long as a text is Alive something near may follow; behind one that is not nothing does.
func TestAliveIsWhereSomethingNearFollows(t *testing.T) {
	alphabet := []rune{'a', 'b', 'x'}
	follow := everyText(4, alphabet)
	for _, word := range []string{"a", "ab", "baa", "abab"} {
		for edits := range 3 {
			l := made(t, word, edits)
			for _, text := range everyText(5, alphabet) {
				near := slices.ContainsFunc(follow, func(more string) bool { return edit.Within(word, text+more, edits) })
				if got := l.Alive(read(l, text)); got != near {
					t.Errorf("P11.5: of %q, %d: Alive behind %q is %t, and that something near follows %t", word, edits, text, got, near)
				}
			}
		}
	}
}

// P11.5: two texts that lead to one Row are alike for all that may follow.
func TestTextsOfOneRowAreAlike(t *testing.T) {
	alphabet := []rune{'a', 'b', 'x'}
	follow := everyText(3, alphabet)
	shared := 0
	for _, word := range []string{"ab", "aba", "baab"} {
		for edits := range 3 {
			l := made(t, word, edits)
			first := map[api.Row]string{}
			for _, text := range everyText(5, alphabet) {
				s := read(l, text)
				other, ok := first[s]
				if !ok {
					first[s] = text
					continue
				}
				shared++
				for _, more := range follow {
					a, b := far(t, word, text+more, edits), far(t, word, other+more, edits)
					if a != b || read(l, text+more) != read(l, other+more) {
						t.Errorf("P11.5: of %q, %d: %q and %q lead to one Row, but with %q behind them they are %d and %d far", word, edits, text, other, more, a, b)
					}
				}
			}
		}
	}
	if shared < 1000 {
		t.Errorf("the texts show too little: %d share a Row", shared)
	}
}
