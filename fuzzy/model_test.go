package fuzzy

import (
	"math/rand"
	"slices"
	"sort"
	"strconv"
	"testing"

	"abecedary/api"
	"abecedary/edit"
	"abecedary/letters"
	"abecedary/pairs"
)

// modelAll is P12.1 by going through all pairs.
func modelAll(l []api.Pair, word string, edits int) []api.Match {
	var found []api.Match
	for _, p := range l {
		if n, ok := edit.Distance(p.Word, word); ok && n <= edits {
			found = append(found, hit(p.Word, p.Weight, n))
		}
	}
	return found
}

// modelMerge is P12.2 as the chapter says it: each change is looked at, one behind the other.
func modelMerge(l []api.Match, over []api.Pair, word string, edits int) []api.Match {
	l = slices.Clone(l)
	for _, p := range pairs.Norm(over) {
		l = slices.DeleteFunc(l, func(m api.Match) bool { return m.Word == p.Word })
		if n, ok := edit.Distance(p.Word, word); p.Weight > 0 && letters.Word(p.Word) && ok && n <= edits {
			l = append(l, hit(p.Word, p.Weight, n))
		}
	}
	sort.SliceStable(l, func(i, j int) bool { return l[i].Word < l[j].Word })
	return l
}

// everyText has all texts of 1 to n of those runes.
func everyText(n int, alphabet ...rune) []string {
	var all []string
	last := []string{""}
	for range n {
		var longer []string
		for _, s := range last {
			for _, r := range alphabet {
				longer = append(longer, s+string(r))
			}
		}
		all = append(all, longer...)
		last = longer
	}
	return all
}

// tally counts how far what was found is, so that a test can tell whether it shows enough.
type tally [api.MaxEdits + 1]int

func (n *tally) add(l []api.Match) {
	for _, m := range l {
		n[m.Dist]++
	}
}

func (n *tally) check(t *testing.T, least int) {
	t.Helper()
	for dist, k := range n {
		if k < least {
			t.Errorf("the words show too little: %d at the distance %d", k, dist)
		}
	}
}

// P12.1, P12.4: all dictionaries of some words, asked for all short words of their runes and of another one.
func TestAllSmallDictionaries(t *testing.T) {
	pool := []string{"a", "aa", "aab", "aé", "b", "baé", "bb", "é", "ébba"}
	words := everyText(4, 'a', 'b', 'é')
	words = append(words, "x", "ax", "axb", "xxaxx", "aabbaa")
	var far tally
	for set := range 1 << len(pool) {
		var l []api.Pair
		for i, word := range pool {
			if set>>i&1 == 1 {
				// Some weights alike, so that states are shared, some not.
				l = append(l, pair(word, 1+(i*set)%4))
			}
		}
		w := on(t, l...)
		for k, word := range words {
			edits := (set + k) % (api.MaxEdits + 1)
			want := modelAll(l, word, edits)
			wantAll(t, w, word, edits, want...)
			far.add(want)
		}
		if t.Failed() {
			t.Fatalf("of the dictionary %v", l)
		}
	}
	far.check(t, 400)
}

// P12.2: all lists of three matches and of three changes, of few words.
func TestAllSmallMerges(t *testing.T) {
	ours := hits(hit("a", 1, 1), hit("b", 2, 0), hit("bcd", 3, 2), hit("b", 4, 1), hit("b c", 6, 1))
	theirs := changes(pair("a", 0), pair("b", 5), pair("bc", 6), pair("b", 0), pair("bcd", 9), pair("b c", 7))
	for i := range len(ours) * len(ours) * len(ours) {
		l := hits(ours[i%5], ours[i/5%5], ours[i/25])
		for j := range len(theirs) * len(theirs) * len(theirs) {
			over := changes(theirs[j%6], theirs[j/6%6], theirs[j/36])
			for _, n := range []int{0, 1, 3} {
				want := modelMerge(l[:n], over[:3-(i+j)%3], "b", (i+j)%4)
				wantMerge(t, l[:n], over[:3-(i+j)%3], "b", (i+j)%4, want...)
			}
		}
		if t.Failed() {
			t.Fatalf("of the matches %s", show(l))
		}
	}
}

// alphabets: few runes, so that words are near to each other, more, and those of all sizes.
func alphabets() [][]rune {
	return [][]rune{
		{'a', 'b'},
		{'a', 'b', 'c', 'd', 'e', 'f'},
		{'a', '!', '~', 0x80, 0x7ff, 0x800, 0xd7ff, 0xe000, 0xffff, 0x10000, 0x10ffff},
	}
}

func drawnText(r *rand.Rand, alphabet []rune, least, most int) []rune {
	var l []rune
	for range least + r.Intn(most-least+1) {
		l = append(l, alphabet[r.Intn(len(alphabet))])
	}
	return l
}

// changedText is l behind so many drawn edits, some of which may undo each other; a word still.
func changedText(r *rand.Rand, alphabet, l []rune, edits int) []rune {
	l = slices.Clone(l)
	for range edits {
		i, c := r.Intn(len(l)+1), alphabet[r.Intn(len(alphabet))]
		switch k := r.Intn(3); {
		case k == 0 && len(l) < api.MaxRunes:
			l = slices.Insert(l, i, c)
		case k == 1 && i < len(l) && len(l) > 1:
			l = slices.Delete(l, i, i+1)
		case i < len(l):
			l[i] = c
		}
	}
	return l
}

// cast is a drawn word, and how words near to it, and far from it, are drawn.
type cast struct {
	r        *rand.Rand
	alphabet []rune
	word     []rune
}

func drawnCast(r *rand.Rand, round int) cast {
	alphabet := alphabets()[round%3]
	return cast{r, alphabet, drawnText(r, alphabet, 1, api.MaxRunes)}
}

func (c cast) text() string {
	if c.r.Intn(8) == 0 {
		return string(drawnText(c.r, c.alphabet, 1, api.MaxRunes))
	}
	return string(changedText(c.r, c.alphabet, c.word, c.r.Intn(6)))
}

// pairs are up to so many drawn ones; of weight 0 none, or one of three.
func (c cast) pairs(most, weights int, gone bool) []api.Pair {
	var l []api.Pair
	for range c.r.Intn(most + 1) {
		p := pair(c.text(), 1+c.r.Intn(weights))
		if gone && c.r.Intn(3) == 0 {
			p.Weight = 0
		}
		l = append(l, p)
	}
	return l
}

// P12.1, P12.4: drawn dictionaries, small and great ones; with more edits nothing is lost, and with 0 there is the word itself, or nothing.
func TestDrawnDictionaries(t *testing.T) {
	r := rand.New(rand.NewSource(12))
	var far tally
	for round := range 500 {
		c := drawnCast(r, round)
		l := pairs.Norm(c.pairs(2+round, 1+round, false))
		w := on(t, l...)
		for _, word := range []string{string(c.word), c.text()} {
			for edits := range api.MaxEdits + 1 {
				want := modelAll(l, word, edits)
				wantAll(t, w, word, edits, want...)
				far.add(want)
			}
			wantMoreWithMore(t, l, word)
		}
		if t.Failed() {
			t.Fatalf("of the dictionary of round %d", round)
		}
	}
	far.check(t, 200)
}

// wantMoreWithMore holds what is found with so many edits against what is found with fewer.
func wantMoreWithMore(t *testing.T, l []api.Pair, word string) {
	t.Helper()
	w := on(t, l...)
	most, e := All(w, word, api.MaxEdits)
	if e != api.OK {
		t.Fatalf("P12.1: %d", e)
	}
	for edits := range api.MaxEdits {
		near := slices.DeleteFunc(slices.Clone(most), func(m api.Match) bool { return m.Dist > edits })
		got, e := All(w, word, edits)
		wantHits(t, "P12.4: All("+strconv.Quote(word)+", "+strconv.Itoa(edits)+")", got, e, near)
	}
	var itself []api.Match
	if weight, ok := pairs.Find(l, word); ok {
		itself = hits(hit(word, weight, 0))
	}
	wantAll(t, w, word, 0, itself...)
}

// anyChanges are changes among which are weights and words that no dictionary has.
func (c cast) anyChanges(most int) []api.Pair {
	l := c.pairs(most, 5, true)
	for i := range l {
		switch c.r.Intn(12) {
		case 0:
			l[i].Weight = api.MaxWeight + 1
		case 1:
			l[i].Weight = -1
		case 2:
			l[i].Word += " "
		case 3:
			l[i].Word = l[i].Word[1:]
		}
	}
	return l
}

// anyMatches are such as All might tell, and others, in any order, some words several times.
func (c cast) anyMatches(most int) []api.Match {
	var l []api.Match
	for _, p := range c.anyChanges(most) {
		l = append(l, hit(p.Word, p.Weight, c.r.Intn(api.MaxEdits+1)))
		if c.r.Intn(4) == 0 {
			l = append(l, l[c.r.Intn(len(l))])
			l[len(l)-1].Weight += 100
		}
	}
	return l
}

// P12.2, P12.4: drawn lists of all kinds; of no matches nothing is lost with more edits.
func TestDrawnMerges(t *testing.T) {
	r := rand.New(rand.NewSource(122))
	var far tally
	for round := range 4000 {
		c := drawnCast(r, round)
		l, over := c.anyMatches(40), c.anyChanges(40)
		for _, m := range l {
			if r.Intn(3) == 0 {
				over = append(over, pair(m.Word, r.Intn(4)))
			}
		}
		for edits := range api.MaxEdits + 1 {
			want := modelMerge(l, over, string(c.word), edits)
			wantMerge(t, l, over, string(c.word), edits, want...)
			wantMerge(t, nil, over, string(c.word), edits, modelMerge(nil, over, string(c.word), edits)...)
			far.add(want)
		}
		if t.Failed() {
			t.Fatalf("of the lists of round %d", round)
		}
	}
	far.check(t, 2000)
}

// P12.3: whether changes are laid over the dictionary or over what was found in it, is not seen.
func TestMergeOfAll(t *testing.T) {
	r := rand.New(rand.NewSource(123))
	var far tally
	laid, not := 0, 0
	for round := range 1500 {
		c := drawnCast(r, round)
		base := pairs.Norm(c.pairs(60, 5, false))
		over := c.pairs(40, 5, true)
		if round%5 == 0 {
			over = append(over, c.anyChanges(3)...)
		}
		for _, p := range base {
			if r.Intn(5) == 0 {
				over = append(over, pair(p.Word, r.Intn(3)))
			}
		}
		over = append(over, pair("no word", 0))
		both := pairs.Merge(base, over)
		if !pairs.Right(both) {
			not++
			continue
		}
		laid++
		far.add(wantLaidOver(t, base, over, both, string(c.word)))
		if t.Failed() {
			t.Fatalf("P12.3: of the dictionary of round %d", round)
		}
	}
	far.check(t, 200)
	if laid < 1000 || not < 50 {
		t.Errorf("the changes show too little: %d dictionaries, %d none", laid, not)
	}
}

// wantLaidOver holds both ways against each other, and has what was found with most edits.
func wantLaidOver(t *testing.T, base, over, both []api.Pair, word string) []api.Match {
	t.Helper()
	one, other := on(t, base...), on(t, both...)
	var last []api.Match
	for edits := range api.MaxEdits + 1 {
		found, _ := All(one, word, edits)
		got, e := Merge(found, over, word, edits)
		want, _ := All(other, word, edits)
		wantHits(t, "P12.3: Merge of All", got, e, want)
		wantHits(t, "P12.3: All of pairs.Merge", want, api.OK, modelAll(both, word, edits))
		last = want
	}
	return last
}

// P12.3: a dictionary that is full, of which as many words go as come.
func TestMergeOfAllOfTheGreatest(t *testing.T) {
	var base, over []api.Pair
	for i, word := range everyText(6, 'a', 'b', 'c', 'd', 'e')[:api.MaxWords] {
		base = append(base, pair(word, 1+i%7))
		if i%9 == 0 {
			over = append(over, pair(word, 0), pair(word+"é", 1+i%5))
		}
	}
	base = pairs.Norm(base)
	both := pairs.Merge(base, over)
	if len(both) != api.MaxWords || !pairs.Right(both) {
		t.Fatal("the changes are not as they should be")
	}
	for _, word := range []string{"a", "abc", "edcba", "éé", "aaaaaaaa"} {
		if found := wantLaidOver(t, base, over, both, word); len(found) == 0 {
			t.Errorf("nothing is near to %q", word)
		}
	}
}
