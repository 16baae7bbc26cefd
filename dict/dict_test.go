package dict

import (
	"math"
	"slices"
	"strconv"
	"strings"
	"testing"

	"abecedary/api"
	"abecedary/fst"
)

func pair(word string, weight int) api.Pair {
	return api.Pair{Word: word, Weight: weight}
}

func words(l ...api.Pair) []api.Pair { return l }

func hit(word string, weight, dist int) api.Match {
	return api.Match{Word: word, Weight: weight, Dist: dist}
}

func ask(word string, edits, best int) api.Query {
	return api.Query{Word: word, Edits: edits, Best: best}
}

func loaded(t *testing.T, l ...api.Pair) *Dict {
	t.Helper()
	d, e := Load(l)
	if e != api.OK || d == nil {
		t.Fatalf("P14.1: Load(%s) = %v, %d, want a dictionary, 0", showPairs(l), d, e)
	}
	return d
}

// showPairs: of many the first ones are enough.
func showPairs(l []api.Pair) string {
	var b strings.Builder
	for _, p := range l[:min(len(l), 40)] {
		b.WriteString(strconv.Quote(p.Word[:min(len(p.Word), 100)]) + " " + strconv.Itoa(p.Weight) + ", ")
	}
	return "(" + b.String() + strconv.Itoa(len(l)) + " in all)"
}

func showHits(l []api.Match) string {
	var b strings.Builder
	for _, m := range l[:min(len(l), 70)] {
		b.WriteString(strconv.Quote(m.Word) + " " + strconv.Itoa(m.Weight) + " " + strconv.Itoa(m.Dist) + ", ")
	}
	return "(" + b.String() + strconv.Itoa(len(l)) + " in all)"
}

func wantSet(t *testing.T, d *Dict, word string, weight, had int, e api.Errno) {
	t.Helper()
	if n, got := d.Set(word, weight); n != had || got != e {
		t.Errorf("P14.2: Set(%.60q, %d) = %d, %d, want %d, %d", word, weight, n, got, had, e)
	}
}

func wantRemove(t *testing.T, d *Dict, word string, had int, e api.Errno) {
	t.Helper()
	if n, got := d.Remove(word); n != had || got != e {
		t.Errorf("P14.2: Remove(%.60q) = %d, %d, want %d, %d", word, n, got, had, e)
	}
}

func wantWeight(t *testing.T, d *Dict, word string, weight int) {
	t.Helper()
	if n, ok := d.Weight(word); n != weight || !ok {
		t.Errorf("P14.3: Weight(%.60q) = %d, %t, want %d, true", word, n, ok, weight)
	}
}

func wantNoWeight(t *testing.T, d *Dict, word string) {
	t.Helper()
	if n, ok := d.Weight(word); n != 0 || ok {
		t.Errorf("P14.3: Weight(%.60q) = %d, %t, want 0, false", word, n, ok)
	}
}

func wantChanges(t *testing.T, d *Dict, want int) {
	t.Helper()
	if n := d.Changes(); n != want {
		t.Errorf("P14.5: Changes() = %d, want %d", n, want)
	}
}

func wantSuggest(t *testing.T, d *Dict, q api.Query, want ...api.Match) {
	t.Helper()
	if l, e := d.Suggest(q); e != api.OK || !slices.Equal(l, want) {
		t.Errorf("P14.4: Suggest(%v) = %s, %d, want %s, 0", q, showHits(l), e, showHits(want))
	}
}

func sameState(a, b api.State) bool {
	return a.Final == b.Final && a.Out == b.Out && slices.Equal(a.Arcs, b.Arcs)
}

func sameMachine(a, b api.Machine) bool {
	return a.Base == b.Base && slices.EqualFunc(a.States, b.States, sameState)
}

// wantWords holds all that is told of the words, but suggestions, against those.
func wantWords(t *testing.T, d *Dict, want ...api.Pair) {
	t.Helper()
	if n := d.Len(); n != len(want) {
		t.Errorf("P14.3: Len() = %d, want %d", n, len(want))
	}
	if l := d.Pairs(); !slices.Equal(l, want) {
		t.Errorf("P14.3: Pairs() = %s, want %s", showPairs(l), showPairs(want))
	}
	m, e := fst.Build(want)
	if e != api.OK {
		t.Fatalf("no dictionary is wanted: %s", showPairs(want))
	}
	if got := d.Machine(); !sameMachine(got, m) {
		t.Errorf("P14.3: Machine() = %v, want %v", got, m)
	}
	for _, p := range want {
		wantWeight(t, d, p.Word, p.Weight)
	}
}

// numbered is one of many words of four runes, by rising numbers.
func numbered(i int) string {
	return string([]rune{'a' + rune(i>>12&15), 'a' + rune(i>>8&15), 'a' + rune(i>>4&15), 'a' + rune(i&15)})
}

// many are the numbered words from one on up to another one, each with a weight of its own.
func many(from, to int) []api.Pair {
	var l []api.Pair
	for i := from; i < to; i++ {
		l = append(l, pair(numbered(i), 1+i))
	}
	return l
}

// P14.1 to P14.4: the chapter's examples.
func TestChapter(t *testing.T) {
	d := New()
	wantSet(t, d, "ab", 5, 0, api.OK)
	wantSet(t, d, "ab", 2, 5, api.OK)
	wantWeight(t, d, "ab", 2)
	wantSet(t, d, "", 1, 0, api.ErrDictWord)
	wantSet(t, d, "b", 0, 0, api.ErrDictWeight)
	wantRemove(t, d, "x", 0, api.ErrDictNone)
	wantSet(t, d, "abc", 9, 0, api.OK)
	wantSuggest(t, d, ask("ab", 1, 5), hit("ab", 2, 0), hit("abc", 9, 1))
}

// P14.3, P14.4: the first and the third example of the whole.
func TestExamplesOfTheWhole(t *testing.T) {
	d := loaded(t, pair("ab", 2), pair("abc", 9), pair("xyz", 7))
	wantSuggest(t, d, ask("ab", 1, 5), hit("ab", 2, 0), hit("abc", 9, 1))
	m := loaded(t, pair("ab", 5), pair("b", 2), pair("cb", 9)).Machine()
	if m.Base != 2 || len(m.States) != 3 || m.States[2].Arcs[0].To != m.States[2].Arcs[2].To {
		t.Errorf("P14.3: Machine() = %v", m)
	}
}

// P14.1: a new dictionary has no word, and is not the one that was new before.
func TestNew(t *testing.T) {
	d := New()
	if d == nil {
		t.Fatal("P14.1: New() = nil")
	}
	for range 2 {
		wantWords(t, d)
		wantChanges(t, d, 0)
		wantNoWeight(t, d, "a")
		wantRemove(t, d, "a", 0, api.ErrDictNone)
		wantSuggest(t, d, ask("a", 3, 9))
		d.Compact()
	}
	wantSet(t, d, "a", 1, 0, api.OK)
	wantWords(t, New())
	wantWords(t, d, pair("a", 1))
}

// P14.1: a dictionary of the pairs, none of which counts as changed.
func TestLoad(t *testing.T) {
	for _, l := range [][]api.Pair{
		nil,
		{},
		words(pair("a", 1)),
		words(pair("a", api.MaxWeight), pair("aa", 1), pair("b", 1)),
		words(pair("!", 3), pair("~", 2), pair("é", 1), pair("\uffff", 2), pair("\U0010ffff", 3)),
		words(pair(strings.Repeat("\U0010ffff", api.MaxRunes), 4)),
		many(0, 33),
		many(5, 5+api.MaxWords),
	} {
		d := loaded(t, l...)
		wantWords(t, d, l...)
		wantChanges(t, d, 0)
	}
}

// P14.1: fst.Build's error, that of the first pair that is wrong, and nothing beside it.
func TestLoadRefuses(t *testing.T) {
	for _, c := range []struct {
		l    []api.Pair
		want api.Errno
	}{
		{words(pair("", 1)), api.ErrFstWord},
		{words(pair("a", 1), pair("b c", 0)), api.ErrFstWord},
		{words(pair("a", 1), pair("\xff", 1)), api.ErrFstWord},
		{words(pair(strings.Repeat("a", api.MaxRunes+1), 1)), api.ErrFstWord},
		{words(pair("a", 0)), api.ErrFstWeight},
		{words(pair("a", -1)), api.ErrFstWeight},
		{words(pair("b", 1), pair("a", api.MaxWeight+1)), api.ErrFstWeight},
		{words(pair("b", 1), pair("a", 1)), api.ErrFstOrder},
		{words(pair("a", 1), pair("a", 1)), api.ErrFstOrder},
		{words(pair("b", 1), pair("a", 1), pair("", 0)), api.ErrFstOrder},
		{many(0, api.MaxWords+1), api.ErrFstMany},
		{append(many(0, api.MaxWords), pair("", 0)), api.ErrFstMany},
	} {
		if d, e := Load(c.l); d != nil || e != c.want {
			t.Errorf("P14.1: Load(%s) = %v, %d, want nil, %d", showPairs(c.l), d, e, c.want)
		}
	}
}

// noWords are texts that letters.Word does not take.
func noWords() []string {
	return []string{
		"", " ", "a b", "a ", "\x00", "a\x1f", "\x7f", "\xff", "a\xc3", "\xc0\x80", "\xed\xa0\x80", "\xf4\x90\x80\x80",
		strings.Repeat("a", api.MaxRunes+1), strings.Repeat("\U0010ffff", api.MaxRunes+1), strings.Repeat("a", 1<<16),
	}
}

// mixed has words in its machine, some of which were changed, and others put in since; and what it is.
func mixed(t *testing.T) (*Dict, []api.Pair) {
	t.Helper()
	d := loaded(t, pair("a", 3), pair("ab", 5), pair("abc", 4), pair("b", 2), pair("bb", 9))
	wantSet(t, d, "ab", 7, 5, api.OK)
	wantRemove(t, d, "b", 2, api.OK)
	wantSet(t, d, "é", 6, 0, api.OK)
	wantSet(t, d, "x", 1, 0, api.OK)
	wantRemove(t, d, "x", 1, api.OK)
	wantSet(t, d, "aa", 8, 0, api.OK)
	wantSet(t, d, "aa", 1, 8, api.OK)
	return d, words(pair("a", 3), pair("aa", 1), pair("ab", 7), pair("abc", 4), pair("bb", 9), pair("é", 6))
}

// P14.2, R2: what is wrong with the word is told ahead of what is wrong with the weight, and nothing changes.
func TestSetAndRemoveRefuse(t *testing.T) {
	d, l := mixed(t)
	changes := d.Changes()
	wrong := []int{0, -1, api.MaxWeight + 1, -api.MaxWeight, 1 << 32, 1<<32 + 1, math.MaxInt, math.MinInt}
	for _, word := range noWords() {
		wantSet(t, d, word, 1, 0, api.ErrDictWord)
		for _, weight := range wrong {
			wantSet(t, d, word, weight, 0, api.ErrDictWord)
		}
		wantRemove(t, d, word, 0, api.ErrDictWord)
		wantNoWeight(t, d, word)
	}
	for _, word := range []string{"a", "ab", "b", "x", "new", "é"} {
		for _, weight := range wrong {
			wantSet(t, d, word, weight, 0, api.ErrDictWeight)
		}
	}
	for _, word := range []string{"b", "x", "new", "abcd", strings.Repeat("z", api.MaxRunes)} {
		wantRemove(t, d, word, 0, api.ErrDictNone)
		wantNoWeight(t, d, word)
	}
	wantWords(t, d, l...)
	wantChanges(t, d, changes)
}

// P14.2: the weight that is told is the one that the word had, whether the machine says it or a change.
func TestSetTellsWhatTheWordHad(t *testing.T) {
	d := loaded(t, pair("a", 3), pair("b", api.MaxWeight))
	wantSet(t, d, "a", api.MaxWeight, 3, api.OK)
	wantSet(t, d, "a", 1, api.MaxWeight, api.OK)
	wantSet(t, d, "a", 1, 1, api.OK)
	wantRemove(t, d, "a", 1, api.OK)
	wantSet(t, d, "a", 3, 0, api.OK)
	wantSet(t, d, "b", api.MaxWeight, api.MaxWeight, api.OK)
	wantSet(t, d, "c", 4, 0, api.OK)
	d.Compact()
	wantSet(t, d, "c", 5, 4, api.OK)
	wantSet(t, d, "b", 1, api.MaxWeight, api.OK)
	wantWords(t, d, pair("a", 3), pair("b", 1), pair("c", 5))
}

// P14.2: likewise; what is out can't be taken out, and is as if it had never been there.
func TestRemoveTellsWhatTheWordHad(t *testing.T) {
	d := loaded(t, pair("a", 3), pair("b", api.MaxWeight))
	wantRemove(t, d, "a", 3, api.OK)
	wantRemove(t, d, "a", 0, api.ErrDictNone)
	wantNoWeight(t, d, "a")
	wantWords(t, d, pair("b", api.MaxWeight))
	wantSet(t, d, "c", 4, 0, api.OK)
	wantRemove(t, d, "c", 4, api.OK)
	wantRemove(t, d, "c", 0, api.ErrDictNone)
	d.Compact()
	wantRemove(t, d, "a", 0, api.ErrDictNone)
	wantRemove(t, d, "c", 0, api.ErrDictNone)
	wantRemove(t, d, "b", api.MaxWeight, api.OK)
	wantWords(t, d)
	d.Compact()
	wantWords(t, d)
}

// P14.2: words of the most runes, and of runes of each size.
func TestAnyWords(t *testing.T) {
	d := New()
	for i, word := range []string{
		"!", strings.Repeat("a", api.MaxRunes), strings.Repeat("a", api.MaxRunes-1) + "b",
		"\u0080", "\u07ff", "\u0800", "\ud7ff", "\ue000", "\uffff", "\U00010000", strings.Repeat("\U0010ffff", api.MaxRunes),
	} {
		wantSet(t, d, word, 1+i, 0, api.OK)
		wantWeight(t, d, word, 1+i)
	}
	if d.Len() != 11 {
		t.Errorf("P14.3: Len() = %d, want 11", d.Len())
	}
	wantRemove(t, d, strings.Repeat("a", api.MaxRunes), 2, api.OK)
	wantWeight(t, d, strings.Repeat("a", api.MaxRunes-1)+"b", 3)
}

// wantFull: d has MaxWords, aaaa among them, zzz and aaaaa not: there is room for what is there, and for nothing else.
func wantFull(t *testing.T, d *Dict) {
	t.Helper()
	if d.Len() != api.MaxWords {
		t.Errorf("P14.3: Len() = %d, want %d", d.Len(), api.MaxWords)
	}
	changes := d.Changes()
	wantSet(t, d, "zzz", 1, 0, api.ErrDictFull)
	wantSet(t, d, "aaaaa", api.MaxWeight, 0, api.ErrDictFull)
	wantSet(t, d, "zzz", 0, 0, api.ErrDictWeight)
	wantSet(t, d, "z z", 0, 0, api.ErrDictWord)
	wantRemove(t, d, "zzz", 0, api.ErrDictNone)
	wantNoWeight(t, d, "zzz")
	wantChanges(t, d, changes)
	had, _ := d.Weight("aaaa")
	wantSet(t, d, "aaaa", had%9+1, had, api.OK)
	wantSet(t, d, "aaaa", had, had%9+1, api.OK)
}

// P14.2: no more than MaxWords, all in the machine.
func TestFullMachine(t *testing.T) {
	d := loaded(t, many(0, api.MaxWords)...)
	wantFull(t, d)
	wantRemove(t, d, numbered(77), 78, api.OK)
	wantSet(t, d, "yyy", 5, 0, api.OK)
	wantFull(t, d)
	wantSet(t, d, numbered(77), 5, 0, api.ErrDictFull)
	wantRemove(t, d, "yyy", 5, api.OK)
	wantSet(t, d, numbered(77), 6, 0, api.OK)
	wantFull(t, d)
	d.Compact()
	wantFull(t, d)
}

// P14.2, P14.3: no more than MaxWords, of which some were put in, and as many taken out: what was changed is counted once.
func TestFullWithChanges(t *testing.T) {
	d := loaded(t, many(0, api.MaxWords-1)...)
	wantSet(t, d, "yyy", 5, 0, api.OK)
	wantFull(t, d)
	wantRemove(t, d, "yyy", 5, api.OK)
	wantSet(t, d, "xxx", 5, 0, api.OK)
	wantFull(t, d)
	for i := range 20 {
		wantRemove(t, d, numbered(100*i+1), 100*i+2, api.OK)
	}
	for i := range 20 {
		if d.Len() != api.MaxWords-20+i {
			t.Errorf("P14.3: Len() = %d, want %d", d.Len(), api.MaxWords-20+i)
		}
		wantSet(t, d, numbered(api.MaxWords+i), 1, 0, api.OK)
	}
	wantFull(t, d)
}

// P14.2: no more than MaxWords, all of them set one by one.
func TestFullBySets(t *testing.T) {
	d := New()
	l := many(0, api.MaxWords)
	for i := range l {
		p := l[(i*1231)%len(l)]
		wantSet(t, d, p.Word, p.Weight, 0, api.OK)
		if d.Len() != i+1 {
			t.Fatalf("P14.3: Len() = %d, want %d", d.Len(), i+1)
		}
	}
	wantFull(t, d)
	wantWords(t, d, l...)
	for i := range l {
		p := l[(i*2477)%len(l)]
		wantRemove(t, d, p.Word, p.Weight, api.OK)
		if d.Len() != len(l)-i-1 {
			t.Fatalf("P14.3: Len() = %d, want %d", d.Len(), len(l)-i-1)
		}
	}
	wantWords(t, d)
}

// P14.3: what is told of words that are there and of other ones, in the machine and changed.
func TestWeightLenPairsMachine(t *testing.T) {
	d, l := mixed(t)
	for range 2 {
		wantWords(t, d, l...)
		for _, word := range append(noWords(), "b", "x", "abcd", "c", "aé", "\u00ea") {
			wantNoWeight(t, d, word)
		}
		d.Compact()
	}
}

// P14.3: words rise by bytes, wherever they were put in.
func TestPairsRise(t *testing.T) {
	d := loaded(t, pair("b", 1), pair("ba", 2), pair("é", 3))
	for i, word := range []string{"\U00010000", "a", "bab", "\uffff", "!", "ea", "b!"} {
		wantSet(t, d, word, 10+i, 0, api.OK)
	}
	wantWords(t, d,
		pair("!", 14), pair("a", 11), pair("b", 1), pair("b!", 16), pair("ba", 2), pair("bab", 12), pair("ea", 15),
		pair("é", 3), pair("\uffff", 13), pair("\U00010000", 10))
}

// P14.4: what was changed is suggested as it is now, and what was taken out is not.
func TestSuggestSeesChanges(t *testing.T) {
	d, _ := mixed(t)
	for range 2 {
		wantSuggest(t, d, ask("ab", 0, 9), hit("ab", 7, 0))
		wantSuggest(t, d, ask("ab", 1, 9), hit("ab", 7, 0), hit("bb", 9, 1), hit("abc", 4, 1), hit("a", 3, 1), hit("aa", 1, 1))
		wantSuggest(t, d, ask("ab", 2, 3), hit("ab", 7, 0), hit("bb", 9, 1), hit("abc", 4, 1))
		wantSuggest(t, d, ask("b", 0, 9))
		wantSuggest(t, d, ask("x", 0, 9))
		wantSuggest(t, d, ask("x", 1, 9), hit("é", 6, 1), hit("a", 3, 1))
		wantSuggest(t, d, ask("éé", 3, 1), hit("é", 6, 1))
		d.Compact()
	}
	wantSet(t, d, "aa", 20, 1, api.OK)
	wantSet(t, d, "bb", 1, 9, api.OK)
	wantSuggest(t, d, ask("ab", 1, 9), hit("ab", 7, 0), hit("aa", 20, 1), hit("abc", 4, 1), hit("a", 3, 1), hit("bb", 1, 1))
}

// P14.4: the nearest first; of these the heaviest; of these what is ahead.
func TestSuggestTellsTheBest(t *testing.T) {
	d := loaded(t, pair("aaa", 9), pair("aab", 1), pair("abb", 7), pair("bbb", 99))
	wantSet(t, d, "aac", 1, 0, api.OK)
	wantSet(t, d, "aa", 1, 0, api.OK)
	all := []api.Match{hit("aab", 1, 0), hit("aaa", 9, 1), hit("abb", 7, 1), hit("aa", 1, 1), hit("aac", 1, 1), hit("bbb", 99, 2)}
	for best := range 9 {
		wantSuggest(t, d, ask("aab", 3, best), all[:min(best, 6)]...)
		wantSuggest(t, d, ask("aab", 1, best), all[:min(best, 5)]...)
	}
	for _, best := range []int{-1, math.MinInt} {
		wantSuggest(t, d, ask("aab", 3, best))
	}
	wantSuggest(t, d, ask("aab", 3, math.MaxInt), all...)
}

// P14.4: at most MaxBest are told, the best ones of all that are there now.
func TestSuggestTellsAtMostMaxBest(t *testing.T) {
	var l []api.Pair
	for i := range 200 {
		l = append(l, pair(string(rune(0x4000+i)), 1000-i))
	}
	d := loaded(t, l...)
	var best []api.Match
	for _, p := range l {
		best = append(best, hit(p.Word, p.Weight, 1))
	}
	for _, k := range []int{63, 64, 65, 200, math.MaxInt} {
		wantSuggest(t, d, ask("a", 1, k), best[:min(k, api.MaxBest)]...)
	}
	// The best ones go, so others come that were too bad.
	for _, p := range l[:30] {
		wantRemove(t, d, p.Word, p.Weight, api.OK)
	}
	wantChanges(t, d, 30)
	for _, k := range []int{1, 63, 64, 65} {
		wantSuggest(t, d, ask("a", 1, k), best[30:30+min(k, api.MaxBest)]...)
	}
	wantSet(t, d, l[150].Word, api.MaxWeight, l[150].Weight, api.OK)
	wantSuggest(t, d, ask("a", 1, 2), hit(l[150].Word, api.MaxWeight, 1), best[30])
	wantChanges(t, d, 31)
}

// P14.4: lev.New's error, whatever else is asked, and nothing beside it.
func TestSuggestRefuses(t *testing.T) {
	changed, l := mixed(t)
	for _, d := range []*Dict{New(), loaded(t, l...), changed} {
		refuse := func(q api.Query) {
			t.Helper()
			if l, e := d.Suggest(q); len(l) != 0 || e != api.ErrLevForm {
				t.Errorf("P14.4: Suggest(%.60q, %d, %d) = %s, %d, want none, %d", q.Word, q.Edits, q.Best, showHits(l), e, api.ErrLevForm)
			}
		}
		for _, word := range noWords() {
			for edits := -1; edits <= api.MaxEdits+1; edits++ {
				refuse(ask(word, edits, 5))
			}
			refuse(ask(word, 1, 0))
		}
		for _, edits := range []int{-1, api.MaxEdits + 1, 255, 256, 257, 1 << 32, math.MaxInt, math.MinInt} {
			for _, best := range []int{-1, 0, 1, api.MaxBest + 1} {
				refuse(ask("ab", edits, best))
			}
		}
	}
	wantWords(t, changed, l...)
}

// P14.5: each word that was changed counts once, whatever was done to it, and what changed nothing does not count.
func TestChangesCountsWords(t *testing.T) {
	d := loaded(t, pair("a", 1), pair("b", 2), pair("c", 3))
	wantSet(t, d, "a", 5, 1, api.OK)
	wantChanges(t, d, 1)
	wantSet(t, d, "a", 6, 5, api.OK)
	wantChanges(t, d, 1)
	wantRemove(t, d, "a", 6, api.OK)
	wantChanges(t, d, 1)
	wantRemove(t, d, "b", 2, api.OK)
	wantChanges(t, d, 2)
	wantSet(t, d, "d", 4, 0, api.OK)
	wantChanges(t, d, 3)
	wantSet(t, d, "", 4, 0, api.ErrDictWord)
	wantSet(t, d, "e", 0, 0, api.ErrDictWeight)
	wantRemove(t, d, "e", 0, api.ErrDictNone)
	wantRemove(t, d, "b", 0, api.ErrDictNone)
	wantChanges(t, d, 3)
}

// P14.5: something was changed of a word also where it is by now what it was.
func TestChangesThatWereTakenBack(t *testing.T) {
	d := loaded(t, pair("a", 1))
	wantSet(t, d, "a", 5, 1, api.OK)
	wantSet(t, d, "a", 1, 5, api.OK)
	wantChanges(t, d, 1)
	wantSet(t, d, "b", 5, 0, api.OK)
	wantRemove(t, d, "b", 5, api.OK)
	wantChanges(t, d, 2)
	wantWords(t, d, pair("a", 1))
}

// P14.5: nothing is changed of a word by giving it the weight that it has.
func TestTheSameWeightIsNoChange(t *testing.T) {
	d := loaded(t, pair("a", 1), pair("b", 2))
	wantSet(t, d, "a", 1, 1, api.OK)
	wantChanges(t, d, 0)
	wantSet(t, d, "c", 3, 0, api.OK)
	wantSet(t, d, "c", 3, 3, api.OK)
	wantSet(t, d, "b", 2, 2, api.OK)
	wantChanges(t, d, 1)
	wantWords(t, d, pair("a", 1), pair("b", 2), pair("c", 3))
}

// P14.5: nothing that is told changes, but Changes.
func TestCompact(t *testing.T) {
	d, l := mixed(t)
	wantChanges(t, d, 5)
	before, _ := d.Suggest(ask("ab", 2, 9))
	for range 2 {
		d.Compact()
		wantChanges(t, d, 0)
		wantWords(t, d, l...)
		wantSuggest(t, d, ask("ab", 2, 9), before...)
	}
	wantSet(t, d, "ab", 1, 7, api.OK)
	wantRemove(t, d, "é", 6, api.OK)
	wantChanges(t, d, 2)
}

// P14.5: of MaxOverlay words there is still the old machine; one more, put in, reweighted or taken out, and there is a new one.
func TestAMachineIsBuiltWhenThereAreTooManyChanges(t *testing.T) {
	last := []func(d *Dict){
		func(d *Dict) { wantSet(t, d, "zzz", 1, 0, api.OK) },
		func(d *Dict) { wantSet(t, d, numbered(2*api.MaxOverlay), 7, 1+2*api.MaxOverlay, api.OK) },
		func(d *Dict) { wantRemove(t, d, numbered(2*api.MaxOverlay), 1+2*api.MaxOverlay, api.OK) },
	}
	for i, change := range last {
		d := loaded(t, many(0, 2*api.MaxOverlay+1)...)
		for k := range api.MaxOverlay {
			wantChanges(t, d, k)
			if k%2 == 0 {
				wantRemove(t, d, numbered(2*k), 1+2*k, api.OK)
			} else {
				wantSet(t, d, numbered(2*k), 5, 1+2*k, api.OK)
			}
		}
		wantChanges(t, d, api.MaxOverlay)
		// What was changed already is not one more.
		wantSet(t, d, numbered(0), 9, 0, api.OK)
		wantRemove(t, d, numbered(2), 5, api.OK)
		wantChanges(t, d, api.MaxOverlay)
		before := d.Pairs()
		change(d)
		wantChanges(t, d, 0)
		after := d.Pairs()
		if i == 0 && len(after) != len(before)+1 || i == 2 && len(after) != len(before)-1 {
			t.Errorf("P14.6: the change %d, with which a machine is built, is lost", i)
		}
		wantWords(t, d, after...)
		wantSet(t, d, "yyy", 1, 0, api.OK)
		wantChanges(t, d, 1)
	}
}

// P14.5: what is refused, or changes nothing, does not have a machine built.
func TestTheMachineStays(t *testing.T) {
	d := loaded(t, many(0, api.MaxWords)...)
	for k := range api.MaxOverlay {
		wantSet(t, d, numbered(k), 9999, 1+k, api.OK)
	}
	wantSet(t, d, "zzz", 1, 0, api.ErrDictFull)
	wantSet(t, d, "z z", 1, 0, api.ErrDictWord)
	wantSet(t, d, numbered(99), 0, 0, api.ErrDictWeight)
	wantRemove(t, d, "zzz", 0, api.ErrDictNone)
	wantSet(t, d, numbered(99), 100, 100, api.OK)
	d.Len()
	d.Pairs()
	d.Machine()
	d.Weight("zzz")
	d.Suggest(ask("zzz", 3, 9))
	d.Clone().Compact()
	wantChanges(t, d, api.MaxOverlay)
	wantRemove(t, d, numbered(99), 100, api.OK)
	wantChanges(t, d, 0)
}

// P14.5: a clone is the same in all, and what is done to one of both is not seen in the other one: at each number of changes.
func TestCloneGoesItsOwnWay(t *testing.T) {
	d := loaded(t, pair("b", 2), pair("m", 3))
	for k := range 2*api.MaxOverlay + 3 {
		c := d.Clone()
		if c == nil || c == d {
			t.Fatal("P14.5: Clone() is none, or no other one")
		}
		l, changes := d.Pairs(), d.Changes()
		wantWords(t, c, l...)
		wantChanges(t, c, changes)
		wantSet(t, c, "clone", 1+k, 0, api.OK)
		wantSet(t, c, "b", 3+k, 2, api.OK)
		wantRemove(t, c, "m", 3, api.OK)
		wantWords(t, d, l...)
		wantChanges(t, d, changes)
		was, before := c.Pairs(), c.Changes()
		wantSet(t, d, numbered(37*k), 5, 0, api.OK)
		wantWords(t, c, was...)
		wantChanges(t, c, before)
		wantWeight(t, c, "clone", 1+k)
		wantNoWeight(t, c, numbered(37*k))
	}
}

// P14.5: clones of one dictionary have nothing in common, nor has a clone's clone.
func TestClonesLieApart(t *testing.T) {
	d, l := mixed(t)
	one, two := d.Clone(), d.Clone()
	three := one.Clone()
	wantSet(t, one, "one", 1, 0, api.OK)
	wantSet(t, two, "two", 2, 0, api.OK)
	wantSet(t, three, "three", 3, 0, api.OK)
	wantSet(t, d, "zero", 4, 0, api.OK)
	wantWords(t, one, slices.Insert(slices.Clone(l), 5, pair("one", 1))...)
	wantWords(t, two, slices.Insert(slices.Clone(l), 5, pair("two", 2))...)
	wantWords(t, three, slices.Insert(slices.Clone(l), 5, pair("three", 3))...)
	wantWords(t, d, slices.Insert(slices.Clone(l), 5, pair("zero", 4))...)
	d.Compact()
	for i, c := range []*Dict{d, one, two, three} {
		wantChanges(t, c, []int{0, 6, 6, 6}[i])
	}
}
