package fuzzy

import (
	"math"
	"slices"
	"strconv"
	"strings"
	"testing"

	"abecedary/api"
	"abecedary/fst"
	"abecedary/walk"
)

func pair(word string, weight int) api.Pair {
	return api.Pair{Word: word, Weight: weight}
}

func hit(word string, weight, dist int) api.Match {
	return api.Match{Word: word, Weight: weight, Dist: dist}
}

func changes(l ...api.Pair) []api.Pair { return l }

func hits(l ...api.Match) []api.Match { return l }

// on is a walk on the machine of that dictionary.
func on(t *testing.T, l ...api.Pair) *walk.Walk {
	t.Helper()
	m, e := fst.Build(l)
	if e != api.OK {
		t.Fatalf("no dictionary: %d", e)
	}
	w, ok := walk.New(m)
	if !ok {
		t.Fatal("no walk")
	}
	return w
}

// show: of many matches the first ones are enough, and of a long text the beginning.
func show(l []api.Match) string {
	var b strings.Builder
	for _, m := range l[:min(len(l), 30)] {
		b.WriteString(strconv.Quote(m.Word[:min(len(m.Word), 100)]) + " " + strconv.Itoa(m.Weight) + " " + strconv.Itoa(m.Dist) + ", ")
	}
	return "(" + b.String() + strconv.Itoa(len(l)) + " in all)"
}

func wantHits(t *testing.T, what string, got []api.Match, e api.Errno, want []api.Match) {
	t.Helper()
	if e != api.OK || !slices.Equal(got, want) {
		t.Errorf("%s tells %s, %d, want %s, 0", what, show(got), e, show(want))
	}
}

func wantAll(t *testing.T, w *walk.Walk, word string, edits int, want ...api.Match) {
	t.Helper()
	l, e := All(w, word, edits)
	wantHits(t, "P12.1: All("+strconv.Quote(word)+", "+strconv.Itoa(edits)+")", l, e, want)
}

func wantMerge(t *testing.T, l []api.Match, over []api.Pair, word string, edits int, want ...api.Match) {
	t.Helper()
	got, e := Merge(l, over, word, edits)
	wantHits(t, "P12.2: Merge(.., "+strconv.Quote(word)+", "+strconv.Itoa(edits)+")", got, e, want)
}

// P12.1, P12.2: the chapter's examples.
func TestChapter(t *testing.T) {
	w := on(t, pair("a", 3), pair("ab", 5), pair("bb", 2))
	found := hits(hit("a", 3, 1), hit("ab", 5, 0), hit("bb", 2, 1))
	wantAll(t, w, "ab", 1, found...)
	wantMerge(t, found, changes(pair("a", 0), pair("abc", 7), pair("xyz", 9)), "ab", 1, hit("ab", 5, 0), hit("abc", 7, 1), hit("bb", 2, 1))
}

// P12.1: the third example of the whole.
func TestExampleOfTheWhole(t *testing.T) {
	w := on(t, pair("ab", 2), pair("abc", 9), pair("xyz", 7))
	wantAll(t, w, "ab", 1, hit("ab", 2, 0), hit("abc", 9, 1))
}

// P12.1: each kind of edit, at the beginning, within, and at the end; a turn of two runes takes two.
func TestAllKindsOfEdits(t *testing.T) {
	w := on(t, pair("ab", 5), pair("abc", 2), pair("abcx", 3), pair("abx", 4), pair("abxc", 1), pair("ac", 6), pair("axc", 7), pair("bac", 8), pair("bc", 9), pair("xabc", 10), pair("xbc", 11))
	wantAll(t, w, "abc", 0, hit("abc", 2, 0))
	wantAll(t, w, "abc", 1,
		hit("ab", 5, 1), hit("abc", 2, 0), hit("abcx", 3, 1), hit("abx", 4, 1), hit("abxc", 1, 1), hit("ac", 6, 1), hit("axc", 7, 1),
		hit("bc", 9, 1), hit("xabc", 10, 1), hit("xbc", 11, 1))
	wantAll(t, w, "abc", 2,
		hit("ab", 5, 1), hit("abc", 2, 0), hit("abcx", 3, 1), hit("abx", 4, 1), hit("abxc", 1, 1), hit("ac", 6, 1), hit("axc", 7, 1),
		hit("bac", 8, 2), hit("bc", 9, 1), hit("xabc", 10, 1), hit("xbc", 11, 1))
}

// P12.1: the distance that is told is the least one, up to each number of edits.
func TestAllUpToEachDistance(t *testing.T) {
	w := on(t, pair("kit", 7), pair("kitte", 6), pair("kitten", 5), pair("sitten", 4), pair("sittin", 3), pair("sitting", 2), pair("zzzzzz", 1))
	wantAll(t, w, "kitten", 0, hit("kitten", 5, 0))
	wantAll(t, w, "kitten", 1, hit("kitte", 6, 1), hit("kitten", 5, 0), hit("sitten", 4, 1))
	wantAll(t, w, "kitten", 2, hit("kitte", 6, 1), hit("kitten", 5, 0), hit("sitten", 4, 1), hit("sittin", 3, 2))
	wantAll(t, w, "kitten", 3, hit("kit", 7, 3), hit("kitte", 6, 1), hit("kitten", 5, 0), hit("sitten", 4, 1), hit("sittin", 3, 2), hit("sitting", 2, 3))
}

// P12.1: edits are counted by runes, not by bytes; words rise by bytes, whatever their runes' sizes are.
func TestAllByRunes(t *testing.T) {
	w := on(t, pair("a", 1), pair("~", 2), pair("\u0080", 3), pair("été", 4), pair("\u07ff", 5), pair("\u0800", 6), pair("\uffff", 7), pair("\U00010000", 8), pair("\U0010ffff", 9))
	wantAll(t, w, "\uffff", 0, hit("\uffff", 7, 0))
	wantAll(t, w, "é", 1,
		hit("a", 1, 1), hit("~", 2, 1), hit("\u0080", 3, 1), hit("\u07ff", 5, 1), hit("\u0800", 6, 1), hit("\uffff", 7, 1), hit("\U00010000", 8, 1), hit("\U0010ffff", 9, 1))
	wantAll(t, w, "ete", 1)
	wantAll(t, w, "ete", 2, hit("été", 4, 2))
}

// P12.1: of an empty dictionary there is nothing, but the errors are the same.
func TestAllOfNothing(t *testing.T) {
	w := on(t)
	for edits := range api.MaxEdits + 1 {
		wantAll(t, w, "a", edits)
		wantAll(t, w, "abc", edits)
	}
	wantRefused(t, w, "", 1)
	wantRefused(t, w, "a", 4)
}

// P12.1: words as long as may be, and one whose every rune is taken out.
func TestAllOfTheLongest(t *testing.T) {
	long := func(n int) string { return strings.Repeat("é", n) }
	w := on(t, pair(long(20), 5), pair(long(21), 4), pair(long(22), 3), pair(long(23), 2), pair(long(24), 1))
	wantAll(t, w, long(24), 0, hit(long(24), 1, 0))
	wantAll(t, w, long(24), 3, hit(long(21), 4, 3), hit(long(22), 3, 2), hit(long(23), 2, 1), hit(long(24), 1, 0))
	wantAll(t, w, long(23)+"a", 1, hit(long(23), 2, 1), hit(long(24), 1, 1))
	short := on(t, pair("abcd", 7), pair("x", 8), pair("xyz", 9))
	wantAll(t, short, "a", 3, hit("abcd", 7, 3), hit("x", 8, 1), hit("xyz", 9, 3))
	wantAll(t, short, "a", 2, hit("x", 8, 1))
}

// P12.1: weights from the least to the greatest, of words that share states.
func TestAllTellsWeights(t *testing.T) {
	w := on(t, pair("aa", 1), pair("aab", api.MaxWeight), pair("ba", 7), pair("bab", api.MaxWeight-1), pair("ca", 7))
	wantAll(t, w, "aa", 1, hit("aa", 1, 0), hit("aab", api.MaxWeight, 1), hit("ba", 7, 1), hit("ca", 7, 1))
	wantAll(t, w, "bab", 1, hit("aab", api.MaxWeight, 1), hit("ba", 7, 1), hit("bab", api.MaxWeight-1, 0))
}

// P12.1: as many words as a dictionary may have, all of them near.
func TestAllOfTheGreatest(t *testing.T) {
	var l []api.Pair
	var want []api.Match
	for i := range api.MaxWords {
		word := string([]rune{rune(0x4000 + i)})
		l = append(l, pair(word, 1+i*i%1000))
		want = append(want, hit(word, 1+i*i%1000, 1))
	}
	w := on(t, l...)
	wantAll(t, w, "a", 1, want...)
	wantAll(t, w, "a", 0)
	want[77].Dist = 0
	wantAll(t, w, l[77].Word, 1, want...)
}

func wantRefused(t *testing.T, w *walk.Walk, word string, edits int) {
	t.Helper()
	if l, e := All(w, word, edits); e != api.ErrLevForm || len(l) != 0 {
		t.Errorf("P12.1: All(%.40q, %d) = %s, %d, want nothing, %d", word, edits, show(l), e, api.ErrLevForm)
	}
	found, over := hits(hit("a", 1, 0), hit("b", 1, 1)), changes(pair("c", 5), pair("b", 0))
	for _, l := range [][]api.Match{nil, found} {
		for _, o := range [][]api.Pair{nil, over} {
			if got, e := Merge(l, o, word, edits); e != api.ErrLevForm || len(got) != 0 {
				t.Errorf("P12.2: Merge(.., %.40q, %d) = %s, %d, want nothing, %d", word, edits, show(got), e, api.ErrLevForm)
			}
		}
	}
}

// P12.1, P12.2: lev.New's error.
func TestErrors(t *testing.T) {
	w := on(t, pair("a", 1), pair("b", 2))
	for _, word := range []string{
		"", " ", "a b", "\x00", "\x7f", "\x1f", "\xff", "\xc0\x80", "\xed\xa0\x80", "\xf4\x90\x80\x80", "a\xc3",
		strings.Repeat("a", api.MaxRunes+1), strings.Repeat("\U0010ffff", api.MaxRunes+1), strings.Repeat("a", 1<<16),
	} {
		for edits := -1; edits <= api.MaxEdits+1; edits++ {
			wantRefused(t, w, word, edits)
		}
	}
	for _, edits := range []int{-1, 4, 5, 255, 256, 257, -256, 1 << 32, math.MaxInt, math.MinInt} {
		wantRefused(t, w, "a", edits)
	}
}

// P12.2: what a change does to a word that l has: it goes, or has another weight, or stays as it was.
func TestMergeOfKnownWords(t *testing.T) {
	l := hits(hit("a", 3, 1), hit("ab", 5, 0), hit("bb", 2, 1))
	wantMerge(t, l, nil, "ab", 1, l...)
	wantMerge(t, l, changes(pair("ab", 0)), "ab", 1, hit("a", 3, 1), hit("bb", 2, 1))
	wantMerge(t, l, changes(pair("ab", 6)), "ab", 1, hit("a", 3, 1), hit("ab", 6, 0), hit("bb", 2, 1))
	wantMerge(t, l, changes(pair("ab", 5)), "ab", 1, l...)
	wantMerge(t, l, changes(pair("bb", 0), pair("a", 0), pair("ab", 0)), "ab", 1)
	wantMerge(t, l, changes(pair("b", 0), pair("aba", 0)), "ab", 1, l...)
}

// P12.2: what a change puts in, at each place, and where there was nothing.
func TestMergeOfNewWords(t *testing.T) {
	l := hits(hit("ab", 5, 0), hit("bb", 2, 1))
	over := changes(pair("b", 9), pair("ac", 8), pair("cb", 7), pair("a", 6))
	wantMerge(t, l, over, "ab", 1, hit("a", 6, 1), hit("ab", 5, 0), hit("ac", 8, 1), hit("b", 9, 1), hit("bb", 2, 1), hit("cb", 7, 1))
	wantMerge(t, nil, over, "ab", 1, hit("a", 6, 1), hit("ac", 8, 1), hit("b", 9, 1), hit("cb", 7, 1))
	wantMerge(t, nil, nil, "ab", 1)
	wantMerge(t, nil, changes(pair("ab", 1)), "ab", 0, hit("ab", 1, 0))
}

// P12.2: of several changes of one word the last one counts, whatever was ahead of it.
func TestMergeTakesTheLastChange(t *testing.T) {
	l := hits(hit("ab", 5, 0))
	wantMerge(t, l, changes(pair("ab", 7), pair("ab", 0)), "ab", 1)
	wantMerge(t, l, changes(pair("ab", 0), pair("ab", 7)), "ab", 1, hit("ab", 7, 0))
	wantMerge(t, l, changes(pair("ab", 7), pair("b", 1), pair("ab", 8), pair("b", 2)), "ab", 1, hit("ab", 8, 0), hit("b", 2, 1))
	wantMerge(t, l, changes(pair("b", 7), pair("a", 1), pair("b", -1)), "ab", 1, hit("a", 1, 1), hit("ab", 5, 0))
}

// P12.2: only what is near is put in, up to each distance; what l has of a word goes, also where it is far.
func TestMergeLeavesOutWhatIsFar(t *testing.T) {
	over := changes(pair("sitting", 1), pair("sittin", 2), pair("sitten", 3), pair("kitten", 4), pair("kit", 5), pair("ki", 6))
	wantMerge(t, nil, over, "kitten", 0, hit("kitten", 4, 0))
	wantMerge(t, nil, over, "kitten", 1, hit("kitten", 4, 0), hit("sitten", 3, 1))
	wantMerge(t, nil, over, "kitten", 2, hit("kitten", 4, 0), hit("sitten", 3, 1), hit("sittin", 2, 2))
	wantMerge(t, nil, over, "kitten", 3, hit("kit", 5, 3), hit("kitten", 4, 0), hit("sitten", 3, 1), hit("sittin", 2, 2), hit("sitting", 1, 3))
	l := hits(hit("ki", 9, 1), hit("kitten", 9, 0), hit("zz", 9, 1))
	wantMerge(t, l, over[4:], "kitten", 1, hit("kitten", 9, 0), hit("zz", 9, 1))
}

// P12.2: what is no word is not put in, but what l has of it is out.
func TestMergeOfNoWords(t *testing.T) {
	long := strings.Repeat("a", api.MaxRunes)
	for _, word := range []string{"", " ", "a ", "a b", "ab\x00", "a\x7f", "\xff", "a\xff", "\xc3", "\xed\xa0\x80"} {
		wantMerge(t, nil, changes(pair(word, 5)), "ab", 3)
		wantMerge(t, hits(hit(word, 5, 1), hit("zz", 2, 2)), changes(pair(word, 5)), "ab", 3, hit("zz", 2, 2))
		wantMerge(t, hits(hit("zz", 2, 2), hit(word, 5, 1)), changes(pair("zz", 0)), "ab", 3, hit(word, 5, 1))
	}
	wantMerge(t, nil, changes(pair(long+"a", 5), pair(long[1:], 6)), long, 3, hit(long[1:], 6, 1))
	wantMerge(t, hits(hit(long+"a", 5, 1)), changes(pair(long+"a", 5)), long, 3)
	wantMerge(t, hits(hit(strings.Repeat("a", 1<<16), 5, 1)), changes(pair(strings.Repeat("a", 1<<16), 5)), long, 3)
}

// P12.2: any weight above 0 is one, and any other one takes the word away.
func TestMergeOfAnyWeights(t *testing.T) {
	l := hits(hit("ab", 5, 0))
	for _, weight := range []int{1, api.MaxWeight, api.MaxWeight + 1, 1 << 40, math.MaxInt} {
		wantMerge(t, l, changes(pair("ab", weight)), "ab", 1, hit("ab", weight, 0))
		wantMerge(t, l, changes(pair("b", weight)), "ab", 1, hit("ab", 5, 0), hit("b", weight, 1))
	}
	for _, weight := range []int{0, -1, -api.MaxWeight, math.MinInt} {
		wantMerge(t, l, changes(pair("ab", weight)), "ab", 1)
		wantMerge(t, l, changes(pair("b", weight)), "ab", 1, l...)
	}
}

// P12.2: l may have its words in any order, and several of one word, which stay in its order, or go together.
func TestMergeOfAnyOrder(t *testing.T) {
	l := hits(hit("c", 9, 2), hit("a", 2, 1), hit("b", 1, 1), hit("a", 1, 1), hit("c", 8, 3), hit("a", 3, 0))
	wantMerge(t, l, nil, "a", 1, hit("a", 2, 1), hit("a", 1, 1), hit("a", 3, 0), hit("b", 1, 1), hit("c", 9, 2), hit("c", 8, 3))
	wantMerge(t, l, changes(pair("a", 0)), "a", 1, hit("b", 1, 1), hit("c", 9, 2), hit("c", 8, 3))
	wantMerge(t, l, changes(pair("a", 7), pair("d", 6)), "a", 1, hit("a", 7, 0), hit("b", 1, 1), hit("c", 9, 2), hit("c", 8, 3), hit("d", 6, 1))
}

// P12.2: many of one word stay in l's order, where a sort that is not stable would show.
func TestMergeIsStable(t *testing.T) {
	var l, want []api.Match
	for i := range 900 {
		l = append(l, hit(string(rune('a'+i%3)), i*37%100, i))
	}
	for k := range 3 {
		for i := k; i < len(l); i += 3 {
			want = append(want, l[i])
		}
	}
	wantMerge(t, l, changes(pair("zz", 0)), "a", 1, want...)
}

// P12.2: the rest of l stays as it is: whatever its words are, and whatever is said of them there.
func TestMergeBelievesTheRest(t *testing.T) {
	l := hits(hit("zzz", -5, 77), hit("\xff", math.MinInt, -1), hit("", math.MaxInt, 9), hit("ab", 5, 3), hit("a\x00", 0, 0), hit("a", 1, 9))
	want := hits(hit("", math.MaxInt, 9), hit("a", 1, 9), hit("a\x00", 0, 0), hit("ab", 5, 3), hit("zzz", -5, 77), hit("\xff", math.MinInt, -1))
	wantMerge(t, l, nil, "ab", 0, want...)
	wantMerge(t, l, changes(pair("b", 0), pair("abc", 7)), "ab", 0, want...)
}
