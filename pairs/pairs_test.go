package pairs

import (
	"math"
	"math/rand"
	"slices"
	"strconv"
	"strings"
	"testing"

	"abecedary/api"
	"abecedary/letters"
)

func list(l ...api.Pair) []api.Pair { return l }

func pair(word string, weight int) api.Pair {
	return api.Pair{Word: word, Weight: weight}
}

// show has the words quoted: they may be any bytes.
func show(l []api.Pair) string {
	var b strings.Builder
	for _, p := range l {
		b.WriteString("(" + strconv.Quote(p.Word) + " " + strconv.Itoa(p.Weight) + ")")
	}
	return "[" + b.String() + "]"
}

func wantList(t *testing.T, what string, got, want []api.Pair) {
	t.Helper()
	if !slices.Equal(got, want) {
		t.Errorf("%s = %s, want %s", what, show(got), show(want))
	}
}

// rising has n words by rising words: all have four digits behind w.
func rising(n int) []api.Pair {
	var l []api.Pair
	for i := range n {
		l = append(l, pair("w"+strconv.Itoa(10000 + i)[1:], 1+i%7))
	}
	return l
}

// oddTexts, each ahead of all behind it, have edges of the bytes and of the runes; many are no words.
var oddTexts = []string{
	"", "\x00", "\x00\x00", "\n", " ", "!", "A", "a", "a\x00", "a b", "aa", "ab", "abc", "b", "~", "\x7f",
	"\x80", "\xc3", "é", "été", "\xe2\x82", "€", "\xed\xa0\x80", "\uffff", "\U00010000", "\U0010ffff", "\xf4\x90\x80\x80", "\xff", "\xff\xff",
}

// oddWeights have edges of the weights, and many that no dictionary has.
var oddWeights = []int{math.MinInt, -api.MaxWeight, -1, 0, 1, 2, api.MaxWeight, api.MaxWeight + 1, math.MaxInt}

// P6.1
func TestRight(t *testing.T) {
	for _, l := range [][]api.Pair{
		nil,
		{},
		{pair("a", 1)},
		{pair("a", 2)},
		{pair("a", api.MaxWeight-1)},
		{pair("a", api.MaxWeight)},
		{pair("a", 2), pair("b", 3)},
		{pair("a", api.MaxWeight), pair("ab", 1), pair("b", api.MaxWeight), pair("été", 1)},
		{pair("b", 5), pair("é", 5), pair("€", 5), pair("\uffff", 5), pair("\U00010000", 5), pair("\U0010ffff", 5)},
		{pair(strings.Repeat("a", api.MaxRunes-1), 1), pair(strings.Repeat("a", api.MaxRunes), 1)},
		{pair(strings.Repeat("\U0010ffff", api.MaxRunes), 1)},
	} {
		if !Right(l) {
			t.Errorf("Right(%s) = false", show(l))
		}
	}
}

// P6.1: a text that is no word, in each place.
func TestRightRefusesWhatIsNoWord(t *testing.T) {
	for _, s := range []string{
		"", " ", "a b", "a\x00", "a\x7f", "\x7f", "b\n", "\xff", "a\xc3", "\xed\xa0\x80", "b\xf4\x90\x80\x80",
		strings.Repeat("b", api.MaxRunes+1), strings.Repeat("é", api.MaxRunes+1), strings.Repeat("b", 100000),
	} {
		l := list(pair("!", 1), pair("c", 1), pair("\U0010ffff", 1))
		if !Right(l) {
			t.Fatalf("Right(%s) = false", show(l))
		}
		for i := range len(l) + 1 {
			if with := slices.Insert(slices.Clone(l), i, pair(s, 1)); Right(with) {
				t.Errorf("Right(%s) = true", show(with))
			}
		}
		if Right(list(pair(s, 1))) {
			t.Errorf("Right of %q alone: true", s)
		}
		// Also where the order of the bytes is right.
		if with := Norm(append(l, pair(s, 1))); Right(with) {
			t.Errorf("Right(%s) = true", show(with))
		}
	}
}

// P6.1: each weight in each place.
func TestRightOfWeights(t *testing.T) {
	for _, w := range oddWeights {
		for i := range 3 {
			l := list(pair("a", 1), pair("b", 5), pair("c", api.MaxWeight))
			l[i].Weight = w
			if want := w >= 1 && w <= api.MaxWeight; Right(l) != want || Right(l[i:i+1]) != want {
				t.Errorf("Right(%s), or of its pair %d: not %v", show(l), i, want)
			}
		}
	}
}

// P6.1: of the words that are words, each behind each.
func TestRightOfOrder(t *testing.T) {
	for i, a := range oddTexts {
		for j, b := range oddTexts {
			if !letters.Word(a) || !letters.Word(b) {
				continue
			}
			if l := list(pair(a, 1), pair(b, 2)); Right(l) != (i < j) {
				t.Errorf("Right(%s) = %v", show(l), !(i < j))
			}
		}
	}
	for _, l := range [][]api.Pair{
		{pair("a", 1), pair("a", 1)},
		{pair("b", 1), pair("a", 2)},
		{pair("ab", 1), pair("a", 1)},
		{pair("b", 1), pair("a", 1), pair("c", 1)},
		{pair("a", 1), pair("c", 1), pair("b", 1)},
		{pair("a", 1), pair("b", 1), pair("b", 2)},
		{pair("a", 1), pair("b", 1), pair("a", 1)},
		{pair("a", 1), pair("b", 1), pair("c", 1), pair("b", 1)},
	} {
		if Right(l) {
			t.Errorf("Right(%s) = true", show(l))
		}
	}
}

// P6.1: MaxWords pairs and one more, and each of many in a wrong place.
func TestRightOfManyWords(t *testing.T) {
	for n, want := range map[int]bool{
		api.MaxWords - 1:     true,
		api.MaxWords:         true,
		api.MaxWords + 1:     false,
		api.MaxWords + 2:     false,
		2 * api.MaxWords:     false,
		2*api.MaxWords + 100: false,
	} {
		if Right(rising(n)) != want {
			t.Errorf("Right of %d words: not %v", n, want)
		}
	}
	l := rising(api.MaxWords)
	for i, p := range l {
		l[i].Weight = 0
		if Right(l) {
			t.Errorf("Right where the pair %d has no weight: true", i)
		}
		l[i] = pair(l[(i+1)%len(l)].Word, 1)
		if Right(l) {
			t.Errorf("Right where the word %d is the next one: true", i)
		}
		l[i] = p
	}
	if !Right(l) {
		t.Error("Right of what is mended: false")
	}
}

// P6.2
func TestNorm(t *testing.T) {
	for _, c := range []struct{ l, want []api.Pair }{
		{nil, nil},
		{list(), nil},
		{list(pair("b", 1), pair("a", 2), pair("b", 3)), list(pair("a", 2), pair("b", 3))},
		{list(pair("a", 1)), list(pair("a", 1))},
		{list(pair("a", 1), pair("b", 2)), list(pair("a", 1), pair("b", 2))},
		{list(pair("b", 2), pair("a", 1)), list(pair("a", 1), pair("b", 2))},
		{list(pair("a", 1), pair("a", 1)), list(pair("a", 1))},
		{list(pair("a", 9), pair("a", 1)), list(pair("a", 1))},
		{list(pair("a", 1), pair("a", 9)), list(pair("a", 9))},
		{list(pair("a", 1), pair("a", 9), pair("a", 5)), list(pair("a", 5))},
		// The weight 0 and those that no dictionary has stay.
		{list(pair("a", 0)), list(pair("a", 0))},
		{list(pair("a", 7), pair("a", 0)), list(pair("a", 0))},
		{list(pair("a", 0), pair("a", 7)), list(pair("a", 7))},
		{list(pair("a", -1), pair("", math.MaxInt), pair("a b", math.MinInt)), list(pair("", math.MaxInt), pair("a", -1), pair("a b", math.MinInt))},
		// A beginning is ahead; what is no writing is ordered by its bytes.
		{list(pair("abc", 1), pair("ab", 2), pair("", 3), pair("a", 4)), list(pair("", 3), pair("a", 4), pair("ab", 2), pair("abc", 1))},
		{list(pair("\xff", 1), pair("é", 2), pair("\x80", 3), pair("\x00", 4)), list(pair("\x00", 4), pair("\x80", 3), pair("é", 2), pair("\xff", 1))},
		{list(pair("\U00010000", 1), pair("\uffff", 2)), list(pair("\uffff", 2), pair("\U00010000", 1))},
	} {
		wantList(t, "Norm", Norm(c.l), c.want)
	}
}

// P6.2: all texts that are odd, in many orders.
func TestNormOfOddTexts(t *testing.T) {
	var want []api.Pair
	for i, s := range oddTexts {
		want = append(want, pair(s, oddWeights[i%len(oddWeights)]))
	}
	r := rand.New(rand.NewSource(1))
	for range 100 {
		l := slices.Clone(want)
		r.Shuffle(len(l), func(i, j int) { l[i], l[j] = l[j], l[i] })
		wantList(t, "Norm", Norm(l), want)
	}
}

// P6.2: more words than a dictionary has, each many times; the last one of each is told.
func TestNormOfMany(t *testing.T) {
	want := rising(2 * api.MaxWords)
	var l []api.Pair
	for round := range 5 {
		for i := range want {
			// Falling, and with weights that neither rise nor fall from round to round.
			l = append(l, pair(want[len(want)-1-i].Word, 100+round*3%5))
		}
	}
	for i := range want {
		l = append(l, want[i*4097%len(want)])
	}
	wantList(t, "Norm", Norm(l), want)

	var alike []api.Pair
	for i := range 1000 {
		alike = append(alike, pair("b", i*7%13), pair("a", i*5%11))
	}
	alike = append(alike, pair("a", 4), pair("b", 6))
	for range 20 {
		alike = append(alike, pair("c", 1))
	}
	wantList(t, "Norm", Norm(alike), list(pair("a", 4), pair("b", 6), pair("c", 1)))
}

// P6.2: words are ordered by their bytes just as by their runes.
func TestOrderOfRunesIsThatOfBytes(t *testing.T) {
	var l []api.Pair
	for i, r := range []rune{0x10ffff, 0x10000, 0xffff, 0xe000, 0xd7ff, 0x800, 0x7ff, 0x80, 'z', '!'} {
		l = append(l, pair(string(r), i), pair("a"+string(r), i), pair(string(r)+"a", i))
	}
	n := Norm(l)
	if len(n) != len(l) || !slices.IsSortedFunc(n, func(x, y api.Pair) int { return slices.Compare([]rune(x.Word), []rune(y.Word)) }) {
		t.Errorf("Norm = %s", show(n))
	}
}

func wantFound(t *testing.T, l []api.Pair, word string, weight int, found bool) {
	t.Helper()
	if w, ok := Find(l, word); w != weight || ok != found {
		t.Errorf("Find(%s, %q) = %d, %v, want %d, %v", show(l), word, w, ok, weight, found)
	}
}

// P6.2
func TestFind(t *testing.T) {
	wantFound(t, nil, "a", 0, false)
	wantFound(t, nil, "", 0, false)
	l := list(pair("b", 1), pair("a", 2), pair("b", 3))
	wantFound(t, l, "a", 2, true)
	wantFound(t, l, "b", 3, true)
	for _, s := range []string{"", "c", "A", "aa", "ab", "b\x00", " b", "0"} {
		wantFound(t, l, s, 0, false)
	}
	// In the first and in the last place; falling; the weight 0 is one too.
	l = list(pair("c", 5), pair("b", 0), pair("b", 0), pair("a", -7))
	wantFound(t, l, "c", 5, true)
	wantFound(t, l, "b", 0, true)
	wantFound(t, l, "a", -7, true)
	l = list(pair("a", 4), pair("a", 0))
	wantFound(t, l, "a", 0, true)
	l = list(pair("a", 0), pair("a", 4))
	wantFound(t, l, "a", 4, true)
}

// P6.2: words and weights that no dictionary has.
func TestFindOfOddPairs(t *testing.T) {
	var l []api.Pair
	for i, s := range oddTexts {
		l = append(l, pair(s, oddWeights[i%len(oddWeights)]))
	}
	slices.Reverse(l)
	for i, s := range oddTexts {
		wantFound(t, l, s, oddWeights[i%len(oddWeights)], true)
		wantFound(t, slices.DeleteFunc(slices.Clone(l), func(p api.Pair) bool { return p.Word == s }), s, 0, false)
	}
	many := append(rising(api.MaxWords+1), rising(3)...)
	many[len(many)-1].Weight = 100
	wantFound(t, many, "w0002", 100, true)
	wantFound(t, many, "w4096", 1+4096%7, true)
	wantFound(t, many, "w4097", 0, false)
}

// P6.3
func TestMerge(t *testing.T) {
	base := list(pair("a", 1), pair("b", 2))
	for _, c := range []struct{ base, over, want []api.Pair }{
		{nil, nil, nil},
		{base, list(pair("b", 0), pair("c", 5)), list(pair("a", 1), pair("c", 5))},
		{base, nil, base},
		{nil, base, base},
		{base, list(), base},
		// A change of weight, to the same one too.
		{base, list(pair("a", 7)), list(pair("a", 7), pair("b", 2))},
		{base, list(pair("a", 1)), base},
		{base, base, base},
		// 0 for a word that is there, and for one that is not.
		{base, list(pair("a", 0)), list(pair("b", 2))},
		{base, list(pair("x", 0)), base},
		{base, list(pair("a", 0), pair("b", 0)), nil},
		{nil, list(pair("a", 0)), nil},
		// 0 in the base.
		{list(pair("a", 0), pair("b", 2)), nil, list(pair("b", 2))},
		{list(pair("a", 0)), list(pair("a", 3)), list(pair("a", 3))},
		{list(pair("a", 3), pair("a", 0)), nil, nil},
		{list(pair("a", 0), pair("a", 3)), nil, list(pair("a", 3))},
		// Several changes of one word: the last one counts.
		{base, list(pair("a", 0), pair("a", 9)), list(pair("a", 9), pair("b", 2))},
		{base, list(pair("a", 9), pair("a", 0)), list(pair("b", 2))},
		{base, list(pair("c", 9), pair("c", 0)), base},
		// Neither list in order, and words and weights that no dictionary has.
		{list(pair("c", 3), pair("a", 1), pair("c", 4)), list(pair("d", 5), pair("b", 2)), list(pair("a", 1), pair("b", 2), pair("c", 4), pair("d", 5))},
		{list(pair("", 3), pair("\xff", -1)), list(pair("a b", math.MinInt), pair("", 0)), list(pair("a b", math.MinInt), pair("\xff", -1))},
	} {
		wantList(t, "Merge", Merge(c.base, c.over), c.want)
	}
}

// P6.3: a merge may have more words than a dictionary has.
func TestMergeOfMany(t *testing.T) {
	all := rising(api.MaxWords + 100)
	wantList(t, "Merge", Merge(all[100:], all[:100]), all)
	wantList(t, "Merge", Merge(all[:100], all[50:]), all)
	var none []api.Pair
	for _, p := range all {
		none = append(none, pair(p.Word, 0))
	}
	wantList(t, "Merge", Merge(all, none), nil)
	wantList(t, "Merge", Merge(all, none[7:]), all[:7])
	wantList(t, "Merge", Merge(none, all), all)
}

// P6.3
func TestDiff(t *testing.T) {
	a := list(pair("a", 1), pair("b", 2))
	for _, c := range []struct{ a, b, want []api.Pair }{
		{nil, nil, nil},
		{a, list(pair("a", 1), pair("c", 5)), list(pair("b", 0), pair("c", 5))},
		{a, a, nil},
		{a, nil, list(pair("a", 0), pair("b", 0))},
		{nil, a, a},
		{a, list(pair("a", 1)), list(pair("b", 0))},
		{a, list(pair("b", 2)), list(pair("a", 0))},
		{list(pair("b", 2)), a, list(pair("a", 1))},
		{a, list(pair("a", 3), pair("b", 2)), list(pair("a", 3))},
		{a, list(pair("a", 2), pair("b", 1)), list(pair("a", 2), pair("b", 1))},
		{a, list(pair("0", 4), pair("aa", 5), pair("c", 6)), list(pair("0", 4), pair("a", 0), pair("aa", 5), pair("b", 0), pair("c", 6))},
		// b has a pair of weight 0: it is one that a has not just so, or just so.
		{a, list(pair("a", 0), pair("b", 2)), list(pair("a", 0))},
		{a, list(pair("a", 1), pair("b", 2), pair("c", 0)), list(pair("c", 0))},
		{nil, list(pair("c", 0)), list(pair("c", 0))},
		{list(pair("c", 0)), list(pair("c", 0)), nil},
		// a has one: its word is one that b has not, or has otherwise.
		{list(pair("c", 0)), nil, list(pair("c", 0))},
		{list(pair("c", 0)), list(pair("c", 4)), list(pair("c", 4))},
		{list(pair("c", 0), pair("d", 1)), list(pair("d", 1)), list(pair("c", 0))},
		// Neither list in order, and words several times: the last one counts.
		{list(pair("b", 1), pair("a", 2), pair("b", 3)), list(pair("b", 3), pair("a", 2)), nil},
		{list(pair("b", 3), pair("a", 2), pair("b", 1)), list(pair("b", 3), pair("a", 2)), list(pair("b", 3))},
		{list(pair("a", 2)), list(pair("a", 2), pair("a", 5)), list(pair("a", 5))},
		{list(pair("a", 2)), list(pair("a", 5), pair("a", 2)), nil},
		{list(pair("d", 1), pair("b", 1)), list(pair("c", 1), pair("a", 1)), list(pair("a", 1), pair("b", 0), pair("c", 1), pair("d", 0))},
		// Words and weights that no dictionary has.
		{list(pair("", -1), pair("\xff", 7)), list(pair("a b", math.MinInt), pair("\xff", math.MaxInt)), list(pair("", 0), pair("a b", math.MinInt), pair("\xff", math.MaxInt))},
	} {
		wantList(t, "Diff", Diff(c.a, c.b), c.want)
	}
}

// P6.3: with more words than a dictionary has.
func TestDiffOfMany(t *testing.T) {
	all := rising(api.MaxWords + 100)
	wantList(t, "Diff", Diff(all, all), nil)
	wantList(t, "Diff", Diff(nil, all), all)
	wantList(t, "Diff", Diff(all[:50], all), all[50:])
	wantList(t, "Diff", Diff(all[50:], all), all[:50])
	d := Diff(all, all[1:])
	wantList(t, "Diff", d, list(pair("w0000", 0)))
}
