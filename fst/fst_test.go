package fst

import (
	"math"
	"math/rand"
	"slices"
	"strconv"
	"strings"
	"testing"

	"abecedary/api"
	"abecedary/pairs"
)

func list(l ...api.Pair) []api.Pair { return l }

func pair(word string, weight int) api.Pair {
	return api.Pair{Word: word, Weight: weight}
}

// show has the words quoted: they may be any bytes. Of many pairs the first ones are enough.
func show(l []api.Pair) string {
	var b strings.Builder
	for _, p := range l[:min(len(l), 100)] {
		b.WriteString("(" + strconv.Quote(p.Word) + " " + strconv.Itoa(p.Weight) + ")")
	}
	return strconv.Itoa(len(l)) + " pairs [" + b.String() + "]"
}

func showState(s api.State) string {
	var b strings.Builder
	if s.Final {
		b.WriteString("Final ")
	}
	b.WriteString("Out " + strconv.Itoa(s.Out))
	for _, a := range s.Arcs {
		b.WriteString("; " + strconv.QuoteRune(a.Label) + " " + strconv.Itoa(a.Out) + " to " + strconv.Itoa(a.To))
	}
	return "{" + b.String() + "}"
}

func showMachine(m api.Machine) string {
	var b strings.Builder
	b.WriteString("Base " + strconv.Itoa(m.Base) + ", " + strconv.Itoa(len(m.States)) + " states")
	for i, s := range m.States[:min(len(m.States), 100)] {
		b.WriteString("\n\t" + strconv.Itoa(i) + " " + showState(s))
	}
	return b.String()
}

func sameState(a, b api.State) bool {
	return a.Final == b.Final && a.Out == b.Out && slices.Equal(a.Arcs, b.Arcs)
}

func sameMachine(a, b api.Machine) bool {
	return a.Base == b.Base && slices.EqualFunc(a.States, b.States, sameState)
}

func wantMachine(t *testing.T, l []api.Pair, want api.Machine) {
	t.Helper()
	got, e := Build(l)
	if e != api.OK || !sameMachine(got, want) {
		t.Errorf("Build(%s) = %s\n\tand %d, want %s\n\tand OK", show(l), showMachine(got), e, showMachine(want))
	}
}

func wantError(t *testing.T, l []api.Pair, want api.Errno) {
	t.Helper()
	m, e := Build(l)
	if e != want || m.Base != 0 || len(m.States) != 0 {
		t.Errorf("Build(%s) = %s\n\tand %d, want nothing and %d", show(l), showMachine(m), e, want)
	}
}

// wantWords: the words of l, and no other ones, are on the machine of l, and its states are as they should be.
func wantWords(t *testing.T, l []api.Pair) api.Machine {
	t.Helper()
	m, e := Build(l)
	if e != api.OK {
		t.Fatalf("Build(%s): %d", show(l), e)
	}
	if got := wordsOf(m); !slices.Equal(got, l) {
		t.Errorf("the words of the machine of %s are %s", show(l), show(got))
	}
	checkStates(t, m)
	checkOrder(t, m)
	return m
}

func end() api.State { return api.State{Final: true} }

func arc(label rune, out, to int) api.Arc {
	return api.Arc{Label: label, Out: out, To: to}
}

func inner(arcs ...api.Arc) api.State { return api.State{Arcs: arcs} }

func final(out int, arcs ...api.Arc) api.State {
	return api.State{Final: true, Out: out, Arcs: arcs}
}

func machine(base int, states ...api.State) api.Machine {
	return api.Machine{Base: base, States: states}
}

// P7.1: the chapter's examples.
func TestExamples(t *testing.T) {
	wantMachine(t, list(pair("a", 3)), machine(3, end(), inner(arc('a', 0, 0))))
	wantMachine(t, list(pair("ab", 5), pair("b", 2), pair("cb", 9)),
		machine(2, end(), inner(arc('b', 0, 0)), inner(arc('a', 3, 1), arc('b', 0, 0), arc('c', 7, 1))))
}

// P7.1
func TestEmptyDictionary(t *testing.T) {
	wantMachine(t, nil, api.Machine{})
	wantMachine(t, list(), api.Machine{})
}

// P7.1
func TestOneWord(t *testing.T) {
	for _, w := range []int{1, 2, api.MaxWeight - 1, api.MaxWeight} {
		wantMachine(t, list(pair("a", w)), machine(w, end(), inner(arc('a', 0, 0))))
		wantMachine(t, list(pair("aa", w)), machine(w, end(), inner(arc('a', 0, 0)), inner(arc('a', 0, 1))))
		wantMachine(t, list(pair("ab€", w)), machine(w, end(), inner(arc('€', 0, 0)), inner(arc('b', 0, 1)), inner(arc('a', 0, 2))))
	}
	for _, s := range []string{"a", "é", "€", "\U0001f600"} {
		m := wantWords(t, list(pair(strings.Repeat(s, api.MaxRunes), 7)))
		if len(m.States) != api.MaxRunes+1 {
			t.Errorf("%d states of a word of %d runes", len(m.States), api.MaxRunes)
		}
	}
}

// P7.1, P7.2: words that begin alike, and words that are the beginning of others.
func TestWordsThatBeginAlike(t *testing.T) {
	wantMachine(t, list(pair("ab", 3), pair("ac", 5)),
		machine(3, end(), inner(arc('b', 0, 0), arc('c', 2, 0)), inner(arc('a', 0, 1))))
	wantMachine(t, list(pair("a", 7), pair("ab", 4)),
		machine(4, end(), final(3, arc('b', 0, 0)), inner(arc('a', 0, 1))))
	wantMachine(t, list(pair("a", 4), pair("ab", 7)),
		machine(4, end(), final(0, arc('b', 3, 0)), inner(arc('a', 0, 1))))
	wantMachine(t, list(pair("a", 4), pair("ab", 4)),
		machine(4, end(), final(0, arc('b', 0, 0)), inner(arc('a', 0, 1))))
	wantMachine(t, list(pair("a", 9), pair("ab", 5), pair("abc", 6), pair("b", 1)),
		machine(1, end(), final(0, arc('c', 1, 0)), final(4, arc('b', 0, 1)), inner(arc('a', 4, 2), arc('b', 0, 0))))
	wantMachine(t, list(pair("a", 1), pair("aa", 1), pair("aaa", 1)),
		machine(1, end(), final(0, arc('a', 0, 0)), final(0, arc('a', 0, 1)), inner(arc('a', 0, 2))))
}

// P7.1, P7.3: rests are one state where they are the same when they are levelled, and only there.
func TestWordsThatEndAlike(t *testing.T) {
	// Like weights, and weights that lie alike to each other.
	for _, up := range []int{0, 1, 6} {
		wantMachine(t, list(pair("ax", 2), pair("ay", 5), pair("bx", 2+up), pair("by", 5+up)),
			machine(2, end(), inner(arc('x', 0, 0), arc('y', 3, 0)), inner(arc('a', 0, 1), arc('b', up, 1))))
	}
	// Weights that do not.
	wantMachine(t, list(pair("ax", 2), pair("ay", 5), pair("bx", 2), pair("by", 6)),
		machine(2, end(), inner(arc('x', 0, 0), arc('y', 3, 0)), inner(arc('x', 0, 0), arc('y', 4, 0)), inner(arc('a', 0, 1), arc('b', 0, 2))))
	wantMachine(t, list(pair("ax", 2), pair("ay", 5), pair("bx", 5), pair("by", 2)),
		machine(2, end(), inner(arc('x', 0, 0), arc('y', 3, 0)), inner(arc('x', 3, 0), arc('y', 0, 0)), inner(arc('a', 0, 1), arc('b', 0, 2))))
	// The same arcs, but one of both may end there.
	wantMachine(t, list(pair("ax", 2), pair("b", 2), pair("bx", 2)),
		machine(2, end(), inner(arc('x', 0, 0)), final(0, arc('x', 0, 0)), inner(arc('a', 0, 1), arc('b', 0, 2))))
	// Both may end there, with other weights.
	wantMachine(t, list(pair("a", 3), pair("ax", 2), pair("b", 4), pair("bx", 2)),
		machine(2, end(), final(1, arc('x', 0, 0)), final(2, arc('x', 0, 0)), inner(arc('a', 0, 1), arc('b', 0, 2))))
	// One has but the first arcs, or the last ones, of the other.
	wantMachine(t, list(pair("ax", 1), pair("bx", 1), pair("by", 1), pair("cy", 1)),
		machine(1, end(), inner(arc('x', 0, 0)), inner(arc('x', 0, 0), arc('y', 0, 0)), inner(arc('y', 0, 0)), inner(arc('a', 0, 1), arc('b', 0, 2), arc('c', 0, 3))))
	// Longer ends.
	wantMachine(t, list(pair("king", 8), pair("ring", 3), pair("sing", 4)),
		machine(3, end(), inner(arc('g', 0, 0)), inner(arc('n', 0, 1)), inner(arc('i', 0, 2)), inner(arc('k', 5, 3), arc('r', 0, 3), arc('s', 1, 3))))
}

// P7.1: a state has its number as soon as all behind it have theirs, arc by arc as they rise.
func TestNumbers(t *testing.T) {
	// What stands behind b is known from behind a on, so c's rest has the next number.
	wantMachine(t, list(pair("axy", 1), pair("by", 1), pair("cz", 1)),
		machine(1, end(), inner(arc('y', 0, 0)), inner(arc('x', 0, 1)), inner(arc('z', 0, 0)), inner(arc('a', 0, 2), arc('b', 0, 1), arc('c', 0, 3))))
	// The deeper way is later: what stands behind a has the lower number, although more lies behind b.
	wantMachine(t, list(pair("ax", 1), pair("bcy", 1)),
		machine(1, end(), inner(arc('x', 0, 0)), inner(arc('y', 0, 0)), inner(arc('c', 0, 2)), inner(arc('a', 0, 1), arc('b', 0, 3))))
	wantMachine(t, list(pair("acy", 1), pair("bx", 1)),
		machine(1, end(), inner(arc('y', 0, 0)), inner(arc('c', 0, 1)), inner(arc('x', 0, 0)), inner(arc('a', 0, 2), arc('b', 0, 3))))
	// A state that may end has its number behind what it leads to.
	wantMachine(t, list(pair("a", 1), pair("ax", 1), pair("b", 1)),
		machine(1, end(), final(0, arc('x', 0, 0)), inner(arc('a', 0, 1), arc('b', 0, 0))))
}

// P7.1, P7.2: labels are runes, not bytes, and rise as numbers.
func TestRunesOfAllSizes(t *testing.T) {
	wantMachine(t, list(pair("b", 5), pair("é", 4), pair("€", 3), pair("\U0001f600", 2)),
		machine(2, end(), inner(arc(98, 3, 0), arc(233, 2, 0), arc(8364, 1, 0), arc(128512, 0, 0))))
	// Runes that begin with like bytes.
	wantMachine(t, list(pair("è", 1), pair("é", 2)), machine(1, end(), inner(arc(232, 0, 0), arc(233, 1, 0))))
	wantMachine(t, list(pair("aé", 1), pair("a€", 1), pair("b\U0001f600", 1), pair("éé", 1), pair("é€", 1)),
		machine(1, end(), inner(arc(233, 0, 0), arc(8364, 0, 0)), inner(arc(128512, 0, 0)), inner(arc(97, 0, 1), arc(98, 0, 2), arc(233, 0, 1))))
	// The least and the greatest rune of each size.
	edges := []string{"!", "~", "\u0080", "\u07ff", "\u0800", "\ud7ff", "\ue000", "\uffff", "\U00010000", "\U0010ffff"}
	var l []api.Pair
	for i, s := range edges {
		l = append(l, pair(s, 100-i))
	}
	check(t, l)
	for i, s := range edges {
		l[i].Word = "été" + s + "€"
	}
	check(t, l)
}

// P7.1: the edges of the weights.
func TestWeights(t *testing.T) {
	const top = api.MaxWeight
	wantMachine(t, list(pair("a", 1), pair("b", top)), machine(1, end(), inner(arc('a', 0, 0), arc('b', top-1, 0))))
	wantMachine(t, list(pair("a", top), pair("ab", 1)), machine(1, end(), final(top-1, arc('b', 0, 0)), inner(arc('a', 0, 1))))
	wantMachine(t, list(pair("a", top), pair("b", top)), machine(top, end(), inner(arc('a', 0, 0), arc('b', 0, 0))))
	for _, w := range []int{math.MinInt, -top, -1, 0, top + 1, 2 * top, math.MaxInt} {
		wantError(t, list(pair("a", w)), api.ErrFstWeight)
		wantError(t, list(pair("a", 1), pair("b", w)), api.ErrFstWeight)
		wantError(t, list(pair("a", w), pair("b", 1)), api.ErrFstWeight)
		wantError(t, list(pair("a", 1), pair("b", w), pair("c", 1)), api.ErrFstWeight)
	}
}

var noWords = []string{
	"", " ", "b c", "b\x00", "b\x7f", "\x7f", "b\n", "\xff", "b\xc3", "\xed\xa0\x80", "b\xf4\x90\x80\x80", "\xc1\xa1",
	strings.Repeat("b", api.MaxRunes+1), strings.Repeat("é", api.MaxRunes+1), strings.Repeat("b", 100000),
}

// P7.1
func TestWhatIsNoWord(t *testing.T) {
	for _, s := range noWords {
		wantError(t, list(pair(s, 1)), api.ErrFstWord)
		wantError(t, list(pair("a", 1), pair(s, 1)), api.ErrFstWord)
		wantError(t, list(pair(s, 1), pair("a", 1)), api.ErrFstWord)
		wantError(t, list(pair("a", 1), pair(s, 1), pair("c", 1)), api.ErrFstWord)
	}
	for _, s := range []string{"a", "é", "\U0010ffff"} {
		wantWords(t, list(pair(strings.Repeat(s, api.MaxRunes), 1)))
		wantError(t, list(pair(strings.Repeat(s, api.MaxRunes+1), 1)), api.ErrFstWord)
	}
}

// P7.1: words that are alike, and words that fall.
func TestOrder(t *testing.T) {
	for _, c := range [][2]string{
		{"a", "a"}, {"b", "a"}, {"ab", "a"}, {"b", "ab"}, {"été", "ete"}, {"é", "z"}, {"€", "é"}, {"\U00010000", "\uffff"}, {"a", "Z"},
	} {
		wantError(t, list(pair(c[0], 1), pair(c[1], 1)), api.ErrFstOrder)
		wantError(t, list(pair(c[0], 1), pair(c[1], 2)), api.ErrFstOrder)
		wantError(t, list(pair("!", 3), pair(c[0], 2), pair(c[1], 1)), api.ErrFstOrder)
		wantError(t, list(pair(c[0], 2), pair(c[1], 1), pair("\U0010ffff", 3)), api.ErrFstOrder)
	}
	// Alike, with another word between.
	wantError(t, list(pair("a", 1), pair("b", 1), pair("a", 1)), api.ErrFstOrder)
}

// P7.1: the pair that is wrong first counts, and of it what is named first.
func TestSeveralFaults(t *testing.T) {
	for _, c := range []struct {
		l []api.Pair
		e api.Errno
	}{
		// Several things are wrong with one pair.
		{list(pair("", 0)), api.ErrFstWord},
		{list(pair("a b", api.MaxWeight+1)), api.ErrFstWord},
		{list(pair("b", 1), pair("a b", 0)), api.ErrFstWord},
		{list(pair("b", 1), pair("a ", 1)), api.ErrFstWord},
		{list(pair("b", 1), pair("", 1)), api.ErrFstWord},
		{list(pair("b", 1), pair("b", 0)), api.ErrFstWeight},
		{list(pair("b", 1), pair("a", -1)), api.ErrFstWeight},
		{list(pair("b", 1), pair("a", api.MaxWeight+1)), api.ErrFstWeight},
		// Something is wrong with several pairs.
		{list(pair("a", 0), pair("", 1)), api.ErrFstWeight},
		{list(pair("", 1), pair("a", 0)), api.ErrFstWord},
		{list(pair("b", 1), pair("a", 1), pair("", 1)), api.ErrFstOrder},
		{list(pair("b", 1), pair("a", 1), pair("c", 0)), api.ErrFstOrder},
		{list(pair("b", 1), pair("c", 0), pair("a", 1)), api.ErrFstWeight},
		{list(pair("b", 1), pair("a ", 1), pair("a", 0)), api.ErrFstWord},
		{list(pair("b", 0), pair("a", 1)), api.ErrFstWeight},
		{list(pair("c", 1), pair("b", 1), pair("a", 0), pair("", 0)), api.ErrFstOrder},
	} {
		wantError(t, c.l, c.e)
	}
}

// rising has n words by rising words: all have four digits behind w.
func rising(n int) []api.Pair {
	var l []api.Pair
	for i := range n {
		l = append(l, pair("w"+strconv.Itoa(10000 + i)[1:], 1+i%7))
	}
	return l
}

// P7.1
func TestMaxWords(t *testing.T) {
	wantWords(t, rising(api.MaxWords-1))
	wantWords(t, rising(api.MaxWords))
	wantError(t, rising(api.MaxWords+1), api.ErrFstMany)
	wantError(t, rising(api.MaxWords+1000), api.ErrFstMany)
	// That there are too many is told ahead of all that is wrong with the pairs.
	wantError(t, make([]api.Pair, api.MaxWords+1), api.ErrFstMany)
	wantError(t, make([]api.Pair, api.MaxWords), api.ErrFstWord)
	for _, c := range []struct {
		p api.Pair
		e api.Errno
	}{
		{pair("", 1), api.ErrFstWord}, {pair("x", 0), api.ErrFstWeight}, {pair("a", 1), api.ErrFstOrder},
	} {
		l := rising(api.MaxWords)
		l[api.MaxWords-1] = c.p
		wantError(t, l, c.e)
		l = append(l, pair("z", 1))
		wantError(t, l, api.ErrFstMany)
	}
}

// P7.2, P7.3: MaxWords words that share all they can, and such as share little.
func TestManyStates(t *testing.T) {
	// All words of twelve runes of two: a state for each length.
	var l []api.Pair
	for i := range api.MaxWords {
		var s []byte
		for bit := 11; bit >= 0; bit-- {
			s = append(s, 'a'+byte(i>>bit&1))
		}
		l = append(l, pair(string(s), 3))
	}
	if m := wantWords(t, l); len(m.States) != 13 {
		t.Errorf("%d states, want 13", len(m.States))
	}
	// Each rune that is b says its own.
	for i := range l {
		l[i].Weight = 1 + i
	}
	m := wantWords(t, l)
	if len(m.States) != 13 {
		t.Errorf("%d states, want 13", len(m.States))
	}
	for i, s := range m.States[1:] {
		if want := inner(arc('a', 0, i), arc('b', 1<<i, i)); !sameState(s, want) {
			t.Errorf("the state %d is %s, want %s", i+1, showState(s), showState(want))
		}
	}
	// Words of the greatest length, which have hardly an end alike.
	r := rand.New(rand.NewSource(7))
	known := map[string]int{}
	for len(known) < api.MaxWords {
		known[someWord(r, []rune{'a', 'b'}, 1)+strings.Repeat("é", 10)+someWord(r, []rune{97, 233, 8364, 128512}, 13)] = 1 + r.Intn(api.MaxWeight)
	}
	wantWords(t, ofMap(known))
}

// P7.1: one state with MaxWords arcs, and MaxWords states that differ in one arc only.
func TestManyArcs(t *testing.T) {
	var l []api.Pair
	for i := range api.MaxWords {
		l = append(l, pair(string(rune(1000+i)), 1+i))
	}
	m := wantWords(t, l)
	if len(m.States) != 2 || len(m.States[1].Arcs) != api.MaxWords {
		t.Errorf("%d states", len(m.States))
	}
	l = nil
	for i := range api.MaxWords / 2 {
		s := string(rune(1000 + i))
		l = append(l, pair(s+"x", 1), pair(s+"y", 1+i))
	}
	if m = wantWords(t, l); len(m.States) != 2+api.MaxWords/2 {
		t.Errorf("%d states, want %d", len(m.States), 2+api.MaxWords/2)
	}
}

// P7.4: from the least weights to the greatest.
func TestRaised(t *testing.T) {
	l := list(pair("a", 4), pair("ab", 2), pair("b", 1), pair("été", 9), pair("œb", 3))
	m, _ := Build(l)
	for _, by := range []int{1, 2, 77, api.MaxWeight - 9} {
		checkRaised(t, l, m, by)
	}
	wantError(t, raised(l, api.MaxWeight-8), api.ErrFstWeight)
	l = rising(api.MaxWords)
	m, _ = Build(l)
	checkRaised(t, l, m, api.MaxWeight-7)
}

// P7.1: a machine is told just of what pairs takes as a dictionary.
func TestTakesDictionaries(t *testing.T) {
	r := rand.New(rand.NewSource(3))
	words := append([]string{"a", "ab", "b", "é", "€"}, noWords...)
	weights := []int{1, 2, api.MaxWeight, 0, -1, api.MaxWeight + 1}
	for range 20000 {
		var l []api.Pair
		odd := r.Intn(2) // else no text that is no word, and no weight that none has
		for range r.Intn(4) {
			l = append(l, pair(words[r.Intn(5+odd*len(noWords))], weights[r.Intn(3+odd*3)]))
		}
		if _, e := Build(l); (e == api.OK) != pairs.Right(l) {
			t.Fatalf("Build(%s): %d", show(l), e)
		}
	}
}
