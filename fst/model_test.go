package fst

import (
	"math/rand"
	"slices"
	"sort"
	"strconv"
	"strings"
	"testing"

	"abecedary/api"
)

// leftOver are the rests of the words of l that begin with head, and their weights.
func leftOver(l []api.Pair, head string) map[string]int {
	m := map[string]int{}
	for _, p := range l {
		if tail, ok := strings.CutPrefix(p.Word, head); ok {
			m[tail] = p.Weight
		}
	}
	return m
}

func leastOf(m map[string]int) int {
	w := api.MaxWeight + 1
	for _, v := range m {
		w = min(w, v)
	}
	return w
}

// levelled is a text of what m is when its least is taken off: such texts are like just if the levelled ones are.
func levelled(m map[string]int) string {
	base := leastOf(m)
	var lines []string
	for s, w := range m {
		lines = append(lines, strconv.Quote(s)+" "+strconv.Itoa(w-base))
	}
	sort.Strings(lines)
	return strings.Join(lines, "\n")
}

// firstRunes are those with which the texts of m begin, rising.
func firstRunes(m map[string]int) []rune {
	var l []rune
	for s := range m {
		for _, r := range s {
			l = append(l, r)
			break
		}
	}
	slices.Sort(l)
	return slices.Compact(l)
}

// model makes a machine as the chapter tells it: states are the levelled rests, written out.
type model struct {
	words   []api.Pair
	machine api.Machine
	numbers map[string]int
}

func (m *model) visit(head string) int {
	rests := leftOver(m.words, head)
	name := levelled(rests)
	if n, ok := m.numbers[name]; ok {
		return n
	}
	base := leastOf(rests)
	var s api.State
	if w, ok := rests[""]; ok {
		s.Final, s.Out = true, w-base
	}
	for _, r := range firstRunes(rests) {
		next := head + string(r)
		s.Arcs = append(s.Arcs, api.Arc{Label: r, Out: leastOf(leftOver(m.words, next)) - base, To: m.visit(next)})
	}
	m.numbers[name] = len(m.machine.States)
	m.machine.States = append(m.machine.States, s)
	return m.numbers[name]
}

func byModel(l []api.Pair) api.Machine {
	if len(l) == 0 {
		return api.Machine{}
	}
	m := model{words: l, numbers: map[string]int{}}
	m.machine.Base = leastOf(leftOver(l, ""))
	m.visit("")
	return m.machine
}

// wordsOf are all words that lead from the root to a state that is Final, with what is added up on the way.
func wordsOf(m api.Machine) []api.Pair {
	var l []api.Pair
	var follow func(n int, word string, sum int)
	follow = func(n int, word string, sum int) {
		s := m.States[n]
		if s.Final {
			l = append(l, pair(word, sum+s.Out))
		}
		for _, a := range s.Arcs {
			follow(a.To, word+string(a.Label), sum+a.Out)
		}
	}
	if len(m.States) > 0 {
		follow(len(m.States)-1, "", m.Base)
	}
	return l
}

// unlikeRests is how many unlike levelled rests there are behind beginnings of words of l, the whole word among them.
func unlikeRests(l []api.Pair) int {
	names := map[string]int{}
	for _, p := range l {
		for i := range p.Word {
			names[levelled(leftOver(l, p.Word[:i]))]++
		}
		names[levelled(leftOver(l, p.Word))]++
	}
	return len(names)
}

// P7.3: what holds of the states whatever the dictionary is.
func checkStates(t *testing.T, m api.Machine) {
	t.Helper()
	seen := map[string]int{}
	for i, s := range m.States {
		name := showState(s)
		if j, ok := seen[name]; ok {
			t.Errorf("P7.3: the states %d and %d are alike: %s", j, i, name)
		}
		seen[name] = i
		if !s.Final && s.Out != 0 {
			t.Errorf("P7.1: the state %d is not Final, and has the Out %d", i, s.Out)
		}
		checkOuts(t, i, s)
		for j, a := range s.Arcs {
			if a.To < 0 || a.To >= i {
				t.Errorf("P7.3: an arc leads from the state %d to %d", i, a.To)
			}
			if j > 0 && s.Arcs[j-1].Label >= a.Label {
				t.Errorf("P7.1: the arcs of the state %d do not rise: %s", i, name)
			}
		}
	}
}

// checkOuts: the least of what a state and its arcs say is 0.
func checkOuts(t *testing.T, number int, s api.State) {
	t.Helper()
	low := api.MaxWeight
	if s.Final {
		low = s.Out
	}
	for _, a := range s.Arcs {
		low = min(low, a.Out)
	}
	if low != 0 {
		t.Errorf("P7.3: the least of the state %d is %d: %s", number, low, showState(s))
	}
}

// checkOrder: P7.1's numbers, by a walk through the machine that is told: each state is the next one when it is left for the first time.
func checkOrder(t *testing.T, m api.Machine) {
	t.Helper()
	next := 0
	left := make([]bool, len(m.States))
	var follow func(n int)
	follow = func(n int) {
		if left[n] {
			return
		}
		for _, a := range m.States[n].Arcs {
			follow(a.To)
		}
		if n != next {
			t.Errorf("P7.1: the state %d should have the number %d", n, next)
		}
		left[n] = true
		next++
	}
	if len(m.States) > 0 {
		follow(len(m.States) - 1)
	}
	if next != len(m.States) {
		t.Errorf("P7.1: %d of %d states are reached", next, len(m.States))
	}
}

// raised has all weights greater by that number.
func raised(l []api.Pair, by int) []api.Pair {
	l = slices.Clone(l)
	for i := range l {
		l[i].Weight += by
	}
	return l
}

func checkRaised(t *testing.T, l []api.Pair, m api.Machine, by int) {
	t.Helper()
	want := m
	if len(l) > 0 {
		want.Base += by
	}
	wantMachine(t, raised(l, by), want)
}

// check holds the machine of l against the model and against each promise.
func check(t *testing.T, l []api.Pair) {
	t.Helper()
	m := byModel(l)
	wantMachine(t, l, m)
	m, _ = Build(l)
	if got := wordsOf(m); !slices.Equal(got, l) {
		t.Errorf("P7.2: the words of the machine are %s", show(got))
	}
	if want := unlikeRests(l); len(m.States) != want {
		t.Errorf("P7.3: %d states, want %d", len(m.States), want)
	}
	checkStates(t, m)
	checkOrder(t, m)
	checkRaised(t, l, m, 1)
	checkRaised(t, l, m, 1000)
	if t.Failed() {
		t.Fatalf("of %s", show(l))
	}
}

// everyDictionary goes through all dictionaries of the words (which rise), each with one of the weights or not there.
func everyDictionary(words []string, weights []int, look func([]api.Pair)) {
	if len(words) == 0 {
		look(nil)
		return
	}
	everyDictionary(words[1:], weights, func(l []api.Pair) {
		look(l)
		for _, w := range weights {
			look(append(list(pair(words[0], w)), l...))
		}
	})
}

// P7.1 to P7.4
func TestSmallDictionaries(t *testing.T) {
	everyDictionary([]string{"a", "aa", "ab", "b", "ba", "bb"}, []int{1, 2, 5}, func(l []api.Pair) { check(t, l) })
	everyDictionary([]string{"aab", "ab", "abb", "b", "bab", "é", "éab", "€b", "\U0010ffff", "\U0010ffffab"}, []int{3}, func(l []api.Pair) { check(t, l) })
}

// someWord has few runes to choose from, so that words begin and end alike.
func someWord(r *rand.Rand, runes []rune, most int) string {
	var s []rune
	for range 1 + r.Intn(most) {
		s = append(s, runes[r.Intn(len(runes))])
	}
	return string(s)
}

// ofMap are the words of m with their weights, by rising words.
func ofMap(m map[string]int) []api.Pair {
	var l []api.Pair
	for s, w := range m {
		l = append(l, pair(s, w))
	}
	sort.Slice(l, func(i, j int) bool { return l[i].Word < l[j].Word })
	return l
}

func someDictionary(r *rand.Rand, runes []rune, most, weights int) []api.Pair {
	m := map[string]int{}
	for range r.Intn(80) {
		m[someWord(r, runes, most)] = 1 + r.Intn(weights)
	}
	return ofMap(m)
}

// P7.1 to P7.4
func TestSomeDictionaries(t *testing.T) {
	runes := []rune{33, 97, 98, 126, 128, 233, 2047, 2048, 8364, 55295, 57344, 65535, 65536, 128512, 1114111}
	for seed := range 400 {
		r := rand.New(rand.NewSource(int64(seed)))
		of := runes[r.Intn(len(runes)):]
		of = of[:1+r.Intn(len(of))]
		most := []int{3, 8, api.MaxRunes}[r.Intn(3)]
		weights := []int{1, 2, 4, api.MaxWeight - 1000}[r.Intn(4)]
		check(t, someDictionary(r, of, most, weights))
	}
}
