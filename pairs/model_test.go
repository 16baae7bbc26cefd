package pairs

import (
	"math"
	"math/rand"
	"slices"
	"sort"
	"testing"

	"abecedary/api"
)

// known is what a list comes to, by a map: each word's last weight.
func known(lists ...[]api.Pair) map[string]int {
	m := map[string]int{}
	for _, l := range lists {
		for _, p := range l {
			m[p.Word] = p.Weight
		}
	}
	return m
}

func told(m map[string]int) []api.Pair {
	var l []api.Pair
	for s, w := range m {
		l = append(l, pair(s, w))
	}
	sort.Slice(l, func(i, j int) bool { return l[i].Word < l[j].Word })
	return l
}

func mergeByMap(base, over []api.Pair) []api.Pair {
	m := known(base, over)
	for s, w := range m {
		if w == 0 {
			delete(m, s)
		}
	}
	return told(m)
}

func diffByMap(a, b []api.Pair) []api.Pair {
	old, now, m := known(a), known(b), map[string]int{}
	for s := range old {
		if _, ok := now[s]; !ok {
			m[s] = 0
		}
	}
	for s, w := range now {
		if v, ok := old[s]; !ok || v != w {
			m[s] = w
		}
	}
	return told(m)
}

// checkTwo holds all that is told of a and b against the maps, and against what P6.4 says.
func checkTwo(t *testing.T, a, b []api.Pair) {
	t.Helper()
	norm := told(known(b))
	wantList(t, "Norm", Norm(b), norm)
	wantList(t, "Merge", Merge(a, b), mergeByMap(a, b))
	d := Diff(a, b)
	wantList(t, "Diff", d, diffByMap(a, b))
	back := Merge(a, d)
	// What is weighed 0 is not there behind a Merge.
	wantList(t, "Merge(a, Diff(a, b))", back, mergeByMap(nil, b))
	if !slices.ContainsFunc(b, func(p api.Pair) bool { return p.Weight == 0 }) {
		wantList(t, "Merge(a, Diff(a, b))", back, norm)
	}
	if t.Failed() {
		t.Fatalf("of %s and %s", show(a), show(b))
	}
}

// checkThree: a Merge of a Merge is one with both lists of changes.
func checkThree(t *testing.T, a, b, c []api.Pair) {
	t.Helper()
	both := append(slices.Clone(b), c...)
	wantList(t, "Merge of a Merge", Merge(Merge(a, b), c), Merge(a, both))
	if t.Failed() {
		t.Fatalf("of %s, %s and %s", show(a), show(b), show(c))
	}
}

// shortLists are all lists of at most so many of the pairs.
func shortLists(most int, of []api.Pair) [][]api.Pair {
	lists := [][]api.Pair{nil}
	from := 0
	for range most {
		till := len(lists)
		for _, l := range lists[from:till] {
			for _, p := range of {
				lists = append(lists, append(slices.Clone(l), p))
			}
		}
		from = till
	}
	return lists
}

func every(words []string, weights []int) []api.Pair {
	var l []api.Pair
	for _, s := range words {
		for _, w := range weights {
			l = append(l, pair(s, w))
		}
	}
	return l
}

// P6.2, P6.3, P6.4: each short list with each.
func TestShortLists(t *testing.T) {
	lists := shortLists(3, every([]string{"a", "b"}, []int{0, 1, 2}))
	for _, a := range lists {
		for _, b := range lists {
			checkTwo(t, a, b)
		}
	}
	lists = shortLists(2, every([]string{"", "a", "\xff"}, []int{-1, 0, math.MaxInt}))
	for _, a := range lists {
		for _, b := range lists {
			checkTwo(t, a, b)
		}
	}
}

// P6.4
func TestMergeOfMerge(t *testing.T) {
	lists := shortLists(2, every([]string{"a", "b"}, []int{0, 1, 2}))
	for _, a := range lists {
		for _, b := range lists {
			for _, c := range lists {
				checkThree(t, a, b, c)
			}
		}
	}
}

func someList(r *rand.Rand, words []string, weights []int, most int) []api.Pair {
	var l []api.Pair
	for range r.Intn(most + 1) {
		l = append(l, pair(words[r.Intn(len(words))], weights[r.Intn(len(weights))]))
	}
	return l
}

// mixed are the pairs of l in another order, those of one word in the order that they have.
func mixed(r *rand.Rand, l []api.Pair) []api.Pair {
	words := make([]string, len(l))
	rest := map[string][]api.Pair{}
	for i, p := range l {
		words[i] = p.Word
		rest[p.Word] = append(rest[p.Word], p)
	}
	r.Shuffle(len(words), func(i, j int) { words[i], words[j] = words[j], words[i] })
	var m []api.Pair
	for _, s := range words {
		m = append(m, rest[s][0])
		rest[s] = rest[s][1:]
	}
	return m
}

// P6.2, P6.3, P6.4: longer lists, of any texts and weights.
func TestSomeLists(t *testing.T) {
	for seed := range 300 {
		r := rand.New(rand.NewSource(int64(seed)))
		words := oddTexts[:1+r.Intn(len(oddTexts))]
		most := 1 + r.Intn(200)
		a := someList(r, words, oddWeights, most)
		b := someList(r, words, oddWeights, most)
		c := someList(r, words, oddWeights, most)
		checkTwo(t, a, b)
		checkThree(t, a, b, c)
		for _, s := range oddTexts {
			w, ok := known(a)[s]
			wantFound(t, a, s, w, ok)
		}
		want := Merge(a, b)
		for range 3 {
			wantList(t, "Merge with the changes in another order", Merge(a, mixed(r, b)), want)
			wantList(t, "Merge on a base in another order", Merge(mixed(r, a), b), want)
		}
	}
}

// P6.4: words that are there once, so that any order of the changes will do.
func TestOrderOfChanges(t *testing.T) {
	base := list(pair("a", 1), pair("c", 3), pair("e", 5))
	over := list(pair("a", 0), pair("b", 2), pair("c", 9), pair("d", 0))
	want := list(pair("b", 2), pair("c", 9), pair("e", 5))
	r := rand.New(rand.NewSource(2))
	for range 100 {
		r.Shuffle(len(over), func(i, j int) { over[i], over[j] = over[j], over[i] })
		wantList(t, "Merge", Merge(base, over), want)
	}
	// Of like words the order is seen.
	wantList(t, "Merge", Merge(base[:1], list(pair("a", 0), pair("a", 4))), list(pair("a", 4)))
	wantList(t, "Merge", Merge(base[:1], list(pair("a", 4), pair("a", 0))), nil)
}

// P6.4: from one list to another one and back, with as many words as a dictionary has.
func TestThereAndBack(t *testing.T) {
	all := rising(api.MaxWords)
	for seed := range 20 {
		r := rand.New(rand.NewSource(int64(seed)))
		a := someList(r, oddTexts, []int{1, 2, 3}, 50)
		b := append(Norm(someList(r, oddTexts, []int{1, api.MaxWeight}, 50)), all[r.Intn(len(all)):]...)
		wantList(t, "Merge(a, Diff(a, b))", Merge(a, Diff(a, b)), Norm(b))
		wantList(t, "Merge(b, Diff(b, a))", Merge(b, Diff(b, a)), Norm(a))
	}
	if got := Merge(all[:9], Diff(all[:9], all)); !Right(got) {
		t.Error("no dictionary behind Diff and Merge")
	}
}
