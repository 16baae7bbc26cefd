package best

import (
	"cmp"
	"math"
	"math/rand"
	"slices"
	"sort"
	"strings"
	"testing"

	"abecedary/api"
)

// place is below 0 if a is ahead of b: P13.1 by another way of writing it.
func place(a, b api.Match) int {
	return cmp.Or(cmp.Compare(a.Dist, b.Dist), cmp.Compare(b.Weight, a.Weight), strings.Compare(a.Word, b.Word))
}

// modelSelect is P13.2 by sorting all.
func modelSelect(l []api.Match, k int) []api.Match {
	l = slices.Clone(l)
	sort.SliceStable(l, func(i, j int) bool { return place(l[i], l[j]) < 0 })
	return l[:max(0, min(k, len(l), api.MaxBest))]
}

// modelKeeper is P13.3 by a list in order.
type modelKeeper struct {
	room int
	list []api.Match
}

func (k *modelKeeper) add(m api.Match) bool {
	if len(k.list) == k.room && (k.room == 0 || place(m, k.list[k.room-1]) >= 0) {
		return false
	}
	if len(k.list) == k.room {
		k.list = k.list[:k.room-1]
	}
	k.list = modelSelect(append(k.list, m), k.room)
	return true
}

// pool has all matches of some distances, weights and words, edges among them.
func pool() []api.Match {
	var l []api.Match
	for _, dist := range []int{math.MinInt, 0, 1, math.MaxInt} {
		for _, weight := range []int{math.MinInt, 1, 2, math.MaxInt} {
			for _, word := range []string{"", "a", "ab", "é", "\xff"} {
				l = append(l, hit(word, weight, dist))
			}
		}
	}
	return l
}

// P13.1, P13.4: of two unlike matches just one is ahead, of two alike ones none; and what is ahead of what is ahead is ahead.
func TestBetterIsATotalOrder(t *testing.T) {
	all := pool()
	for _, a := range all {
		for _, b := range all {
			if Better(a, b) != (place(a, b) < 0) {
				t.Errorf("P13.1: Better(%s, %s) = %t", show(a), show(b), Better(a, b))
			}
			if (Better(a, b) != Better(b, a)) != (a != b) {
				t.Errorf("P13.4: Better(%s, %s) = %t, and the other way %t", show(a), show(b), Better(a, b), Better(b, a))
			}
			for _, c := range all {
				if Better(a, b) && Better(b, c) && !Better(a, c) {
					t.Errorf("P13.4: %s, %s, %s: the first is not ahead of the last", show(a), show(b), show(c))
				}
			}
		}
	}
}

// eachList goes through all lists of n of those.
func eachList(n int, from []api.Match, look func(l []api.Match)) {
	l := make([]api.Match, n)
	var fill func(i int)
	fill = func(i int) {
		if i == n {
			look(l)
			return
		}
		for _, m := range from {
			l[i] = m
			fill(i + 1)
		}
	}
	fill(0)
}

// wantNotWorse: P13.4: what is selected is of l, and not worse than what is left of it.
func wantNotWorse(t *testing.T, l, selected []api.Match) {
	t.Helper()
	rest := slices.Clone(l)
	for _, m := range selected {
		i := slices.Index(rest, m)
		if i < 0 {
			t.Errorf("P13.4: %s is selected oftener than it is in %s", show(m), show(l...))
			return
		}
		rest = slices.Delete(rest, i, i+1)
	}
	for _, left := range rest {
		for _, m := range selected {
			if Better(left, m) {
				t.Errorf("P13.4: %s is selected of %s, and %s is not", show(m), show(l...), show(left))
			}
		}
	}
}

// wantSame holds Select and a keeper, after each Add, against the models, and both against each other.
func wantSame(t *testing.T, l []api.Match, k int) {
	t.Helper()
	selected := Select(l, k)
	wantSelect(t, l, k, modelSelect(l, k)...)
	wantNotWorse(t, l, selected)
	keeper, model := New(k), modelKeeper{room: max(0, min(k, api.MaxBest))}
	for _, m := range l {
		wantAdd(t, keeper, m, model.add(m))
		wantKept(t, keeper, model.list...)
	}
	if taken := keeper.Take(); !slices.Equal(taken, selected) {
		t.Errorf("P13.4: of %s a keeper of %d keeps %s, Select tells %s", show(l...), k, show(taken...), show(selected...))
	}
	wantTake(t, keeper)
}

// P13.2, P13.3, P13.4: all lists of up to five of some matches, so in each order, for each k.
func TestAllSmallLists(t *testing.T) {
	from := hits(hit("b", 2, 1), hit("a", 2, 1), hit("a", 3, 1), hit("b", 1, 0), hit("a", 9, 2))
	for n := range 6 {
		for k := -1; k <= n+1; k++ {
			eachList(n, from, func(l []api.Match) { wantSame(t, l, k) })
			if t.Failed() {
				t.Fatalf("of lists of %d and %d best", n, k)
			}
		}
	}
}

func drawnList(r *rand.Rand, n, dists, weights, words int) []api.Match {
	var l []api.Match
	for range n {
		word := []rune{rune('a' + r.Intn(words)), rune('à' + r.Intn(words))}
		l = append(l, hit(string(word[r.Intn(2):]), r.Intn(weights)-weights/3, r.Intn(dists)-dists/3))
	}
	return l
}

// P13.2, P13.3, P13.4: drawn lists, with many alike ones and with few, and the same ones in other orders.
func TestDrawnLists(t *testing.T) {
	r := rand.New(rand.NewSource(13))
	for round := range 1500 {
		l := drawnList(r, r.Intn(200), 1+r.Intn(5), 1+r.Intn(30), 1+r.Intn(20))
		k := r.Intn(api.MaxBest + 10)
		want := Select(l, k)
		wantSame(t, l, k)
		wantSame(t, modelSelect(l, k), k)
		for range 3 {
			r.Shuffle(len(l), func(i, j int) { l[i], l[j] = l[j], l[i] })
			wantSame(t, l, k)
			wantSelect(t, l, k, want...)
		}
		if t.Failed() {
			t.Fatalf("of the list of round %d", round)
		}
	}
}

// P13.3: drawn calls of one keeper, with Take among them: what was ahead of Take does not bear on what comes.
func TestDrawnCalls(t *testing.T) {
	r := rand.New(rand.NewSource(133))
	for round := range 300 {
		room := r.Intn(12)
		keeper, model := New(room), modelKeeper{room: room}
		takes := 2 + r.Intn(40)
		for range 300 {
			if r.Intn(takes) == 0 {
				wantTake(t, keeper, model.list...)
				model.list = nil
				continue
			}
			m := drawnList(r, 1, 3, 4, 3)[0]
			wantAdd(t, keeper, m, model.add(m))
			wantKept(t, keeper, model.list...)
		}
		if t.Failed() {
			t.Fatalf("of the calls of round %d", round)
		}
	}
}
