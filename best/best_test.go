package best

import (
	"math"
	"slices"
	"strconv"
	"strings"
	"testing"

	"abecedary/api"
)

func hit(word string, weight, dist int) api.Match {
	return api.Match{Word: word, Weight: weight, Dist: dist}
}

func hits(l ...api.Match) []api.Match { return l }

// show: of many matches the first ones are enough, and of a long text the beginning.
func show(l ...api.Match) string {
	var b strings.Builder
	for _, m := range l[:min(len(l), 70)] {
		b.WriteString(strconv.Quote(m.Word[:min(len(m.Word), 60)]) + " " + strconv.Itoa(m.Weight) + " " + strconv.Itoa(m.Dist) + ", ")
	}
	return "(" + b.String() + strconv.Itoa(len(l)) + " in all)"
}

// wantAhead: a is ahead of b, so b is not ahead of a.
func wantAhead(t *testing.T, a, b api.Match) {
	t.Helper()
	if !Better(a, b) {
		t.Errorf("P13.1: Better(%s, %s) = false, want true", show(a), show(b))
	}
	if Better(b, a) {
		t.Errorf("P13.1: Better(%s, %s) = true, want false", show(b), show(a))
	}
}

func wantSelect(t *testing.T, l []api.Match, k int, want ...api.Match) {
	t.Helper()
	if got := Select(l, k); !slices.Equal(got, want) {
		t.Errorf("P13.2: Select(%s, %d) tells %s, want %s", show(l...), k, show(got...), show(want...))
	}
}

func wantAdd(t *testing.T, k *Keeper, m api.Match, want bool) {
	t.Helper()
	if got := k.Add(m); got != want {
		t.Errorf("P13.3: Add(%s) = %t, want %t", show(m), got, want)
	}
}

// wantKept asks a keeper that keeps those, the best first, twice: to be asked must not change it.
func wantKept(t *testing.T, k *Keeper, want ...api.Match) {
	t.Helper()
	var last api.Match
	if len(want) > 0 {
		last = want[len(want)-1]
	}
	for range 2 {
		if n := k.Len(); n != len(want) {
			t.Errorf("P13.3: Len() = %d, want %d", n, len(want))
		}
		if m, ok := k.Worst(); m != last || ok != (len(want) > 0) {
			t.Errorf("P13.3: Worst() = %s, %t, want %s, %t", show(m), ok, show(last), len(want) > 0)
		}
	}
}

// wantTake takes those, the best first, and finds none behind it.
func wantTake(t *testing.T, k *Keeper, want ...api.Match) {
	t.Helper()
	if got := k.Take(); !slices.Equal(got, want) {
		t.Errorf("P13.3: Take() tells %s, want %s", show(got...), show(want...))
	}
	wantKept(t, k)
	if got := k.Take(); len(got) != 0 {
		t.Errorf("P13.3: Take() behind Take() tells %s, want none", show(got...))
	}
}

// P13.1, P13.2: the chapter's examples.
func TestChapter(t *testing.T) {
	for _, x := range []struct {
		a, b api.Match
		want bool
	}{
		{hit("a", 3, 1), hit("b", 9, 2), true},
		{hit("a", 3, 1), hit("b", 9, 1), false},
		{hit("a", 3, 1), hit("b", 3, 1), true},
	} {
		if got := Better(x.a, x.b); got != x.want {
			t.Errorf("P13.1: Better(%s, %s) = %t, want %t", show(x.a), show(x.b), got, x.want)
		}
	}
	wantSelect(t, hits(hit("b", 9, 2), hit("a", 3, 1), hit("c", 4, 1)), 2, hit("c", 4, 1), hit("a", 3, 1))
}

// P13.1: the distance comes first, whatever weight and word say; then the weight; then the word.
func TestBetter(t *testing.T) {
	wantAhead(t, hit("b", 1, 0), hit("a", 9, 1))
	wantAhead(t, hit("a", 9, 0), hit("b", 1, 1))
	wantAhead(t, hit("a", 5, 2), hit("a", 5, 3))
	wantAhead(t, hit("b", 9, 1), hit("a", 8, 1))
	wantAhead(t, hit("a", 9, 1), hit("b", 8, 1))
	wantAhead(t, hit("a", 9, 1), hit("a", 8, 1))
	wantAhead(t, hit("a", 9, 1), hit("b", 9, 1))
}

// P13.1: nothing is ahead of what is alike.
func TestBetterOfAlike(t *testing.T) {
	for _, m := range hits(hit("", 0, 0), hit("a", 3, 1), hit("été", 1, 3), hit("\xff", math.MinInt, math.MinInt), hit("\x00", math.MaxInt, math.MaxInt)) {
		if Better(m, m) {
			t.Errorf("P13.1: Better(%s, the same) = true, want false", show(m))
		}
	}
}

// P13.1: numbers may be any: what lies between two of them may be more than a number holds.
func TestBetterOfAnyNumbers(t *testing.T) {
	numbers := []int{math.MinInt, math.MinInt + 1, -1 << 32, -1, 0, 1, 3, api.MaxWeight, 1 << 32, math.MaxInt - 1, math.MaxInt}
	for i, less := range numbers {
		for _, more := range numbers[i+1:] {
			wantAhead(t, hit("a", 5, less), hit("a", 5, more))
			wantAhead(t, hit("b", less, less), hit("a", more, more))
			wantAhead(t, hit("a", more, 1), hit("a", less, 1))
			wantAhead(t, hit("b", more, 1), hit("a", less, 1))
		}
	}
}

// P13.1: words are held against each other byte by byte, also where they are none.
func TestBetterOfAnyWords(t *testing.T) {
	words := []string{"", "\x00", "\x00\x00", " ", "A", "a", "a\x00", "aa", "ab", "abc", "b", "zz", "z\x7f", "\x80", "é", "été", "\uffff", "\U00010000", "\xff", "\xff\x00", "\xff\xff", strings.Repeat("\xff", 1000)}
	for i, less := range words {
		for _, more := range words[i+1:] {
			wantAhead(t, hit(less, 7, 2), hit(more, 7, 2))
		}
	}
}

// P13.2: in order, for each k; k may be more than there are.
func TestSelect(t *testing.T) {
	l := hits(hit("d", 9, 2), hit("c", 2, 1), hit("a", 2, 1), hit("x", 1, 0), hit("b", 5, 1), hit("a", 9, 3))
	want := hits(hit("x", 1, 0), hit("b", 5, 1), hit("a", 2, 1), hit("c", 2, 1), hit("d", 9, 2), hit("a", 9, 3))
	for k := 1; k <= len(want); k++ {
		wantSelect(t, l, k, want[:k]...)
		wantSelect(t, want, k, want[:k]...)
	}
	for _, k := range []int{7, api.MaxBest, api.MaxBest + 1, 1 << 32, math.MaxInt} {
		wantSelect(t, l, k, want...)
	}
}

// P13.2: none, if k is below 1, and of nothing none.
func TestSelectOfNothing(t *testing.T) {
	l := hits(hit("a", 1, 0), hit("b", 2, 0))
	for _, k := range []int{0, -1, -api.MaxBest, -1 << 32, math.MinInt} {
		wantSelect(t, l, k)
		wantSelect(t, nil, k)
	}
	for _, k := range []int{1, 2, api.MaxBest, math.MaxInt} {
		wantSelect(t, nil, k)
	}
}

// P13.2: alike ones are all told, beside each other, as far as there is room.
func TestSelectOfAlike(t *testing.T) {
	a, b, c := hit("a", 3, 1), hit("b", 9, 2), hit("c", 4, 1)
	l := hits(b, a, c, a, b, a)
	want := hits(c, a, a, a, b, b)
	for k := 1; k <= len(want); k++ {
		wantSelect(t, l, k, want[:k]...)
	}
	wantSelect(t, make([]api.Match, 3), 2, make([]api.Match, 2)...)
	wantSelect(t, hits(hit("a", 1, 1), hit("a", 2, 1), hit("a", 2, 0)), 3, hit("a", 2, 0), hit("a", 2, 1), hit("a", 1, 1))
}

// many are n matches, the best first.
func many(n int) []api.Match {
	var l []api.Match
	for i := range n {
		l = append(l, hit("w"+strconv.Itoa(1000+i), 5, i/10))
	}
	return l
}

func backward(l []api.Match) []api.Match {
	l = slices.Clone(l)
	slices.Reverse(l)
	return l
}

// P13.2: at most MaxBest, however many there are and however many are asked for.
func TestSelectOfTheMost(t *testing.T) {
	for _, n := range []int{api.MaxBest - 1, api.MaxBest, api.MaxBest + 1, 2 * api.MaxBest, 1000} {
		all := many(n)
		for _, k := range []int{1, api.MaxBest - 1, api.MaxBest, api.MaxBest + 1, 1000, math.MaxInt} {
			want := all[:min(n, k, api.MaxBest)]
			wantSelect(t, all, k, want...)
			wantSelect(t, backward(all), k, want...)
		}
	}
	wantSelect(t, make([]api.Match, 100), 100, make([]api.Match, api.MaxBest)...)
}

// P13.3: what a keeper does from the first one on: it fills, then the worst one goes.
func TestKeeper(t *testing.T) {
	a, b, c, d := hit("a", 1, 1), hit("b", 1, 2), hit("c", 1, 3), hit("d", 1, 4)
	k := New(2)
	wantKept(t, k)
	wantAdd(t, k, c, true)
	wantKept(t, k, c)
	wantAdd(t, k, d, true)
	wantKept(t, k, c, d)
	wantAdd(t, k, b, true)
	wantKept(t, k, b, c)
	wantAdd(t, k, d, false)
	wantKept(t, k, b, c)
	wantAdd(t, k, a, true)
	wantKept(t, k, a, b)
	wantTake(t, k, a, b)
}

// P13.3: one that is like the worst one does not take its place, but finds room where there is some.
func TestKeeperOfAlike(t *testing.T) {
	a, b := hit("a", 5, 1), hit("b", 5, 1)
	k := New(3)
	wantAdd(t, k, b, true)
	wantAdd(t, k, b, true)
	wantAdd(t, k, a, true)
	wantKept(t, k, a, b, b)
	wantAdd(t, k, b, false)
	wantAdd(t, k, a, true)
	wantKept(t, k, a, a, b)
	wantAdd(t, k, a, true)
	wantKept(t, k, a, a, a)
	wantAdd(t, k, a, false)
	wantAdd(t, k, b, false)
	wantTake(t, k, a, a, a)
}

// P13.3: each part of the order tells whether one is kept.
func TestKeeperOfOne(t *testing.T) {
	k := New(1)
	wantAdd(t, k, hit("m", 5, 2), true)
	for _, m := range hits(hit("m", 5, 2), hit("n", 5, 2), hit("a", 4, 2), hit("a", 9, 3)) {
		wantAdd(t, k, m, false)
		wantKept(t, k, hit("m", 5, 2))
	}
	for _, m := range hits(hit("l", 5, 2), hit("z", 6, 2), hit("zz", 1, 1)) {
		wantAdd(t, k, m, true)
		wantKept(t, k, m)
	}
	wantTake(t, k, hit("zz", 1, 1))
}

// P13.3: a keeper of none keeps nothing, as Select would tell none.
func TestKeeperOfNone(t *testing.T) {
	for _, n := range []int{0, -1, -api.MaxBest, -1 << 32, math.MinInt} {
		k := New(n)
		wantKept(t, k)
		for _, m := range hits(hit("a", 1, 0), hit("", 0, 0), hit("a", math.MaxInt, math.MinInt)) {
			wantAdd(t, k, m, false)
			wantKept(t, k)
		}
		wantTake(t, k)
	}
}

// P13.3: at most MaxBest are kept.
func TestKeeperOfTheMost(t *testing.T) {
	all := many(2 * api.MaxBest)
	for _, n := range []int{api.MaxBest - 1, api.MaxBest, api.MaxBest + 1, 1 << 32, math.MaxInt} {
		room := min(n, api.MaxBest)
		best := New(n)
		for i, m := range all {
			wantAdd(t, best, m, i < room)
			wantKept(t, best, all[:min(i+1, room)]...)
		}
		wantTake(t, best, all[:room]...)
		best = New(n)
		for i, m := range backward(all) {
			wantAdd(t, best, m, true)
			wantKept(t, best, all[len(all)-1-i:][:min(i+1, room)]...)
		}
		wantTake(t, best, all[:room]...)
	}
}

// P13.3: behind Take a keeper begins anew, with as much room as before.
func TestKeeperBehindTake(t *testing.T) {
	a, b, c := hit("a", 1, 0), hit("b", 1, 0), hit("c", 1, 0)
	k := New(2)
	wantTake(t, k)
	for range 3 {
		wantAdd(t, k, c, true)
		wantAdd(t, k, b, true)
		wantAdd(t, k, a, true)
		wantAdd(t, k, c, false)
		wantKept(t, k, a, b)
		wantTake(t, k, a, b)
		wantAdd(t, k, c, true)
		wantTake(t, k, c)
	}
}

// P13.3: a zero match that is kept is told with true, and none with false.
func TestKeeperOfZero(t *testing.T) {
	k := New(2)
	wantAdd(t, k, api.Match{}, true)
	wantKept(t, k, api.Match{})
	wantAdd(t, k, hit("", -1, 0), true)
	wantKept(t, k, api.Match{}, hit("", -1, 0))
	wantTake(t, k, api.Match{}, hit("", -1, 0))
}
