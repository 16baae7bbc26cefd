package best

import (
	"slices"
	"sync"
	"testing"

	"abecedary/api"
)

// handed is a list to hand in, out of order, with alike ones.
func handed() []api.Match {
	return hits(hit("b", 9, 2), hit("a", 3, 1), hit("c", 4, 1), hit("a", 3, 1), hit("é", 1, 0), hit("d", 9, 2))
}

func spoil(l []api.Match) {
	l = l[:cap(l)]
	for i := range l {
		l[i] = hit("spoilt", 99, -99)
	}
}

// R5: what Select is handed stays as it was, and so does what lies behind its end.
func TestWhatIsHandedInStays(t *testing.T) {
	room := append(handed(), hit("behind", 6, 6))
	was := slices.Clone(room)
	for k := -1; k < len(room)+1; k++ {
		Select(room[:len(room)-1], k)
		if !slices.Equal(room, was) {
			t.Fatalf("R5: Select(.., %d) has changed what it was handed: %s", k, show(room...))
		}
	}
}

// R6: what Select tells is bound neither to what was handed in, nor to what is told another time.
func TestWhatSelectTellsIsTheCallersOwn(t *testing.T) {
	for k := range len(handed()) + 2 {
		// In order, too: there a piece of the list itself would do.
		for _, l := range [][]api.Match{handed(), modelSelect(handed(), 9)} {
			was, want := slices.Clone(l), modelSelect(l, k)
			got, again := Select(l, k), Select(l, k)
			spoil(again)
			if !slices.Equal(got, want) || !slices.Equal(l, was) {
				t.Errorf("R6: to write into what Select told has changed %s or %s", show(got...), show(l...))
			}
			wantSelect(t, l, k, want...)
			spoil(l)
			if !slices.Equal(got, want) {
				t.Errorf("R6: what Select told has changed with what was handed in: %s, want %s", show(got...), show(want...))
			}
		}
	}
}

// R6: what Take tells is the caller's own: the keeper goes on without it, and does not write into it.
func TestWhatTakeTellsIsTheCallersOwn(t *testing.T) {
	a, b, c := hit("a", 1, 0), hit("b", 1, 0), hit("c", 1, 0)
	k := New(2)
	wantAdd(t, k, a, true)
	wantAdd(t, k, b, true)
	first := k.Take()
	wantAdd(t, k, c, true)
	wantAdd(t, k, c, true)
	if !slices.Equal(first, hits(a, b)) {
		t.Errorf("R6: what Take told has changed with what was added: %s", show(first...))
	}
	spoil(first)
	wantKept(t, k, c, c)
	wantAdd(t, k, a, true)
	wantTake(t, k, a, c)
}

// A keeper that has let go of a match holds on to nothing of it.
func TestWhatIsGoneIsNotKept(t *testing.T) {
	k := New(api.MaxBest)
	for _, m := range many(2 * api.MaxBest) {
		k.Add(m)
	}
	k.Take()
	for _, m := range k.kept[:cap(k.kept)] {
		if m != (api.Match{}) {
			t.Errorf("behind Take the keeper holds on to %s", show(m))
		}
	}
}

// Each keeper goes its own way.
func TestKeepersAreApart(t *testing.T) {
	one, other := New(2), New(2)
	wantAdd(t, one, hit("a", 1, 0), true)
	wantKept(t, other)
	wantAdd(t, other, hit("b", 2, 0), true)
	wantAdd(t, one, hit("c", 3, 0), true)
	wantTake(t, one, hit("c", 3, 0), hit("a", 1, 0))
	wantTake(t, other, hit("b", 2, 0))
}

// R3: an empty list is as good as none.
func TestEmptyIsNone(t *testing.T) {
	for _, k := range []int{-1, 0, 1, 99} {
		wantSelect(t, hits(), k)
		wantSelect(t, handed()[:0], k)
	}
}

// R7: the same is told always, also where many ask at once.
func TestManyAskAtOnce(t *testing.T) {
	l := handed()
	want := modelSelect(l, 4)
	var group sync.WaitGroup
	for range 8 {
		group.Go(func() {
			for range 100 {
				wantSelect(t, l, 4, want...)
			}
		})
	}
	group.Wait()
}
