package fuzzy

import (
	"slices"
	"sync"
	"testing"

	"abecedary/api"
	"abecedary/walk"
)

// handed are matches to hand in: in order and not, with words once and several times.
func handed() [][]api.Match {
	return [][]api.Match{
		nil,
		hits(hit("ab", 1, 0)),
		hits(hit("a", 1, 1), hit("ab", 2, 0), hit("b", 3, 1)),
		hits(hit("b", 3, 1), hit("ab", 2, 0), hit("a", 1, 1)),
		hits(hit("b", 3, 1), hit("a", 2, 1), hit("b", 1, 1), hit("a", 4, 1), hit("xx", 5, 2)),
	}
}

// handedOver are changes to hand in: those that do nothing, put in, take away, and all of it.
func handedOver() [][]api.Pair {
	return [][]api.Pair{
		nil,
		changes(pair("xyz", 1)),
		changes(pair("b", 9), pair("aa", 8)),
		changes(pair("b", 0), pair("a", 0), pair("b", 0)),
		changes(pair("b", 7), pair("ab", 0), pair("aba", 6), pair("b", 8), pair("", 3), pair("a", -1)),
	}
}

func spoilHits(l []api.Match) {
	l = l[:cap(l)]
	for i := range l {
		l[i] = hit("spoilt", -9, -9)
	}
}

func spoilPairs(l []api.Pair) {
	for i := range l {
		l[i] = pair("spoilt", -9)
	}
}

// eachMerge goes through all lists to hand in, each time new ones.
func eachMerge(look func(l []api.Match, over []api.Pair)) {
	for i := range handed() {
		for j := range handedOver() {
			look(handed()[i], handedOver()[j])
		}
	}
}

// R5: what is handed in stays as it was, and so does what lies behind its end.
func TestWhatIsHandedInStays(t *testing.T) {
	eachMerge(func(l []api.Match, over []api.Pair) {
		room, roomOver := append(slices.Clone(l), hit("behind", 6, 6)), append(slices.Clone(over), pair("behind", 6))
		was, wasOver := slices.Clone(room), slices.Clone(roomOver)
		for edits := -1; edits <= api.MaxEdits; edits++ {
			Merge(room[:len(l)], roomOver[:len(over)], "ab", edits)
		}
		if !slices.Equal(room, was) || !slices.Equal(roomOver, wasOver) {
			t.Errorf("R5: Merge has changed what it was handed: %s, %v", show(room), roomOver)
		}
	})
}

// R6: what Merge tells is bound neither to what was handed in, nor to what is told another time.
func TestWhatMergeTellsIsTheCallersOwn(t *testing.T) {
	eachMerge(func(l []api.Match, over []api.Pair) {
		was, wasOver := slices.Clone(l), slices.Clone(over)
		got, _ := Merge(l, over, "ab", 1)
		want := slices.Clone(got)
		again, _ := Merge(l, over, "ab", 1)
		spoilHits(again)
		if !slices.Equal(got, want) || !slices.Equal(l, was) || !slices.Equal(over, wasOver) {
			t.Errorf("R6: to write into what Merge told has changed %s, %s or %v", show(got), show(l), over)
		}
		wantMerge(t, l, over, "ab", 1, want...)
		spoilHits(l)
		spoilPairs(over)
		if !slices.Equal(got, want) {
			t.Errorf("R6: what Merge told has changed with what was handed in: %s, want %s", show(got), show(want))
		}
	})
}

// known is a walk, and what is found on it.
func known(t *testing.T) (*walk.Walk, []api.Match) {
	t.Helper()
	w := on(t, pair("a", 3), pair("aab", 4), pair("ab", 5), pair("abx", 6), pair("b", 7), pair("bbb", 8), pair("é", 9))
	return w, hits(hit("a", 3, 1), hit("aab", 4, 1), hit("ab", 5, 0), hit("abx", 6, 1), hit("b", 7, 1))
}

// R5, R6: All changes nothing of the walk, and what it tells is the caller's own.
func TestWhatAllTellsIsTheCallersOwn(t *testing.T) {
	w, want := known(t)
	words := slices.Collect(w.All())
	first, _ := All(w, "ab", 1)
	again, _ := All(w, "ab", 1)
	spoilHits(again)
	wantHits(t, "R6: what All told", first, api.OK, want)
	wantAll(t, w, "ab", 1, want...)
	wantRefused(t, w, "", 1)
	wantAll(t, w, "ab", 1, want...)
	if !slices.Equal(slices.Collect(w.All()), words) {
		t.Error("R5: All has changed the walk")
	}
}

// R3: an empty list is as good as none.
func TestEmptyIsNone(t *testing.T) {
	for _, over := range handedOver() {
		want, _ := Merge(nil, over, "ab", 1)
		wantMerge(t, hits(), over, "ab", 1, want...)
	}
	for _, l := range handed() {
		want, _ := Merge(l, nil, "ab", 1)
		wantMerge(t, l, changes(), "ab", 1, want...)
	}
}

// R7: the same is told always, also where many ask on one walk at once.
func TestManyAskAtOnce(t *testing.T) {
	w, want := known(t)
	l, over := handed()[4], handedOver()[4]
	merged, _ := Merge(l, over, "ab", 1)
	var group sync.WaitGroup
	for range 8 {
		group.Go(func() {
			for range 100 {
				wantAll(t, w, "ab", 1, want...)
				wantAll(t, w, "xé", 0)
				wantMerge(t, l, over, "ab", 1, merged...)
			}
		})
	}
	group.Wait()
}
