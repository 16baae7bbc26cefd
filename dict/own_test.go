package dict

import (
	"slices"
	"sync"
	"testing"

	"abecedary/api"
)

func spoilPairs(l []api.Pair) {
	l = l[:cap(l)]
	for i := range l {
		l[i] = pair("spoilt", 99)
	}
}

func spoilHits(l []api.Match) {
	l = l[:cap(l)]
	for i := range l {
		l[i] = hit("spoilt", 99, 0)
	}
}

func spoilMachine(m api.Machine) {
	states := m.States[:cap(m.States)]
	for i, s := range states {
		arcs := s.Arcs[:cap(s.Arcs)]
		for k := range arcs {
			arcs[k] = api.Arc{Label: 'x', Out: 9, To: 9}
		}
		states[i] = api.State{Final: true, Out: 99}
	}
}

// R5: what is handed in stays as it was, and so does what lies behind its end, also where it is refused.
func TestWhatIsHandedInStays(t *testing.T) {
	for _, l := range [][]api.Pair{
		nil,
		words(pair("a", 1), pair("b", 2)),
		words(pair("b", 1), pair("a", 2)),
		words(pair("a", 1), pair("", 2)),
		many(0, 100),
	} {
		room := append(slices.Clone(l), pair("c", 6))
		was := slices.Clone(room)
		if d, e := Load(room[:len(l)]); e == api.OK {
			d.Set("d", 4)
			d.Set("a", 4)
			d.Remove("b")
			d.Compact()
		}
		if !slices.Equal(room, was) {
			t.Errorf("R5: Load has changed what it was handed: %s, want %s", showPairs(room), showPairs(was))
		}
	}
}

// R6: what was handed in is not kept.
func TestWhatIsHandedInIsNotKept(t *testing.T) {
	l := many(0, 50)
	d := loaded(t, l...)
	wantSet(t, d, "zz", 1, 0, api.OK)
	spoilPairs(l)
	wantWords(t, d, append(many(0, 50), pair("zz", 1))...)
	d.Compact()
	wantWords(t, d, append(many(0, 50), pair("zz", 1))...)
}

// R6: to write into what was told changes neither the dictionary, nor its clone, nor what was told another time.
func TestWhatIsToldIsTheCallersOwn(t *testing.T) {
	fresh, l := mixed(t)
	built, _ := mixed(t)
	built.Compact()
	near := ask("ab", 2, 9)
	for _, d := range []*Dict{fresh, built} {
		c := d.Clone()
		hits, _ := d.Suggest(near)
		pairs, machine := d.Pairs(), d.Machine()
		wantHits := slices.Clone(hits)
		for range 2 {
			again, _ := d.Suggest(near)
			spoilHits(again)
			spoilPairs(d.Pairs())
			spoilMachine(d.Machine())
			wantWords(t, d, l...)
			wantWords(t, c, l...)
			wantSuggest(t, d, near, wantHits...)
			wantSuggest(t, c, near, wantHits...)
		}
		if !slices.Equal(hits, wantHits) || !slices.Equal(pairs, l) || !sameMachine(machine, c.Machine()) {
			t.Errorf("R6: what was told has changed: %s, %s, %v", showHits(hits), showPairs(pairs), machine)
		}
	}
}

// R6: what was told stays, whatever is done to the dictionary later.
func TestWhatWasToldStays(t *testing.T) {
	d, l := mixed(t)
	near := ask("ab", 2, 9)
	hits, _ := d.Suggest(near)
	pairs, machine := d.Pairs(), d.Machine()
	same := loaded(t, l...)
	want, _ := same.Suggest(near)
	for i := range 100 {
		d.Set(numbered(i), 1)
		d.Set("ab", 20+i)
	}
	d.Remove("a")
	d.Compact()
	if !slices.Equal(hits, want) || !slices.Equal(pairs, l) || !sameMachine(machine, same.Machine()) {
		t.Errorf("R6: what was told has changed: %s, %s, %v", showHits(hits), showPairs(pairs), machine)
	}
}

// R3: an empty list is as good as none.
func TestEmptyIsNone(t *testing.T) {
	wantWords(t, loaded(t, []api.Pair{}...))
	wantWords(t, loaded(t, many(0, 3)[:0]...))
	d, e := Load([]api.Pair{})
	if d == nil || e != api.OK {
		t.Fatalf("R3: Load of an empty list = %v, %d", d, e)
	}
	wantWords(t, d)
}

// R7: the same is told always, also where many ask at once, and where each goes on with a clone of its own.
func TestManyAskAtOnce(t *testing.T) {
	d, l := mixed(t)
	near := ask("ab", 1, 9)
	want, _ := d.Suggest(near)
	changes := d.Changes()
	var group sync.WaitGroup
	for k := range 8 {
		group.Go(func() {
			for i := range 30 {
				wantWords(t, d, l...)
				wantSuggest(t, d, near, want...)
				wantNoWeight(t, d, "b")
				wantChanges(t, d, changes)
				c := d.Clone()
				for n := range 5 * k {
					c.Set(numbered(i*n), 1)
				}
				wantSet(t, c, "ab", 100+k, 7, api.OK)
				wantWeight(t, c, "ab", 100+k)
			}
		})
	}
	group.Wait()
}
