package walk

import (
	"slices"
	"sync"
	"testing"

	"abecedary/api"
)

func clonedMachine(m api.Machine) api.Machine {
	m.States = slices.Clone(m.States)
	for i, s := range m.States {
		m.States[i].Arcs = slices.Clone(s.Arcs)
	}
	return m
}

func sameMachine(a, b api.Machine) bool {
	return a.Base == b.Base && slices.EqualFunc(a.States, b.States, sameState)
}

// spoil writes over all that can be reached from m.
func spoil(m api.Machine) {
	for i, s := range m.States {
		for k := range s.Arcs {
			s.Arcs[k] = arc('x', -9, -9)
		}
		m.States[i] = final(-9)
	}
}

// rightOnes are machines to walk on.
func rightOnes(t *testing.T) []api.Machine {
	return []api.Machine{{}, machine(7, end(), inner(arc('b', 0, 0))), chapters(), built(t, mixed()), chain(api.MaxRunes), ladder(12, 2)}
}

// askAll asks w for all that it tells, and writes into what is told.
func askAll(w *Walk) {
	w.Len()
	w.Base()
	w.Rank("ab")
	w.Find("ab")
	for i := range w.Len() {
		p, _ := w.At(i)
		p.Word, p.Weight = "x", -9
	}
	for p := range w.All() {
		p.Word, p.Weight = "x", -9
	}
	for range w.Under("a") {
		break
	}
	for n := range w.Root() + 1 {
		s, _ := w.State(n)
		room := s.Arcs[:cap(s.Arcs)]
		for k := range room {
			room[k] = arc('x', -9, -9)
		}
		s.Final, s.Out, s.Arcs = true, -9, nil
	}
}

// roomy is m with something behind the ends of all of its lists, and the same with these lists up to there.
func roomy(m api.Machine) (api.Machine, api.Machine) {
	whole := clonedMachine(m)
	for i, s := range whole.States {
		whole.States[i].Arcs = append(s.Arcs, arc('#', 6, 6))
	}
	whole.States = append(whole.States, final(6, arc('#', 6, 6)))
	part := whole
	part.States = slices.Clone(whole.States)
	for i := range m.States {
		part.States[i].Arcs = part.States[i].Arcs[:len(m.States[i].Arcs)]
	}
	return part, whole
}

// R5: the machine that is handed in stays as it was, and so does what lies behind its lists' ends.
func TestWhatIsHandedInStays(t *testing.T) {
	for i, m := range append(rightOnes(t), wrongOnes()...) {
		part, whole := roomy(m)
		wasPart, wasWhole := clonedMachine(part), clonedMachine(whole)
		short := part
		short.States = part.States[:len(m.States)]
		if w, ok := New(short); ok {
			askAll(w)
		}
		if !sameMachine(part, wasPart) || !sameMachine(whole, wasWhole) {
			t.Errorf("R5: the machine %d, or what lies behind its lists, has changed", i)
		}
	}
}

// P9.1, R6: what is done to the machine later is not seen.
func TestTheMachineIsNotKept(t *testing.T) {
	for _, m := range rightOnes(t) {
		was, l := clonedMachine(m), wordsOf(m)
		w := begun(t, m)
		spoil(m)
		wantWhole(t, w, was, l)
	}
}

// P9.5, R6: what is done to what was told is not seen.
func TestWhatIsToldIsTheCallersOwn(t *testing.T) {
	for _, m := range rightOnes(t) {
		w := begun(t, m)
		askAll(w)
		wantWhole(t, w, m, wordsOf(m))
	}
}

// R6: what was told stays, whatever is told later and done to it.
func TestWhatWasToldStays(t *testing.T) {
	m := built(t, mixed())
	was, w := clonedMachine(m), begun(t, m)
	var told []api.State
	for n := range w.Root() + 1 {
		s, _ := w.State(n)
		told = append(told, s)
	}
	pairs := slices.Collect(w.All())
	askAll(w)
	spoil(m)
	if !slices.EqualFunc(told, was.States, sameState) {
		t.Error("R6: states that were told have changed")
	}
	if !slices.Equal(pairs, mixed()) {
		t.Error("R6: pairs that were told have changed")
	}
}

// R6: two walks on one machine have nothing in common.
func TestWalksLieApart(t *testing.T) {
	m := chapters()
	one, two := begun(t, m), begun(t, m)
	askAll(one)
	wantWhole(t, two, m, wordsOf(m))
	wantWhole(t, one, m, wordsOf(m))
}

// R7: the same is told always, also where many ask one walk at once.
func TestManyAskAtOnce(t *testing.T) {
	m := built(t, mixed())
	w := begun(t, m)
	all, under := w.All(), w.Under("a")
	var group sync.WaitGroup
	for range 8 {
		group.Go(func() {
			for range 20 {
				wantPairs(t, "All()", all, mixed()...)
				wantPairs(t, "Under(a)", under, mixed()[:4]...)
				wantWhole(t, w, m, mixed())
			}
		})
	}
	group.Wait()
}
