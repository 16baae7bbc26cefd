package fst

import (
	"slices"
	"testing"

	"abecedary/api"
)

// handed are lists to hand in: dictionaries, and such as are refused.
func handed() [][]api.Pair {
	return [][]api.Pair{
		nil,
		{pair("a", 3)},
		{pair("ab", 5), pair("b", 2), pair("cb", 9)},
		{pair("a", 9), pair("ab", 5), pair("abc", 6), pair("b", 1), pair("été", 4)},
		{pair("ax", 2), pair("ay", 5), pair("bx", 4), pair("by", 7)},
		{pair("b", 1), pair("a", 2), pair("b", 3)},
		{pair("a", 1), pair("a b", 0)},
		rising(200),
		rising(api.MaxWords + 1),
	}
}

// R5: what is handed in stays as it was, and so does what lies behind its end.
func TestWhatIsHandedInStays(t *testing.T) {
	for i, l := range handed() {
		whole := append(slices.Clone(l), pair("behind", 6))
		was := slices.Clone(whole)
		Build(whole[:len(l)])
		if !slices.Equal(whole, was) {
			t.Errorf("Build of the list %d has changed what it was handed: %s", i, show(whole))
		}
	}
}

func cloned(m api.Machine) api.Machine {
	m.States = slices.Clone(m.States)
	for i, s := range m.States {
		m.States[i].Arcs = slices.Clone(s.Arcs)
	}
	return m
}

// R6: the machine is not bound to what was handed in, nor to one that is told later.
func TestWhatIsToldIsTheCallersOwn(t *testing.T) {
	for i, l := range handed() {
		got, e := Build(l)
		want := cloned(got)
		again, _ := Build(l)
		for j, s := range again.States {
			for k := range s.Arcs {
				s.Arcs[k] = arc('x', -9, -9)
			}
			again.States[j] = final(-9)
		}
		if !sameMachine(got, want) || !slices.Equal(l, handed()[i]) {
			t.Errorf("to write into one machine of the list %d changes another one, or the list", i)
		}
		if third, f := Build(l); f != e || !sameMachine(third, want) {
			t.Errorf("to write into a machine of the list %d changes what is told", i)
		}
		for j := range l {
			l[j] = pair("spoilt", -9)
		}
		if !sameMachine(got, want) {
			t.Errorf("to write into the list %d changes its machine", i)
		}
	}
}

// R6: no two lists of one machine share memory, not even behind their ends.
func TestListsLieApart(t *testing.T) {
	for i, l := range handed() {
		m, _ := Build(l)
		for j := range m.States {
			want := cloned(m)
			s := m.States[j]
			room := s.Arcs[:cap(s.Arcs)]
			for k := range room {
				room[k] = arc('x', -9, -9)
			}
			want.States[j], m.States[j] = api.State{}, api.State{}
			if !sameMachine(m, want) {
				t.Errorf("to write into the arcs of the state %d of the list %d changes another state", j, i)
			}
		}
	}
}

// R7
func TestTheSameIsToldAlways(t *testing.T) {
	for i, l := range handed() {
		first, e := Build(l)
		for range 20 {
			if again, f := Build(l); f != e || !sameMachine(again, first) {
				t.Errorf("Build of the list %d tells other things", i)
			}
		}
	}
}
