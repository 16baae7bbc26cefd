package pack

import (
	"bytes"
	"math"
	"slices"
	"strconv"
	"strings"
	"testing"

	"abecedary/api"
	"abecedary/codec"
	"abecedary/fst"
)

func pair(word string, weight int) api.Pair {
	return api.Pair{Word: word, Weight: weight}
}

func arc(label rune, out, to int) api.Arc {
	return api.Arc{Label: label, Out: out, To: to}
}

func end() api.State { return api.State{Final: true} }

func inner(arcs ...api.Arc) api.State { return api.State{Arcs: arcs} }

func final(out int, arcs ...api.Arc) api.State {
	return api.State{Final: true, Out: out, Arcs: arcs}
}

func machine(base int, states ...api.State) api.Machine {
	return api.Machine{Base: base, States: states}
}

func showState(s api.State) string {
	var b strings.Builder
	if s.Final {
		b.WriteString("Final ")
	}
	b.WriteString("Out " + strconv.Itoa(s.Out))
	for _, a := range s.Arcs[:min(len(s.Arcs), 30)] {
		b.WriteString("; " + strconv.QuoteRune(a.Label) + " " + strconv.Itoa(a.Out) + " to " + strconv.Itoa(a.To))
	}
	return "{" + b.String() + "}"
}

// showMachine: of many states the first ones are enough.
func showMachine(m api.Machine) string {
	var b strings.Builder
	b.WriteString("Base " + strconv.Itoa(m.Base) + ", " + strconv.Itoa(len(m.States)) + " states")
	for i, s := range m.States[:min(len(m.States), 30)] {
		b.WriteString("\n\t" + strconv.Itoa(i) + " " + showState(s))
	}
	return b.String()
}

func sameState(a, b api.State) bool {
	return a.Final == b.Final && a.Out == b.Out && slices.Equal(a.Arcs, b.Arcs)
}

func sameMachine(a, b api.Machine) bool {
	return a.Base == b.Base && slices.EqualFunc(a.States, b.States, sameState)
}

func cloned(m api.Machine) api.Machine {
	m.States = slices.Clone(m.States)
	for i, s := range m.States {
		m.States[i].Arcs = slices.Clone(s.Arcs)
	}
	return m
}

// wantPacked: b is the writing of m, and is read as it.
func wantPacked(t *testing.T, m api.Machine, b []byte) {
	t.Helper()
	if got, e := Pack(m); e != api.OK || !bytes.Equal(got, b) {
		t.Errorf("P8.2: Pack(%s) = % x, %d, want % x, OK", showMachine(m), got, e, b)
	}
	if got, e := Unpack(b); e != api.OK || !sameMachine(got, m) {
		t.Errorf("P8.3: Unpack(% x) = %s\n\tand %d, want %s\n\tand OK", b, showMachine(got), e, showMachine(m))
	}
}

// wantRight: m is right, and is written as the chapter says.
func wantRight(t *testing.T, m api.Machine) {
	t.Helper()
	if !Right(m) {
		t.Errorf("P8.1: not right: %s", showMachine(m))
	}
	wantPacked(t, m, written(numbersOf(m)...))
}

// wantWrong: m is not right, and what would be its writing is not taken.
func wantWrong(t *testing.T, m api.Machine) {
	t.Helper()
	if Right(m) {
		t.Errorf("P8.1: right: %s", showMachine(m))
	}
	if b, e := Pack(m); e != api.ErrPackForm || len(b) != 0 {
		t.Errorf("P8.2: Pack(%s) = % x, %d, want nothing, %d", showMachine(m), b, e, api.ErrPackForm)
	}
	// It may be that another one is written so: an Out that goes unwritten is one of these.
	b := written(numbersOf(m)...)
	if got, e := Unpack(b); e == api.OK && sameMachine(got, m) {
		t.Errorf("P8.3: Unpack(% x) = %s, OK", b, showMachine(got))
	}
}

func wantRefused(t *testing.T, b []byte) {
	t.Helper()
	if m, e := Unpack(b); e != api.ErrPackForm || m.Base != 0 || len(m.States) != 0 {
		t.Errorf("P8.3: Unpack(% x) = %s\n\tand %d, want nothing and %d", b[:min(len(b), 200)], showMachine(m), e, api.ErrPackForm)
	}
}

// chain is a machine of one word of n runes.
func chain(n int) api.Machine {
	m := machine(1, end())
	for i := range n {
		m.States = append(m.States, inner(arc('a', 0, i)))
	}
	return m
}

// rung is a label of a ladder: there are a million of them in a row.
func rung(k int) rune { return 0x10000 + rune(k) }

// ladder has so many arcs from each of its states to the one below it: many to the power of deep words.
func ladder(deep, many int) api.Machine {
	m := machine(1, end())
	for i := range deep {
		var s api.State
		for k := range many {
			s.Arcs = append(s.Arcs, arc(rung(k), 0, i))
		}
		m.States = append(m.States, s)
	}
	return m
}

// fan has n words of one rune.
func fan(n int) api.Machine {
	m := ladder(1, 0)
	for k := range n {
		m.States[1].Arcs = append(m.States[1].Arcs, arc(rung(k), k, 0))
	}
	return m
}

// P8.1 to P8.3: the chapter's examples, and those of chapter 7.
func TestExamples(t *testing.T) {
	wantRight(t, api.Machine{})
	wantPacked(t, api.Machine{}, []byte{0, 0})
	m := machine(3, end(), inner(arc('a', 0, 0)))
	wantRight(t, m)
	wantPacked(t, m, []byte{3, 2, 1, 0, 2, 0x61, 0, 1})
	m = machine(2, end(), inner(arc('b', 0, 0)), inner(arc('a', 3, 1), arc('b', 0, 0), arc('c', 7, 1)))
	wantRight(t, m)
	wantPacked(t, m, []byte{2, 3, 1, 0, 2, 0x62, 0, 1, 6, 0x61, 3, 1, 1, 0, 2, 1, 7, 1})
}

// P8.2: numbers of more than one byte, states that are Final with an Out, with and without arcs.
func TestWriting(t *testing.T) {
	wantPacked(t, machine(4, end(), final(3, arc('b', 0, 0)), inner(arc('a', 0, 1))),
		[]byte{4, 3, 1, 0, 3, 3, 0x62, 0, 1, 2, 0x61, 0, 1})
	wantPacked(t, machine(300, end(), inner(arc('é', 0, 0), arc('€', 128, 0))),
		[]byte{0xac, 2, 2, 1, 0, 4, 0xe9, 1, 0, 1, 0xc3, 0x3f, 0x80, 1, 1})
	wantPacked(t, machine(1, end(), final(api.MaxWeight-1, arc(1114111, 0, 0)), inner(arc('!', 0, 1))),
		[]byte{1, 3, 1, 0, 3, 0xff, 0xff, 0x3f, 0xff, 0xff, 0x43, 0, 1, 2, 0x21, 0, 1})
}

// P8.1: no states.
func TestMachineOfNothing(t *testing.T) {
	for _, states := range [][]api.State{nil, {}} {
		wantRight(t, machine(0, states...))
		for _, base := range []int{-1, 1, 3, api.MaxWeight, math.MaxInt, math.MinInt} {
			wantWrong(t, machine(base, states...))
		}
	}
}

// P8.1
func TestBase(t *testing.T) {
	for _, base := range []int{1, 2, 127, 128, api.MaxWeight - 1, api.MaxWeight} {
		wantRight(t, machine(base, end(), inner(arc('a', 0, 0))))
	}
	for _, base := range []int{0, -1, -api.MaxWeight, api.MaxWeight + 1, math.MaxInt32, math.MaxInt, math.MinInt} {
		wantWrong(t, machine(base, end(), inner(arc('a', 0, 0))))
	}
}

// P8.1: labels that rise strictly.
func TestLabelsRise(t *testing.T) {
	wantRight(t, machine(1, end(), inner(arc('a', 0, 0), arc('b', 1, 0), arc('c', 2, 0))))
	wantWrong(t, machine(1, end(), inner(arc('a', 0, 0), arc('a', 1, 0))))
	wantWrong(t, machine(1, end(), inner(arc('a', 0, 0), arc('a', 0, 0))))
	wantWrong(t, machine(1, end(), inner(arc('b', 0, 0), arc('a', 1, 0))))
	wantWrong(t, machine(1, end(), inner(arc('a', 0, 0), arc('c', 1, 0), arc('b', 2, 0))))
	wantWrong(t, machine(1, end(), inner(arc('a', 0, 0), arc('b', 1, 0), arc('b', 2, 0))))
	wantWrong(t, machine(1, end(), final(0, arc('b', 0, 0), arc('a', 0, 0)), inner(arc('x', 0, 1))))
}

// P8.1: runes that a word may have.
func TestLabelsOfWords(t *testing.T) {
	for _, r := range []rune{33, 97, 126, 128, 2047, 2048, 0xd7ff, 0xe000, 0xfffd, 0xffff, 0x10000, 0x10ffff} {
		wantRight(t, machine(1, end(), inner(arc(r, 0, 0))))
	}
	for _, r := range []rune{0, 1, 10, 31, 32, 127, 0xd800, 0xdbff, 0xdfff, 0x110000, 0x110001, math.MaxInt32, -1, -97, math.MinInt32} {
		wantWrong(t, machine(1, end(), inner(arc(r, 0, 0))))
	}
	wantWrong(t, machine(1, end(), inner(arc(-1, 0, 0), arc('a', 1, 0))))
	wantWrong(t, machine(1, end(), inner(arc(32, 0, 0), arc('a', 1, 0))))
	wantWrong(t, machine(1, end(), inner(arc('a', 0, 0), arc(127, 1, 0), arc(128, 2, 0))))
	wantWrong(t, machine(1, end(), inner(arc('a', 0, 0), arc(0xd800, 1, 0))))
	wantWrong(t, machine(1, end(), inner(arc('a', 0, 0), arc(0x110000, 1, 0))))
}

// P8.1: arcs lead to lower numbers.
func TestArcsLeadDown(t *testing.T) {
	for _, to := range []int{1, 2, 3, 1000, math.MaxInt, -1, -2, math.MinInt} {
		wantWrong(t, machine(1, end(), inner(arc('a', 0, to))))
		wantWrong(t, machine(1, end(), inner(arc('a', 0, 0), arc('b', 0, to)), inner(arc('x', 0, 1))))
		wantWrong(t, machine(1, end(), inner(arc('a', 0, to), arc('b', 0, 0)), inner(arc('x', 0, 1))))
	}
	// The first state has no lower one.
	for _, to := range []int{0, 1, -1} {
		wantWrong(t, machine(1, final(0, arc('a', 0, to)), inner(arc('a', 0, 0))))
		wantWrong(t, machine(1, inner(arc('a', 0, to))))
	}
	wantWrong(t, machine(1, end(), inner(arc('a', 0, 2)), inner(arc('a', 0, 1))))
	wantWrong(t, machine(1, end(), inner(arc('a', 0, 0)), inner(arc('a', 0, 1), arc('b', 0, 2))))
	wantWrong(t, machine(1, end(), inner(arc('a', 0, 0)), inner(arc('a', 0, 1), arc('b', 0, 3))))
}

// P8.1: no Out is below 0.
func TestOutsBelowNothing(t *testing.T) {
	for _, out := range []int{-1, -2, -api.MaxWeight, math.MinInt} {
		wantWrong(t, machine(5, end(), inner(arc('a', out, 0))))
		wantWrong(t, machine(5, end(), inner(arc('a', 0, 0), arc('b', out, 0))))
		wantWrong(t, machine(5, final(out), inner(arc('a', 0, 0))))
		wantWrong(t, machine(5, end(), final(out, arc('b', 0, 0)), inner(arc('a', 0, 1))))
		wantWrong(t, machine(5, end(), final(0, arc('b', out, 0)), inner(arc('a', 0, 1))))
	}
}

// P8.1: a state that is not Final has no Out, and has an arc.
func TestStatesThatAreNotFinal(t *testing.T) {
	for _, out := range []int{1, -1, api.MaxWeight, math.MaxInt, math.MinInt} {
		odd := api.State{Out: out, Arcs: []api.Arc{arc('a', 0, 0)}}
		wantWrong(t, machine(1, end(), odd))
		wantWrong(t, machine(1, end(), odd, inner(arc('x', 0, 1))))
		wantWrong(t, machine(1, end(), inner(arc('b', 0, 0)), odd, inner(arc('x', 0, 1), arc('y', 0, 2))))
		wantWrong(t, machine(1, api.State{Out: out}))
	}
	wantWrong(t, machine(1, inner()))
	wantWrong(t, machine(1, inner(), inner(arc('a', 0, 0))))
	wantWrong(t, machine(1, end(), inner(), inner(arc('a', 0, 0), arc('b', 0, 1))))
	wantWrong(t, machine(1, inner(), end(), inner(arc('a', 0, 0), arc('b', 0, 1))))
	wantWrong(t, machine(1, inner(), end(), inner(arc('a', 0, 1))))
}

// P8.1: the least of a state is 0.
func TestLeast(t *testing.T) {
	wantRight(t, machine(1, end(), final(0, arc('a', 0, 0)), inner(arc('x', 0, 1))))
	wantRight(t, machine(1, end(), final(0, arc('a', 2, 0)), inner(arc('x', 0, 1))))
	wantRight(t, machine(1, end(), final(2, arc('a', 0, 0)), inner(arc('x', 0, 1))))
	wantRight(t, machine(1, end(), final(2, arc('a', 1, 0), arc('b', 0, 0)), inner(arc('x', 0, 1))))
	for _, n := range []int{1, 2, 1000} {
		wantWrong(t, machine(1, final(n), inner(arc('a', 0, 0))))
		wantWrong(t, machine(1, end(), inner(arc('a', n, 0))))
		wantWrong(t, machine(1, end(), inner(arc('a', n, 0), arc('b', n+1, 0))))
		wantWrong(t, machine(1, end(), final(n, arc('a', n, 0)), inner(arc('x', 0, 1))))
		wantWrong(t, machine(1, end(), final(n+1, arc('a', n, 0)), inner(arc('x', 0, 1))))
		wantWrong(t, machine(1, end(), inner(arc('a', n, 0)), inner(arc('x', 0, 1))))
	}
}

// P8.1: no two states are alike; those that differ in one thing only are not.
func TestAlike(t *testing.T) {
	two := func(a, b api.State) api.Machine {
		return machine(1, end(), inner(arc('z', 0, 0)), a, b, inner(arc('a', 0, 1), arc('b', 0, 2), arc('c', 0, 3)))
	}
	for _, s := range []api.State{
		inner(arc('x', 0, 0)),
		inner(arc('x', 0, 0), arc('y', 5, 1)),
		final(0, arc('x', 0, 0)),
		final(0, arc('x', 3, 1)),
		final(4, arc('x', 0, 0), arc('y', 2, 0)),
	} {
		wantWrong(t, two(s, s))
		for _, other := range likeBut(s) {
			wantRight(t, two(s, other))
			wantRight(t, two(other, s))
		}
	}
	wantWrong(t, machine(1, end(), end(), inner(arc('a', 0, 0), arc('b', 0, 1))))
	// Alike, but far from each other.
	wantWrong(t, machine(1, end(), inner(arc('z', 0, 0)), inner(arc('y', 0, 0)), inner(arc('z', 0, 0)), inner(arc('a', 0, 1), arc('b', 0, 2), arc('c', 0, 3))))
	// The root is like another one.
	wantWrong(t, machine(1, end(), inner(arc('z', 0, 0)), inner(arc('z', 0, 0))))
}

// likeBut are states that differ from s, which has x as its first arc, in one thing only, and are right themselves.
func likeBut(s api.State) []api.State {
	change := func(f func(*api.State)) api.State {
		c := cloned(machine(1, s)).States[0]
		f(&c)
		return c
	}
	last := len(s.Arcs) - 1
	l := []api.State{
		change(func(s *api.State) { s.Arcs = append(s.Arcs, arc('z', 0, 0)) }),
		change(func(s *api.State) { s.Arcs = append(s.Arcs, arc('z', 7, 1)) }),
		change(func(s *api.State) { s.Arcs[last].Label++ }),
		change(func(s *api.State) { s.Arcs[last].To = 1 - s.Arcs[last].To }),
	}
	if s.Arcs[last].Out > 0 {
		l = append(l, change(func(s *api.State) { s.Arcs[last].Out++ }))
	}
	if s.Out > 0 {
		l = append(l, change(func(s *api.State) { s.Out++ }))
	}
	if s.Final && s.Out > 0 {
		l = append(l, change(func(s *api.State) { s.Final, s.Out = false, 0 }))
	}
	return l
}

// P8.1: states that are alike but for what says whether a word ends.
func TestAlikeButFinal(t *testing.T) {
	wantRight(t, machine(2, end(), inner(arc('x', 0, 0)), final(0, arc('x', 0, 0)), inner(arc('a', 0, 1), arc('b', 0, 2))))
	wantRight(t, machine(2, end(), final(0, arc('x', 0, 0)), inner(arc('x', 0, 0)), inner(arc('a', 0, 1), arc('b', 0, 2))))
	wantRight(t, machine(2, end(), final(1, arc('x', 0, 0)), final(2, arc('x', 0, 0)), inner(arc('a', 0, 1), arc('b', 0, 2))))
	wantRight(t, machine(2, end(), final(0, arc('x', 1, 0)), final(0, arc('x', 2, 0)), inner(arc('a', 0, 1), arc('b', 0, 2))))
}

// P8.1: the root is not Final.
func TestRoot(t *testing.T) {
	wantWrong(t, machine(1, end()))
	wantWrong(t, machine(1, end(), final(0, arc('a', 0, 0))))
	wantWrong(t, machine(1, end(), final(1, arc('a', 0, 0))))
	wantWrong(t, machine(1, end(), final(0, arc('a', 1, 0))))
	wantRight(t, machine(1, end(), inner(arc('a', 0, 0))))
}

// P8.1: from the root on there is a way to each state.
func TestAllStatesAreReached(t *testing.T) {
	wantWrong(t, machine(1, end(), inner(arc('b', 0, 0)), inner(arc('a', 0, 0))))
	wantWrong(t, machine(1, end(), inner(arc('b', 0, 0)), inner(arc('c', 0, 1)), inner(arc('a', 0, 0))))
	wantWrong(t, machine(1, end(), inner(arc('b', 0, 0)), inner(arc('c', 0, 0)), inner(arc('a', 0, 2))))
	wantWrong(t, machine(1, end(), inner(arc('b', 0, 0)), inner(arc('c', 0, 0)), inner(arc('a', 0, 1))))
	wantWrong(t, machine(1, end(), final(0, arc('b', 0, 0)), inner(arc('a', 0, 0))))
	// What can't be reached would make words too long, too many or too heavy.
	m := chain(30)
	m.States = append(m.States, inner(arc('x', 0, 0)))
	wantWrong(t, m)
	m = ladder(20, 3)
	m.States = append(m.States, inner(arc('x', 0, 0)))
	wantWrong(t, m)
	wantWrong(t, machine(1, end(), inner(arc('a', 0, 0), arc('b', api.MaxWeight, 0)), inner(arc('x', 0, 0))))
}

// P8.1: the numbers are those of chapter 7.
func TestNumbers(t *testing.T) {
	right := []api.Machine{
		machine(1, end(), inner(arc('y', 0, 0)), inner(arc('x', 0, 1)), inner(arc('z', 0, 0)), inner(arc('a', 0, 2), arc('b', 0, 1), arc('c', 0, 3))),
		machine(1, end(), inner(arc('x', 0, 0)), inner(arc('y', 0, 0)), inner(arc('c', 0, 2)), inner(arc('a', 0, 1), arc('b', 0, 3))),
		machine(1, end(), inner(arc('y', 0, 0)), inner(arc('c', 0, 1)), inner(arc('x', 0, 0)), inner(arc('a', 0, 2), arc('b', 0, 3))),
		machine(1, end(), final(0, arc('x', 0, 0)), inner(arc('a', 0, 1), arc('b', 0, 0))),
	}
	for _, m := range right {
		wantRight(t, m)
		for j := range m.States {
			for i := range j {
				wantWrong(t, swapped(m, i, j))
			}
		}
	}
	wantWrong(t, machine(1, end(), inner(arc('y', 0, 0)), inner(arc('x', 0, 0)), inner(arc('a', 0, 2), arc('b', 0, 1))))
	wantWrong(t, machine(1, end(), inner(arc('y', 0, 0)), inner(arc('x', 0, 0)), inner(arc('w', 0, 1)), inner(arc('a', 0, 2), arc('b', 0, 3))))
	wantWrong(t, machine(1, end(), inner(arc('x', 0, 0)), inner(arc('y', 0, 0)), inner(arc('z', 0, 0)), inner(arc('a', 0, 1), arc('b', 0, 3), arc('c', 0, 2))))
}

// P8.1: the longest way, wherever it lies.
func TestMaxRunes(t *testing.T) {
	for _, n := range []int{1, 2, api.MaxRunes - 1, api.MaxRunes} {
		wantRight(t, chain(n))
	}
	for _, n := range []int{api.MaxRunes + 1, api.MaxRunes + 2, 100} {
		wantWrong(t, chain(n))
	}
	for _, up := range []int{0, 1} {
		// Words end on the way, too.
		m := chain(api.MaxRunes + up)
		for i := 1; i < len(m.States)-1; i++ {
			m.States[i].Final = true
		}
		wantBy(t, m, up == 0)
		m = chain(api.MaxRunes - 1 + up)
		n := len(m.States) - 1
		m.States = append(m.States, inner(arc('a', 0, 0), arc('b', 0, n)))
		wantBy(t, m, up == 0)
		m.States[n+1] = inner(arc('a', 0, n), arc('b', 0, 0))
		wantBy(t, m, up == 0)
		m.States[n+1] = inner(arc('a', 0, 0), arc('b', 0, n), arc('c', 0, 1))
		wantBy(t, m, up == 0)
	}
}

func wantBy(t *testing.T, m api.Machine, right bool) {
	t.Helper()
	if right {
		wantRight(t, m)
	} else {
		wantWrong(t, m)
	}
}

// P8.1
func TestMaxWords(t *testing.T) {
	wantRight(t, fan(api.MaxWords-1))
	wantRight(t, fan(api.MaxWords))
	wantWrong(t, fan(api.MaxWords+1))
	wantWrong(t, fan(100000))
	wantRight(t, ladder(12, 2))
	wantWrong(t, ladder(13, 2))
	wantRight(t, ladder(2, 64))
	wantWrong(t, ladder(2, 65))
	// One word more, by an arc and by a state that is Final.
	m := ladder(12, 2)
	m.States[12].Arcs = append(m.States[12].Arcs, arc(rung(2), 0, 0))
	wantWrong(t, m)
	m = ladder(12, 2)
	m.States[11].Arcs = m.States[11].Arcs[:1]
	m.States[12].Arcs = append(m.States[12].Arcs, arc(rung(2), 0, 10), arc(rung(3), 0, 10))
	wantRight(t, m)
	m.States[11].Final = true
	wantWrong(t, m)
	m.States[12].Arcs[2].To = 9
	wantRight(t, m)
}

// P8.1
func TestMaxWeight(t *testing.T) {
	for _, base := range []int{1, 2, 1000, api.MaxWeight - 1, api.MaxWeight} {
		for _, up := range []int{0, 1} {
			top := api.MaxWeight - base + up
			wantBy(t, machine(base, end(), inner(arc('a', 0, 0), arc('b', top, 0))), up == 0)
			wantBy(t, machine(base, end(), inner(arc('a', top, 0), arc('b', 0, 0), arc('c', 0, 0))), up == 0)
			// Where a word ends, ahead of one that goes on.
			wantBy(t, machine(base, end(), final(top, arc('b', 0, 0)), inner(arc('a', 0, 1))), up == 0)
			wantBy(t, machine(base, end(), final(0, arc('b', top, 0)), inner(arc('a', 0, 1))), up == 0)
			// Put together from all three.
			half := top / 2
			wantBy(t, machine(base, end(), final(half, arc('b', 0, 0)), inner(arc('a', top-half, 1), arc('b', 0, 0))), up == 0)
			wantBy(t, machine(base, end(), inner(arc('x', 0, 0), arc('y', half, 0)), inner(arc('a', 0, 0), arc('b', top-half, 1))), up == 0)
		}
	}
}

// P8.1: sums that leave the range of an int, and come round to a small one.
func TestGreatSums(t *testing.T) {
	for _, out := range []int{api.MaxWeight, 1 << 31, 1 << 32, 1 << 62, math.MaxInt - 1, math.MaxInt} {
		wantWrong(t, machine(1, end(), inner(arc('a', 0, 0), arc('b', out, 0))))
		wantWrong(t, machine(1, end(), final(out, arc('b', 0, 0)), inner(arc('a', 0, 1))))
		wantWrong(t, machine(1, end(), final(1, arc('b', 0, 0)), inner(arc('a', 0, 0), arc('b', out, 1))))
		m := machine(1, end())
		for i := range 6 {
			m.States = append(m.States, inner(arc('a', 0, i), arc('b', out, i)))
		}
		wantWrong(t, m)
	}
	// Just one, then two, to bring the sum round to 0.
	wantWrong(t, machine(1, end(), final(2, arc('b', 0, 0)), inner(arc('a', math.MaxInt, 1), arc('c', 0, 0))))
	m := machine(2, end(), final(0, arc('b', 1, 0)), inner(arc('a', 0, 0), arc('c', math.MaxInt, 1)), inner(arc('d', 0, 0), arc('e', math.MaxInt, 2)))
	wantWrong(t, m)
}

// P8.1: more ways than can be gone through, and more than an int can count.
func TestManyWays(t *testing.T) {
	for _, c := range [][2]int{{20, 3}, {24, 2}, {24, 26}, {21, 8}, {16, 16}, {8, 256}, {4, 65536}, {2, 1000000}, {25, 2}, {100, 5}, {3000, 10}} {
		wantWrong(t, ladder(c[0], c[1]))
	}
	// The ways lead nowhere: there is no word at all.
	m := ladder(24, 5)
	m.States[0] = inner()
	wantWrong(t, m)
	// All states are alike but for what they lead to, and each leads to all below.
	m = machine(1, end())
	for i := range 2000 {
		var s api.State
		for k := range i + 1 {
			s.Arcs = append(s.Arcs, arc(rung(k), 0, k))
		}
		m.States = append(m.States, s)
	}
	wantWrong(t, m)
	for _, n := range []int{13, 14, 15} {
		wantBy(t, machine(1, m.States[:n]...), n < 15)
	}
}

// P8.1: very many states, in a row and beside each other.
func TestManyStates(t *testing.T) {
	wantWrong(t, chain(1000000))
	m := machine(1, end())
	for i := range 300000 {
		m.States = append(m.States, inner(arc('a', 0, 0), arc('b', i, 0)))
	}
	wantWrong(t, m)
	m = machine(1)
	m.States = make([]api.State, 1000000)
	wantWrong(t, m)
	for i := range m.States {
		m.States[i].Final = true
	}
	wantWrong(t, m)
}

// P8.1 to P8.4: as many words as may be, long ones that share little, and such as share all they can.
func TestGreatMachines(t *testing.T) {
	var l, long []api.Pair
	for i := range api.MaxWords {
		s := strconv.Itoa(10000 + i)[1:]
		l = append(l, pair("w"+s, 1+i%7))
		long = append(long, pair(s+strings.Repeat("é", 16)+s, 1+i*256))
	}
	for _, l := range [][]api.Pair{l, long} {
		m, e := fst.Build(l)
		if e != api.OK {
			t.Fatalf("Build: %d", e)
		}
		wantRight(t, m)
		b, _ := Pack(m)
		got, _ := Unpack(b)
		if words, ok := wordsOf(got); !ok || !slices.Equal(words, l) {
			t.Errorf("P8.4: %d words are read back, want %d", len(words), len(l))
		}
		wantWrong(t, machine(m.Base+api.MaxWeight, m.States...))
		wantWrong(t, machine(m.Base, m.States[1:]...))
	}
}

// P8.3: of each row that is taken no shorter beginning is, and nothing may stand behind it.
func TestTooShortAndTooLong(t *testing.T) {
	wantRefused(t, nil)
	wantRefused(t, []byte{})
	for _, m := range rightOnes() {
		b, e := Pack(m)
		if e != api.OK {
			t.Fatalf("Pack(%s): %d", showMachine(m), e)
		}
		for n := range b {
			wantRefused(t, b[:n])
		}
		for _, more := range [][]byte{{0}, {1}, {0x80}, {0xff}, {0, 0}, b} {
			wantRefused(t, append(slices.Clone(b), more...))
		}
	}
}

// rightOnes are machines of all sorts.
func rightOnes() []api.Machine {
	return []api.Machine{
		{},
		machine(3, end(), inner(arc('a', 0, 0))),
		machine(2, end(), inner(arc('b', 0, 0)), inner(arc('a', 3, 1), arc('b', 0, 0), arc('c', 7, 1))),
		machine(300, end(), final(0, arc('x', 200, 0)), final(130, arc('é', 0, 1), arc('€', 1, 0)), inner(arc('!', 0, 2), arc(1114111, 5000, 1))),
		machine(api.MaxWeight, end(), inner(arc(128512, 0, 0))),
		chain(api.MaxRunes),
		ladder(12, 2),
		fan(200),
	}
}

// P8.3: numbers in another writing than the shortest.
func TestLongWritings(t *testing.T) {
	for _, m := range rightOnes() {
		l := numbersOf(m)
		for i := range l {
			for _, more := range [][]byte{{0x80, 0}, {0x80, 0x80, 0}, {0x80, 0x80, 0x80, 0x80, 0x80, 0x80, 0x80, 0x80, 0x80, 0x80, 0}} {
				b := written(l[:i+1]...)
				b[len(b)-1] += more[0]
				b = append(b, more[1:]...)
				wantRefused(t, append(b, written(l[i+1:]...)...))
			}
		}
	}
}

// P8.3: numbers that come round to what would be right, if bits were lost or sums wrapped.
func TestGreatNumbers(t *testing.T) {
	for _, m := range rightOnes() {
		l := numbersOf(m)
		for i := range l {
			for _, by := range []uint64{1 << 8, 1 << 16, 1 << 31, 1 << 32, 3 << 32, 1 << 62, 1 << 63, 3 << 62} {
				odd := slices.Clone(l)
				odd[i] += by
				checkBytes(t, written(odd...))
				if by > math.MaxInt32 {
					wantRefused(t, written(odd...))
				}
			}
			for _, n := range []uint64{math.MaxUint64, math.MaxUint64 - 1, 1 << 63, 1<<63 - 1, math.MaxUint32, math.MaxInt32} {
				odd := slices.Clone(l)
				odd[i] = n
				wantRefused(t, written(odd...))
				wantRefused(t, written(odd[:i+1]...))
			}
		}
	}
	// Labels that fall are differences below 0; states' numbers too.
	below := func(n int) uint64 { return uint64(int64(-n)) }
	wantRefused(t, written(1, 2, 1, 0, 4, 'b', 0, 1, below(1), 0, 1))
	wantRefused(t, written(1, 2, 1, 0, 4, 'b', 0, 1, 1<<32-1, 0, 1))
	wantRefused(t, written(1, 2, 1, 0, 2, 'a', 0, below(1)))
	wantRefused(t, written(1, 2, 1, 0, 2, 'a', below(1), 1))
	wantRefused(t, written(1, 2, 1, below(1), 2, 'a', 0, 1))
	wantRefused(t, written(1, 2, 1, 0, 4, 'a', 0, 1, 0, 0, 1))
	wantRefused(t, written(1, 2, 1, 0, 4, 'a', 0, 1, math.MaxInt32-'a'+1, 0, 1))
	wantRefused(t, written(1, 2, 1, 0, 6, 'a', 0, 1, 1<<31, 0, 1, 1<<31, 0, 1))
	wantRefused(t, written(1, 2, 1, 0, 4, 1114111, 0, 1, 1, 0, 1))
}

// P8.3: counts of which not so many are there.
func TestGreatCounts(t *testing.T) {
	for _, n := range []uint64{1, 2, 3, 100, 4096, 98305, 98306, 1 << 20, 1 << 30, 1 << 31, 1 << 32, 1 << 40, 1 << 62, 1 << 63, math.MaxUint64} {
		wantRefused(t, written(1, n))
		wantRefused(t, written(0, n))
		wantRefused(t, written(1, n, 1, 0))
		wantRefused(t, written(1, 1, n))
		wantRefused(t, written(1, 1, n, 0))
		wantRefused(t, written(1, 2, 1, 0, n))
		wantRefused(t, written(1, 2, 1, 0, n, 'a', 0))
		if n > 2 {
			wantRefused(t, written(1, n, 1, 0, 2, 'a', 0, 1))
			wantRefused(t, written(1, 2, 1, 0, n, 'a', 0, 1))
		}
	}
}

// P8.3: bytes as P8.2 says, of machines that are not right.
func TestBytesOfWrongMachines(t *testing.T) {
	for _, m := range []api.Machine{
		machine(1),
		machine(api.MaxWeight),
		machine(0, end(), inner(arc('a', 0, 0))),
		machine(api.MaxWeight+1, end(), inner(arc('a', 0, 0))),
		machine(1, end(), inner(arc(' ', 0, 0))),
		machine(1, end(), inner(arc(127, 0, 0))),
		machine(1, end(), inner(arc(0xd800, 0, 0))),
		machine(1, end(), inner(arc(0x110000, 0, 0))),
		machine(1, end(), inner(arc('a', 0, 0), arc('a', 1, 0))),
		machine(1, end(), inner(arc('a', 0, 1))),
		machine(1, end(), inner(arc('a', 0, -1))),
		machine(1, inner(), inner(arc('a', 0, 0))),
		machine(1, final(1), inner(arc('a', 0, 0))),
		machine(1, end(), inner(arc('a', 1, 0))),
		machine(1, end(), end(), inner(arc('a', 0, 0), arc('b', 0, 1))),
		machine(1, end()),
		machine(1, end(), final(0, arc('a', 0, 0))),
		machine(1, end(), inner(arc('b', 0, 0)), inner(arc('a', 0, 0))),
		machine(1, end(), inner(arc('y', 0, 0)), inner(arc('x', 0, 0)), inner(arc('a', 0, 2), arc('b', 0, 1))),
		machine(1, end(), inner(arc('a', 0, 0), arc('b', api.MaxWeight, 0))),
		chain(api.MaxRunes + 1),
		chain(200000),
		ladder(13, 2),
		ladder(24, 26),
		fan(api.MaxWords + 1),
		{Base: 1, States: make([]api.State, 200000)},
	} {
		wantRefused(t, written(numbersOf(m)...))
	}
}

// everyDictionary goes through all dictionaries of the words (which rise), each with one of the weights or not there.
func everyDictionary(words []string, weights []int, look func([]api.Pair)) {
	if len(words) == 0 {
		look(nil)
		return
	}
	everyDictionary(words[1:], weights, func(l []api.Pair) {
		look(l)
		for _, w := range weights {
			look(append([]api.Pair{pair(words[0], w)}, l...))
		}
	})
}

// P8.4: each dictionary has bytes of its own, which lead back to it.
func TestUnlikeDictionaries(t *testing.T) {
	seen := map[string]int{}
	all := 0
	look := func(l []api.Pair) {
		all++
		m, e := fst.Build(l)
		if e != api.OK {
			t.Fatalf("Build: %d", e)
		}
		wantRight(t, m)
		b, _ := Pack(m)
		seen[string(b)]++
		got, _ := Unpack(b)
		if words, ok := wordsOf(got); !ok || !slices.Equal(words, l) {
			t.Errorf("P8.4: %v is read back as %v", l, words)
		}
	}
	everyDictionary([]string{"a", "aa", "ab", "b", "ba"}, []int{1, 2, 5}, look)
	everyDictionary([]string{"aab", "abb", "bab", "bb", "é", "éab", "€b", "\U0010ffffab"}, []int{3}, look)
	if len(seen) != all-1 { // the empty one is there twice
		t.Errorf("P8.4: %d dictionaries have %d writings", all-1, len(seen))
	}
}

// P8.3: sealed and unsealed bytes are read as those that were packed.
func TestPackedBytesTravel(t *testing.T) {
	for _, m := range rightOnes() {
		b, _ := Pack(m)
		s, e := codec.Seal(b)
		if e != api.OK {
			t.Fatalf("Seal: %d", e)
		}
		x, _, _ := codec.Unseal(s)
		wantPacked(t, m, x)
	}
}
