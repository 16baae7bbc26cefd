package pack

import (
	"bytes"
	"encoding/binary"
	"math"
	"math/rand"
	"slices"
	"sort"
	"testing"

	"abecedary/api"
	"abecedary/fst"
)

// far is a number that none in a right machine comes near to, and of which many can be added up.
const far = 1 << 40

// reader goes all ways of a machine one by one, as long as it may be one that was built.
type reader struct {
	m     api.Machine
	words []api.Pair
	steps int
	wrong bool
}

// follow goes on from the state n, behind the runes of word.
func (r *reader) follow(n int, word []rune, sum int) {
	// A machine that was built has no more beginnings of words than this.
	r.steps++
	if r.steps > 1+api.MaxWords*api.MaxRunes || n < 0 || n >= len(r.m.States) || len(word) > api.MaxRunes {
		r.wrong = true
	}
	if r.wrong {
		return
	}
	s := r.m.States[n]
	if s.Final {
		r.words = append(r.words, pair(string(word), sum+min(max(s.Out, -far), far)))
	}
	for _, a := range s.Arcs {
		r.follow(a.To, append(slices.Clone(word), a.Label), sum+min(max(a.Out, -far), far))
	}
}

// wordsOf are the words of m by rising words; false, if m can't be one that was built.
func wordsOf(m api.Machine) ([]api.Pair, bool) {
	r := reader{m: m}
	if len(m.States) > 0 {
		r.follow(len(m.States)-1, nil, min(max(m.Base, -far), far))
	}
	sort.Slice(r.words, func(i, j int) bool { return r.words[i].Word < r.words[j].Word })
	return r.words, !r.wrong
}

// buildable is P8.1's first sentence: m is what fst.Build makes of the words that are on it. (A label that is no rune becomes another one in a text, and so another machine.)
func buildable(m api.Machine) bool {
	l, ok := wordsOf(m)
	if !ok {
		return false
	}
	built, e := fst.Build(l)
	return e == api.OK && sameMachine(built, m)
}

// numbersOf are what P8.2 writes, one number behind the other.
func numbersOf(m api.Machine) []uint64 {
	l := []uint64{uint64(m.Base), uint64(len(m.States))}
	for i, s := range m.States {
		if s.Final {
			l = append(l, uint64(2*len(s.Arcs)+1), uint64(s.Out))
		} else {
			l = append(l, uint64(2*len(s.Arcs)))
		}
		for k, a := range s.Arcs {
			label := uint64(a.Label)
			if k > 0 {
				label -= uint64(s.Arcs[k-1].Label)
			}
			l = append(l, label, uint64(a.Out), uint64(i-a.To))
		}
	}
	return l
}

func written(l ...uint64) []byte {
	b := []byte{}
	for _, n := range l {
		b = binary.AppendUvarint(b, n)
	}
	return b
}

// numbersIn are the numbers of which b is the writing; false, if it is none's.
func numbersIn(b []byte) ([]uint64, bool) {
	var l []uint64
	for rest := b; len(rest) > 0; {
		n, size := binary.Uvarint(rest)
		if size <= 0 {
			return nil, false
		}
		l = append(l, n)
		rest = rest[size:]
	}
	return l, bytes.Equal(written(l...), b)
}

// source tells numbers one by one, and is done when one is missing or too great.
type source struct {
	l    []uint64
	done bool
}

func (s *source) next() int {
	if s.done || len(s.l) == 0 || s.l[0] > far {
		s.done = true
		return 0
	}
	n := int(s.l[0])
	s.l = s.l[1:]
	return n
}

// machineIn is the machine that was built and of which b is the writing.
func machineIn(b []byte) (api.Machine, bool) {
	l, ok := numbersIn(b)
	from := source{l: l}
	m := api.Machine{Base: from.next()}
	for i, n := 0, from.next(); i < n && !from.done; i++ {
		var s api.State
		h := from.next()
		if h%2 == 1 {
			s.Final, s.Out = true, from.next()
		}
		label := 0
		for k := 0; k < h/2 && !from.done; k++ {
			label = min(label+from.next(), math.MaxInt32)
			out := from.next()
			s.Arcs = append(s.Arcs, api.Arc{Label: rune(label), Out: out, To: i - from.next()})
		}
		m.States = append(m.States, s)
	}
	return m, ok && !from.done && len(from.l) == 0 && buildable(m)
}

// checkRight holds Right and Pack against the model.
func checkRight(t *testing.T, m api.Machine) bool {
	t.Helper()
	if buildable(m) {
		wantRight(t, m)
		return true
	}
	wantWrong(t, m)
	return false
}

// checkBytes holds Unpack against the model.
func checkBytes(t *testing.T, b []byte) bool {
	t.Helper()
	want, ok := machineIn(b)
	got, e := Unpack(b)
	switch {
	case !ok:
		wantRefused(t, b)
	case e != api.OK || !sameMachine(got, want):
		t.Errorf("P8.3: Unpack(% x) = %s\n\tand %d, want %s\n\tand OK", b, showMachine(got), e, showMachine(want))
	default:
		wantPacked(t, got, b)
	}
	return ok
}

// everyArcs goes through all lists of arcs that have each of the labels once, with one of the outs and one of the numbers, or not at all.
func everyArcs(labels []rune, outs, numbers []int, look func([]api.Arc)) {
	if len(labels) == 0 {
		look(nil)
		return
	}
	everyArcs(labels[1:], outs, numbers, func(l []api.Arc) {
		look(l)
		for _, out := range outs {
			for _, to := range numbers {
				look(append([]api.Arc{arc(labels[0], out, to)}, l...))
			}
		}
	})
}

// everyState goes through all states with such arcs, Final or not, with one of the outs.
func everyState(labels []rune, outs, numbers []int, look func(api.State)) {
	everyArcs(labels, outs, numbers, func(l []api.Arc) {
		look(inner(l...))
		for _, out := range outs {
			look(final(out, l...))
		}
	})
}

// everyMachine goes through all machines of so many such states, whose arcs lead to lower numbers.
func everyMachine(n int, labels []rune, outs []int, look func(api.Machine)) {
	var grow func(states []api.State)
	grow = func(states []api.State) {
		look(machine(1, states...))
		if len(states) == n {
			return
		}
		var numbers []int
		for i := range states {
			numbers = append(numbers, i)
		}
		everyState(labels, outs, numbers, func(s api.State) {
			grow(append(slices.Clone(states), s))
		})
	}
	grow(nil)
}

// P8.1 to P8.4: all machines of few states, most of which could not have been built.
func TestSmallMachines(t *testing.T) {
	for _, c := range []struct {
		states int
		labels []rune
		outs   []int
	}{
		{3, []rune{'a', 'b'}, []int{0, 1, 2}},
		{5, []rune{'a'}, []int{0, 1}},
		{4, []rune{'a', 'b'}, []int{0}},
		{3, []rune{'a', 'b', 'c'}, []int{0}},
	} {
		right, all := 0, 0
		everyMachine(c.states, c.labels, c.outs, func(m api.Machine) {
			if !t.Failed() && checkRight(t, m) {
				right++
			}
			all++
		})
		if right < 10 || right > all/2 {
			t.Errorf("%d machines of %d are right: the test shows little", right, all)
		}
	}
}

// changed is m with one thing changed, which may break any of the conditions, or none.
func changed(r *rand.Rand, m api.Machine) api.Machine {
	m = cloned(m)
	if len(m.States) == 0 {
		m.Base += r.Intn(2)
		return m
	}
	i := r.Intn(len(m.States))
	s := &m.States[i]
	switch r.Intn(10) {
	case 0:
		m.Base += []int{-1, 1, -m.Base, api.MaxWeight, api.MaxWeight - m.Base, math.MaxInt - m.Base}[r.Intn(6)]
	case 1:
		s.Final = !s.Final
	case 2:
		s.Out += r.Intn(3) - 1
	case 3:
		m.States = slices.Insert(m.States, i, cloned(m).States[i])
	case 4:
		m.States = slices.Delete(m.States, i, i+1)
	case 5:
		return swapped(m, i, r.Intn(len(m.States)))
	case 6:
		s.Arcs = append(s.Arcs, arc('a'+rune(r.Intn(20)), 0, r.Intn(i+1)))
	default:
		if len(s.Arcs) > 0 {
			changeArc(r, s, r.Intn(len(s.Arcs)))
		}
	}
	return m
}

func changeArc(r *rand.Rand, s *api.State, k int) {
	switch r.Intn(5) {
	case 0:
		s.Arcs[k].Label += rune(r.Intn(3) - 1)
	case 1:
		s.Arcs[k].Out += r.Intn(3) - 1
	case 2:
		s.Arcs[k].To += r.Intn(3) - 1
	case 3:
		s.Arcs = slices.Delete(s.Arcs, k, k+1)
	case 4:
		s.Arcs[k].Out = []int{api.MaxWeight, math.MaxInt, math.MinInt, far}[r.Intn(4)]
	}
}

// swapped has the numbers i and j in each other's place, and is the same machine else.
func swapped(m api.Machine, i, j int) api.Machine {
	m = cloned(m)
	m.States[i], m.States[j] = m.States[j], m.States[i]
	for _, s := range m.States {
		for k, a := range s.Arcs {
			switch a.To {
			case i:
				s.Arcs[k].To = j
			case j:
				s.Arcs[k].To = i
			}
		}
	}
	return m
}

// someMachine is the machine of some dictionary.
func someMachine(r *rand.Rand) api.Machine {
	runes := []rune{33, 97, 98, 126, 128, 233, 2047, 2048, 8364, 55295, 57344, 65535, 65536, 128512, 1114111}
	of := runes[r.Intn(len(runes)):]
	of = of[:1+r.Intn(len(of))]
	most := []int{3, 8, api.MaxRunes}[r.Intn(3)]
	weights := []int{1, 2, 4, api.MaxWeight}[r.Intn(4)]
	m := map[string]int{}
	for range r.Intn(30) {
		var s []rune
		for range 1 + r.Intn(most) {
			s = append(s, of[r.Intn(len(of))])
		}
		m[string(s)] = 1 + r.Intn(weights)
	}
	built, _ := fst.Build(ofMap(m))
	return built
}

// ofMap are the words of m with their weights, by rising words.
func ofMap(m map[string]int) []api.Pair {
	var l []api.Pair
	for s, w := range m {
		l = append(l, pair(s, w))
	}
	sort.Slice(l, func(i, j int) bool { return l[i].Word < l[j].Word })
	return l
}

// P8.1 to P8.4: machines that were built, and such as are one change or two away from them.
func TestSomeMachines(t *testing.T) {
	right, all := 0, 0
	for seed := range 700 {
		r := rand.New(rand.NewSource(int64(seed)))
		m := someMachine(r)
		wantRight(t, m)
		for range 20 {
			odd := changed(r, m)
			if r.Intn(3) == 0 {
				odd = changed(r, odd)
			}
			if checkRight(t, odd) {
				right++
			}
			all++
		}
		if t.Failed() {
			t.Fatalf("by the seed %d", seed)
		}
	}
	if right < all/50 || right > all/2 {
		t.Errorf("%d machines of %d are right: the test shows little", right, all)
	}
}

// P8.3: all rows of few bytes of those that matter.
func TestFewBytes(t *testing.T) {
	taken := 0
	var grow func(b []byte, of []byte, most int)
	grow = func(b []byte, of []byte, most int) {
		if checkBytes(t, b) {
			taken++
		}
		for _, c := range of {
			if len(b) < most && !t.Failed() {
				grow(append(slices.Clone(b), c), of, most)
			}
		}
	}
	grow(nil, []byte{0, 1, 2, 3, 'a', 128, 129}, 6)
	grow([]byte{5, 2, 1, 0}, []byte{0, 1, 2, 4, 'a', 128}, 11)
	if taken < 10 {
		t.Errorf("only %d rows are taken: the test shows little", taken)
	}
}

// P8.3: the bytes of machines with one byte changed, put in or taken out, and with one number changed.
func TestSomeBytes(t *testing.T) {
	taken, all := 0, 0
	for seed := range 700 {
		r := rand.New(rand.NewSource(int64(seed)))
		m := someMachine(r)
		b := written(numbersOf(m)...)
		checkBytes(t, b)
		for range 20 {
			if checkBytes(t, changedBytes(r, b)) {
				taken++
			}
			l := numbersOf(m)
			l[r.Intn(len(l))] += []uint64{1, math.MaxUint64, 2, 1 << 32, 1 << 63, 1 << 20}[r.Intn(6)]
			if checkBytes(t, written(l...)) {
				taken++
			}
			all += 2
		}
		if t.Failed() {
			t.Fatalf("by the seed %d", seed)
		}
	}
	if taken < all/50 || taken > all/2 {
		t.Errorf("%d rows of %d are taken: the test shows little", taken, all)
	}
}

func changedBytes(r *rand.Rand, b []byte) []byte {
	b = slices.Clone(b)
	i := r.Intn(len(b))
	switch r.Intn(4) {
	case 0:
		b[i] ^= 1 << r.Intn(8)
	case 1:
		b = slices.Insert(b, i, byte(r.Intn(256)))
	case 2:
		b = slices.Delete(b, i, i+1)
	case 3:
		b[i] += byte(r.Intn(3) - 1)
	}
	return b
}
