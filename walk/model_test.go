package walk

import (
	"iter"
	"math/rand"
	"slices"
	"sort"
	"strings"
	"testing"

	"abecedary/api"
	"abecedary/pack"
)

// model is the dictionary as a list, asked by going through all of it.
type model []api.Pair

func (l model) find(word string) (int, bool) {
	for _, p := range l {
		if p.Word == word {
			return p.Weight, true
		}
	}
	return 0, false
}

func (l model) at(i int) (api.Pair, bool) {
	if i < 0 || i >= len(l) {
		return api.Pair{}, false
	}
	return l[i], true
}

func (l model) rank(word string) int {
	n := 0
	for _, p := range l {
		if p.Word < word {
			n++
		}
	}
	return n
}

func (l model) under(head string) []api.Pair {
	var got []api.Pair
	for _, p := range l {
		if strings.HasPrefix(p.Word, head) {
			got = append(got, p)
		}
	}
	return got
}

// checkText holds what w tells of a text against the model, and tells whether it is found and how much is under it.
func checkText(t *testing.T, w *Walk, l model, s string) (bool, int) {
	t.Helper()
	weight, ok := l.find(s)
	if ok {
		wantFound(t, w, s, weight)
		wantAt(t, w, w.Rank(s), pair(s, weight))
	} else {
		wantNotFound(t, w, s)
	}
	wantRank(t, w, s, l.rank(s))
	under := l.under(s)
	wantUnder(t, w, s, under...)
	return ok, len(under)
}

// checkNumbers holds what w tells of all numbers, and without being asked for any, against the model.
func checkNumbers(t *testing.T, w *Walk, l model) {
	t.Helper()
	if w.Len() != len(l) {
		t.Errorf("P9.2: Len() = %d, want %d", w.Len(), len(l))
	}
	for i := -2; i < len(l)+2; i++ {
		if p, ok := l.at(i); ok {
			wantAt(t, w, i, p)
		} else {
			wantNoneAt(t, w, i)
		}
	}
	wantPairs(t, "All()", w.All(), l...)
}

// checkMachine holds Root, State and Base against the machine.
func checkMachine(t *testing.T, w *Walk, m api.Machine) {
	t.Helper()
	if w.Root() != len(m.States)-1 || w.Base() != m.Base {
		t.Errorf("P9.4: Root() = %d, Base() = %d, want %d, %d", w.Root(), w.Base(), len(m.States)-1, m.Base)
	}
	for n := -2; n < len(m.States)+2; n++ {
		if n >= 0 && n < len(m.States) {
			wantState(t, w, n, m.States[n])
		} else {
			wantNoState(t, w, n)
		}
	}
}

// everyText goes through all texts of up to n of those bytes.
func everyText(n int, of string, look func(string)) {
	look("")
	if n == 0 {
		return
	}
	everyText(n-1, of, func(s string) {
		for i := range len(of) {
			look(of[i:i+1] + s)
		}
	})
}

// P9.1 to P9.5: all dictionaries of some words, asked for all short texts of their bytes and of others beside them.
func TestAllSmallDictionaries(t *testing.T) {
	pool := []string{"a", "aa", "aaé", "ab", "b", "bé", "é", "éa", "ê"}
	texts := map[string]int{}
	everyText(3, "ab\x00\xc3\xa9\xaa\xff", func(s string) { texts[s]++ })
	found, begun, none := 0, 0, 0
	for set := range 1 << len(pool) {
		var l model
		for i, word := range pool {
			if set>>i&1 == 1 {
				// Some weights alike, so that states are shared, some not.
				l = append(l, pair(word, 1+(i*set)%4))
			}
		}
		m := built(t, l)
		w, ok := New(m)
		if !ok {
			t.Fatalf("P9.1: no walk on %s", show(l))
		}
		checkNumbers(t, w, l)
		checkMachine(t, w, m)
		for s := range texts {
			switch ok, under := checkText(t, w, l, s); {
			case ok:
				found++
			case under > 0:
				begun++
			default:
				none++
			}
		}
		if t.Failed() {
			t.Fatalf("of the dictionary %s", show(l))
		}
	}
	if found < 1000 || begun < 1000 || none < 1000 {
		t.Errorf("the texts show too little: %d found, %d that words begin with, %d others", found, begun, none)
	}
}

// wordsOf are the words of a right machine, way by way, then sorted.
func wordsOf(m api.Machine) model {
	var l model
	var follow func(n int, word string, weight int)
	follow = func(n int, word string, weight int) {
		s := m.States[n]
		if s.Final {
			l = append(l, pair(word, weight+s.Out))
		}
		for _, a := range s.Arcs {
			follow(a.To, word+string(a.Label), weight+a.Out)
		}
	}
	if len(m.States) > 0 {
		follow(len(m.States)-1, "", m.Base)
	}
	sort.Slice(l, func(i, j int) bool { return l[i].Word < l[j].Word })
	return l
}

// everyArcs goes through all lists of arcs that have each of the labels once, with one of the outs and one of the numbers, or not at all.
func everyArcs(labels []rune, outs, numbers []int, look func([]api.Arc)) {
	if len(labels) == 0 {
		look(nil)
		return
	}
	everyArcs(labels[1:], outs, numbers, func(l []api.Arc) {
		look(l)
		for _, out := range outs {
			for _, to := range numbers {
				look(append([]api.Arc{arc(labels[0], out, to)}, l...))
			}
		}
	})
}

// everyMachine goes through all machines of n states behind those that are there, with such arcs, Final or not.
func everyMachine(n int, m api.Machine, look func(api.Machine)) {
	if n == 0 {
		look(m)
		return
	}
	var numbers []int
	for i := range len(m.States) {
		numbers = append(numbers, i)
	}
	everyArcs([]rune{'a', 'b'}, []int{0, 1}, numbers, func(l []api.Arc) {
		for _, s := range []api.State{inner(l...), final(0, l...), final(1, l...)} {
			more := m
			more.States = append(slices.Clone(m.States), s)
			everyMachine(n-1, more, look)
		}
	})
}

// P9.1 to P9.4: there is a walk on all small machines that are right, and on no other ones.
func TestAllSmallMachines(t *testing.T) {
	right, wrong := 0, 0
	for n := range 4 {
		everyMachine(n, machine(3), func(m api.Machine) {
			w, ok := New(m)
			switch {
			case ok != pack.Right(m) || ok != (w != nil):
				t.Fatalf("P9.1: New(%v) = %v, %t", m, w, ok)
			case !ok:
				wrong++
				return
			}
			right++
			l := wordsOf(m)
			checkNumbers(t, w, l)
			checkMachine(t, w, m)
			for _, s := range []string{"", "a", "aa", "ab", "b", "ba", "bb", "bba", "c", "a\xff"} {
				checkText(t, w, l, s)
			}
			if t.Failed() {
				t.Fatalf("of the machine %v", m)
			}
		})
	}
	if right < 20 || wrong < 1000 {
		t.Errorf("the machines show too little: %d right, %d wrong", right, wrong)
	}
}

// drawnText is of the runes of the alphabet, up to so many.
func drawnText(r *rand.Rand, alphabet []rune, most int) string {
	var b strings.Builder
	for range 1 + r.Intn(most) {
		b.WriteRune(alphabet[r.Intn(len(alphabet))])
	}
	return b.String()
}

// drawn is a dictionary of up to so many words.
func drawn(r *rand.Rand, alphabet []rune, words, runes, weights int) model {
	by := map[string]int{}
	for range words {
		by[drawnText(r, alphabet, runes)] = 1 + r.Intn(weights)
	}
	var l model
	for word, weight := range by {
		l = append(l, pair(word, weight))
	}
	sort.Slice(l, func(i, j int) bool { return l[i].Word < l[j].Word })
	return l
}

// drawnAsk is a text near to the words of l: one of them, its beginning, or one with some byte put in, taken out or changed.
func drawnAsk(r *rand.Rand, l model, alphabet []rune) string {
	if len(l) == 0 || r.Intn(8) == 0 {
		return drawnText(r, alphabet, 4)
	}
	s := l[r.Intn(len(l))].Word
	i, b := r.Intn(len(s)), string([]byte{byte(r.Intn(256))})
	switch r.Intn(5) {
	case 0:
		return s[:i]
	case 1:
		return s[:i] + b + s[i:]
	case 2:
		return s[:i] + b + s[i+1:]
	case 3:
		return s[:i] + s[i+1:]
	}
	return s
}

// alphabets: runes of one size and of all sizes, few of them so that words begin alike.
func alphabets() [][]rune {
	return [][]rune{
		{'a', 'b'},
		{'a', 'b', 'c', 'd', 'e', 'f'},
		{'é', 'ê', 'ä', 'ß', 0x100},
		{'a', 0x7e, 0x80, 0x7ff, 0x800, 0xd7ff, 0xe000, 0xffff, 0x10000, 0x10ffff},
	}
}

// P9.1 to P9.5: drawn dictionaries, small and great ones.
func TestDrawnDictionaries(t *testing.T) {
	r := rand.New(rand.NewSource(9))
	found, begun, none := 0, 0, 0
	for round := range 400 {
		alphabet := alphabets()[round%4]
		l := drawn(r, alphabet, r.Intn(1+round), 1+r.Intn(api.MaxRunes), 1+r.Intn(1+round*round))
		m := built(t, l)
		w, ok := New(m)
		if !ok {
			t.Fatalf("P9.1: no walk on %s", show(l))
		}
		checkNumbers(t, w, l)
		checkMachine(t, w, m)
		for range 50 {
			switch ok, under := checkText(t, w, l, drawnAsk(r, l, alphabet)); {
			case ok:
				found++
			case under > 0:
				begun++
			default:
				none++
			}
		}
		if t.Failed() {
			t.Fatalf("of the dictionary of round %d, %s", round, show(l))
		}
	}
	if found < 1000 || begun < 1000 || none < 1000 {
		t.Errorf("the texts show too little: %d found, %d that words begin with, %d others", found, begun, none)
	}
}

// going is an iterator that is being gone over, and what it must still tell.
type going struct {
	next func() (api.Pair, bool)
	stop func()
	rest []api.Pair
}

func (g *going) check(t *testing.T) {
	t.Helper()
	p, ok := g.next()
	if len(g.rest) == 0 {
		if ok {
			t.Errorf("P9.5: an iterator tells %v behind its end", p)
		}
		return
	}
	if !ok || p != g.rest[0] {
		t.Errorf("P9.5: an iterator tells %v, %t, want %v", p, ok, g.rest[0])
	}
	g.rest = g.rest[1:]
}

// P9.5: what is told is the same, whatever was asked ahead of it and whatever iterators are under way.
func TestAnyOrder(t *testing.T) {
	r := rand.New(rand.NewSource(95))
	for round := range 60 {
		alphabet := alphabets()[round%4]
		l := drawn(r, alphabet, 1+r.Intn(80), 1+r.Intn(6), 5)
		m := built(t, l)
		w, _ := New(m)
		var under []*going
		for range 400 {
			ask := drawnAsk(r, l, alphabet)
			switch r.Intn(6) {
			case 0:
				next, stop := iter.Pull(w.Under(ask))
				under = append(under, &going{next, stop, l.under(ask)})
			case 1:
				next, stop := iter.Pull(w.All())
				under = append(under, &going{next, stop, l})
			case 2:
				checkText(t, w, l, ask)
			case 3:
				checkMachine(t, w, m)
			default:
				for range min(5, len(under)) {
					under[r.Intn(len(under))].check(t)
				}
			}
		}
		for _, g := range under {
			g.stop()
		}
		checkNumbers(t, w, l)
		if t.Failed() {
			t.Fatalf("of the dictionary of round %d, %s", round, show(l))
		}
	}
}
