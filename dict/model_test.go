package dict

import (
	"cmp"
	"math/rand"
	"slices"
	"strconv"
	"strings"
	"testing"

	"abecedary/api"
	"abecedary/edit"
	"abecedary/letters"
)

// model is a dictionary as a map, and the words that were changed since the machine was built that a dict would have.
type model struct {
	weights map[string]int
	changed map[string]bool
}

func newModel() *model {
	return &model{weights: map[string]int{}, changed: map[string]bool{}}
}

func modelOf(l []api.Pair) *model {
	m := newModel()
	for _, p := range l {
		m.weights[p.Word] = p.Weight
	}
	return m
}

func (m *model) clone() *model {
	c := modelOf(m.pairs())
	for word := range m.changed {
		c.changed[word] = true
	}
	return c
}

func (m *model) set(word string, weight int) (int, api.Errno) {
	had, there := m.weights[word]
	switch {
	case !letters.Word(word):
		return 0, api.ErrDictWord
	case weight < 1 || weight > api.MaxWeight:
		return 0, api.ErrDictWeight
	case !there && len(m.weights) == api.MaxWords:
		return 0, api.ErrDictFull
	case had != weight:
		m.weights[word] = weight
		m.count(word)
	}
	return had, api.OK
}

func (m *model) remove(word string) (int, api.Errno) {
	had, there := m.weights[word]
	switch {
	case !letters.Word(word):
		return 0, api.ErrDictWord
	case !there:
		return 0, api.ErrDictNone
	}
	delete(m.weights, word)
	m.count(word)
	return had, api.OK
}

func (m *model) count(word string) {
	m.changed[word] = true
	if len(m.changed) > api.MaxOverlay {
		clear(m.changed)
	}
}

func (m *model) pairs() []api.Pair {
	var l []api.Pair
	for word, weight := range m.weights {
		l = append(l, pair(word, weight))
	}
	slices.SortFunc(l, func(a, b api.Pair) int { return strings.Compare(a.Word, b.Word) })
	return l
}

// suggest is P14.4 by looking at all words.
func (m *model) suggest(q api.Query) ([]api.Match, api.Errno) {
	if !letters.Word(q.Word) || q.Edits < 0 || q.Edits > api.MaxEdits {
		return nil, api.ErrLevForm
	}
	var l []api.Match
	for word, weight := range m.weights {
		if n, _ := edit.Distance(word, q.Word); n <= q.Edits {
			l = append(l, hit(word, weight, n))
		}
	}
	slices.SortFunc(l, func(a, b api.Match) int {
		return cmp.Or(cmp.Compare(a.Dist, b.Dist), cmp.Compare(b.Weight, a.Weight), strings.Compare(a.Word, b.Word))
	})
	return l[:max(0, min(len(l), q.Best, api.MaxBest))], api.OK
}

// The kinds of steps.
const (
	setStep = iota
	removeStep
	compactStep
	cloneStep // goes on with a clone, and spoils what was cloned
)

type step struct {
	kind   int
	word   string
	weight int
}

func (s step) String() string {
	return []string{"Set", "Remove", "Compact", "Clone"}[s.kind] + "(" + strconv.Quote(s.word) + ", " + strconv.Itoa(s.weight) + ")"
}

// result is what a step told, beside Changes.
type result struct {
	had  int
	code api.Errno
}

// do makes a step, and tells with which dictionary it goes on.
func (s step) do(d *Dict) (*Dict, result) {
	switch s.kind {
	case setStep:
		had, e := d.Set(s.word, s.weight)
		return d, result{had, e}
	case removeStep:
		had, e := d.Remove(s.word)
		return d, result{had, e}
	case compactStep:
		d.Compact()
		return d, result{}
	}
	c := d.Clone()
	d.Set("spoilt", 1)
	d.Set("s", 9)
	d.Remove("a")
	return c, result{}
}

func (s step) doModel(m *model) result {
	switch s.kind {
	case setStep:
		had, e := m.set(s.word, s.weight)
		return result{had, e}
	case removeStep:
		had, e := m.remove(s.word)
		return result{had, e}
	case compactStep:
		clear(m.changed)
	}
	return result{}
}

// wantStep makes a step with both, and tells with which dictionary it goes on.
func wantStep(t *testing.T, d *Dict, m *model, s step) *Dict {
	t.Helper()
	d, got := s.do(d)
	want := s.doModel(m)
	if got != want {
		t.Errorf("P14.2: the step %v tells %v, want %v", s, got, want)
	}
	if d.Len() != len(m.weights) || d.Changes() != len(m.changed) {
		t.Errorf("P14.3, P14.5: behind the step %v Len() = %d, Changes() = %d, want %d, %d", s, d.Len(), d.Changes(), len(m.weights), len(m.changed))
	}
	return d
}

// wantLike holds all that is told against the model.
func wantLike(t *testing.T, d *Dict, m *model, asks ...api.Query) {
	t.Helper()
	wantWords(t, d, m.pairs()...)
	wantChanges(t, d, len(m.changed))
	for word := range m.changed {
		if weight, there := m.weights[word]; there {
			wantWeight(t, d, word, weight)
		} else {
			wantNoWeight(t, d, word)
		}
	}
	for _, q := range asks {
		want, code := m.suggest(q)
		if l, e := d.Suggest(q); e != code || !slices.Equal(l, want) {
			t.Errorf("P14.4: Suggest(%v) = %s, %d, want %s, %d", q, showHits(l), e, showHits(want), code)
		}
	}
}

// P14.1 to P14.6: all ways of four of these steps, from none and from some words on.
func TestAllShortWays(t *testing.T) {
	steps := []step{
		{setStep, "a", 1}, {setStep, "a", 2}, {setStep, "ab", 3}, {setStep, "b", 1}, {setStep, "", 1}, {setStep, "a", 0},
		{removeStep, "a", 0}, {removeStep, "ab", 0}, {removeStep, "b", 0}, {kind: compactStep}, {kind: cloneStep},
	}
	asks := []api.Query{ask("a", 1, 2), ask("ab", 3, 9), ask("b", 0, 1)}
	for _, from := range [][]api.Pair{nil, words(pair("a", 2), pair("b", 1))} {
		for n := range len(steps) * len(steps) * len(steps) * len(steps) {
			d, m := loaded(t, from...), modelOf(from)
			k := n
			for range 4 {
				d = wantStep(t, d, m, steps[k%len(steps)])
				k /= len(steps)
			}
			wantLike(t, d, m, asks...)
			if t.Failed() {
				t.Fatalf("of the way %d from %s on", n, showPairs(from))
			}
		}
	}
}

// alphabets: few runes, so that words are near to each other and come again, more, and those of all sizes.
func alphabets() [][]rune {
	return [][]rune{
		{'a', 'b'},
		{'a', 'b', 'c', 'd', 'e', 'f'},
		{'a', '!', '~', 0x80, 0x7ff, 0x800, 0xd7ff, 0xe000, 0xffff, 0x10000, 0x10ffff},
	}
}

func drawnWord(r *rand.Rand, alphabet []rune, most int) string {
	var l []rune
	for range 1 + r.Intn(most) {
		l = append(l, alphabet[r.Intn(len(alphabet))])
	}
	return string(l)
}

// drawnStep is a step of any kind, some of them wrong; a word of l is taken oftener than another one.
func drawnStep(r *rand.Rand, l []string) step {
	word, weight := l[r.Intn(len(l))], 1+r.Intn(6)
	switch k := r.Intn(100); {
	case k < 50:
		return step{setStep, word, weight}
	case k < 85:
		return step{removeStep, word, 0}
	case k < 88:
		return step{setStep, word + " ", weight}
	case k < 90:
		return step{removeStep, word + "\xff", 0}
	case k < 94:
		return step{setStep, word, []int{0, -1, api.MaxWeight + 1, api.MaxWeight}[r.Intn(4)]}
	case k < 96:
		return step{kind: compactStep}
	}
	return step{kind: cloneStep}
}

// drawnWords are up to so many drawn words to take steps with.
func drawnWords(r *rand.Rand, round, most int) []string {
	var l []string
	for range 1 + r.Intn(most) {
		l = append(l, drawnWord(r, alphabets()[round%3], 1+round%10))
	}
	return l
}

func drawnAsk(r *rand.Rand, l []string) api.Query {
	word := l[r.Intn(len(l))]
	if i := r.Intn(len(word)); i > 0 && letters.Word(word[:i]) {
		word = word[:i]
	}
	return ask(word, r.Intn(api.MaxEdits+2), r.Intn(api.MaxBest+10)-2)
}

// P14.1 to P14.6: drawn ways, with few words and with many, so that machines are built by the number of changes, too.
func TestDrawnWays(t *testing.T) {
	r := rand.New(rand.NewSource(14))
	codes, builds, most := map[api.Errno]int{}, 0, 0
	for round := range 200 {
		l := drawnWords(r, round, 1+2*round)
		d, m := New(), newModel()
		for range 300 {
			s := drawnStep(r, l)
			before := len(m.changed)
			d = wantStep(t, d, m, s)
			if len(m.changed) < before && s.kind != compactStep {
				builds++
			}
			most = max(most, len(m.changed))
			if r.Intn(20) == 0 {
				wantLike(t, d, m, drawnAsk(r, l), drawnAsk(r, l))
			}
			_, e := m.clone().set(s.word, s.weight)
			codes[e]++
			if t.Failed() {
				t.Fatalf("of the way of round %d", round)
			}
		}
		wantLike(t, d, m, drawnAsk(r, l), drawnAsk(r, l))
	}
	if builds < 100 || most != api.MaxOverlay || codes[api.OK] < 1000 || codes[api.ErrDictWord] < 1000 || codes[api.ErrDictWeight] < 1000 {
		t.Errorf("the ways show too little: %d machines were built, at most %d words changed, %v", builds, most, codes)
	}
}

// P14.2, P14.5: drawn ways of a dictionary that is full, or nearly so.
func TestDrawnWaysOfTheGreatest(t *testing.T) {
	r := rand.New(rand.NewSource(142))
	full := 0
	for round := range 6 {
		from := many(0, api.MaxWords-round%3)
		d, m := loaded(t, from...), modelOf(from)
		for range 400 {
			s := step{setStep, numbered(r.Intn(api.MaxWords + 400)), 1 + r.Intn(9)}
			if r.Intn(5) == 0 {
				s = step{removeStep, numbered(r.Intn(api.MaxWords)), 0}
			}
			// Or it would hardly ever be full again.
			if r.Intn(2) == 0 && len(m.weights) < api.MaxWords {
				s = step{setStep, numbered(api.MaxWords + r.Intn(400)), 5}
			}
			_, there := m.weights[s.word]
			if s.kind == setStep && !there && len(m.weights) == api.MaxWords {
				full++
			}
			d = wantStep(t, d, m, s)
		}
		wantLike(t, d, m, ask("aaaa", 1, 9), ask("abcd", 2, 70), ask("ponm", 3, 64))
		if t.Failed() {
			t.Fatalf("of the way of round %d", round)
		}
	}
	if full < 100 {
		t.Errorf("the ways show too little: %d times full", full)
	}
}

// wantAlike holds all that both tell, but Changes, against each other.
func wantAlike(t *testing.T, a, b *Dict, l []string, asks ...api.Query) {
	t.Helper()
	if a.Len() != b.Len() || !slices.Equal(a.Pairs(), b.Pairs()) || !sameMachine(a.Machine(), b.Machine()) {
		t.Errorf("P14.6: one has %s, the other one %s", showPairs(a.Pairs()), showPairs(b.Pairs()))
	}
	for _, word := range l {
		n, ok := a.Weight(word)
		if k, good := b.Weight(word); n != k || ok != good {
			t.Errorf("P14.6: Weight(%q) = %d, %t of one, %d, %t of the other one", word, n, ok, k, good)
		}
	}
	for _, q := range asks {
		one, e := a.Suggest(q)
		if other, code := b.Suggest(q); e != code || !slices.Equal(one, other) {
			t.Errorf("P14.6: Suggest(%v) = %s, %d of one, %s, %d of the other one", q, showHits(one), e, showHits(other), code)
		}
	}
}

// reloaded is a dictionary of the same words, by another way.
func reloaded(t *testing.T, d *Dict, n int) *Dict {
	t.Helper()
	switch n % 3 {
	case 0:
		return loaded(t, d.Pairs()...)
	case 1:
		return d.Clone()
	}
	c := New()
	for _, p := range d.Pairs() {
		wantSet(t, c, p.Word, p.Weight, 0, api.OK)
	}
	return c
}

// P14.6: when machines were built is not seen: one has none built but by the number of changes, others at drawn moments, one always.
func TestWhenMachinesWereBuiltIsNotSeen(t *testing.T) {
	r := rand.New(rand.NewSource(146))
	unlike := 0
	for round := range 60 {
		l := drawnWords(r, round, 150)
		own, drawn, always, other := New(), New(), New(), New()
		for n := range 200 {
			s := drawnStep(r, l)
			if s.kind > removeStep {
				other = reloaded(t, other, n)
				drawn.Compact()
				continue
			}
			_, want := s.do(own)
			for i, d := range []*Dict{drawn, always, other} {
				if _, got := s.do(d); got != want {
					t.Errorf("P14.6: %v tells %v, and %v of the dictionary %d", s, want, got, i)
				}
			}
			always.Compact()
			if own.Changes() != other.Changes() {
				unlike++
			}
		}
		for _, d := range []*Dict{drawn, always, other} {
			wantAlike(t, own, d, l, drawnAsk(r, l), drawnAsk(r, l), drawnAsk(r, l))
		}
		if t.Failed() {
			t.Fatalf("of the way of round %d", round)
		}
	}
	if unlike < 1000 {
		t.Errorf("the ways show too little: %d times were machines built at other moments", unlike)
	}
}

// P14.6: each step tells, and each word ends with, what it would with that word's steps alone, in whatever order words take turns.
func TestWordsDoNotBearOnEachOther(t *testing.T) {
	r := rand.New(rand.NewSource(1466))
	for round := range 100 {
		l := drawnWords(r, round, 80)
		together, alone := New(), map[string]*Dict{}
		for range 300 {
			s := drawnStep(r, l)
			if s.kind > removeStep {
				continue
			}
			if alone[s.word] == nil {
				alone[s.word] = New()
			}
			_, got := s.do(together)
			_, want := s.do(alone[s.word])
			if got != want {
				t.Errorf("P14.6: %v tells %v among others, %v alone", s, got, want)
			}
		}
		var rest []api.Pair
		for _, d := range alone {
			rest = append(rest, d.Pairs()...)
		}
		wantWords(t, together, modelOf(rest).pairs()...)
		if t.Failed() {
			t.Fatalf("of the way of round %d", round)
		}
	}
}
