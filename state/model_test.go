package state

import (
	"bytes"
	"encoding/binary"
	"math"
	"math/rand"
	"slices"
	"strings"
	"testing"

	"abecedary/api"
	"abecedary/dict"
	"abecedary/letters"
	"abecedary/pack"
	"abecedary/session"
)

// numberOf is one number of one session.
type numberOf struct{ id, seq uint64 }

// model has the words as a map, and all that was ever answered in a session.
type model struct {
	weights  map[string]int
	latest   []uint64
	answered map[numberOf]api.Answer
}

func newModel() *model {
	return &model{weights: map[string]int{}, answered: map[numberOf]api.Answer{}}
}

func (m *model) do(c api.Command) api.Answer {
	switch {
	case c.Kind == api.CmdOpen && len(m.latest) == api.MaxSessions:
		return fails(api.ErrSessionFull)
	case c.Kind == api.CmdOpen:
		m.latest = append(m.latest, 0)
		return api.Answer{Session: uint64(len(m.latest))}
	case c.Kind != api.CmdSet && c.Kind != api.CmdRemove:
		return fails(api.ErrStateKind)
	case c.Session == 0 || c.Session > uint64(len(m.latest)):
		return fails(api.ErrSessionNone)
	case c.Seq == 0 || c.Seq < m.latest[c.Session-1]:
		return fails(api.ErrSessionOld)
	}
	n := numberOf{c.Session, c.Seq}
	if c.Seq > m.latest[c.Session-1] {
		m.latest[c.Session-1] = c.Seq
		m.answered[n] = m.change(c)
	}
	return m.answered[n]
}

// change is what a Set or Remove does to the words, as chapter 14 says.
func (m *model) change(c api.Command) api.Answer {
	was, there := m.weights[c.Word]
	switch {
	case !letters.Word(c.Word):
		return fails(api.ErrDictWord)
	case c.Kind == api.CmdRemove && !there:
		return fails(api.ErrDictNone)
	case c.Kind == api.CmdRemove:
		delete(m.weights, c.Word)
	case c.Weight < 1 || c.Weight > api.MaxWeight:
		return fails(api.ErrDictWeight)
	case !there && len(m.weights) == api.MaxWords:
		return fails(api.ErrDictFull)
	default:
		m.weights[c.Word] = c.Weight
	}
	return had(was)
}

func (m *model) words() []api.Pair {
	var l []api.Pair
	for word, weight := range m.weights {
		l = append(l, pair(word, weight))
	}
	slices.SortFunc(l, func(a, b api.Pair) int { return strings.Compare(a.Word, b.Word) })
	return l
}

func (m *model) rows() []session.Row {
	var l []session.Row
	for i, seq := range m.latest {
		l = append(l, row(seq, m.answered[numberOf{uint64(i + 1), seq}]))
	}
	return l
}

// wantLike holds all that is told against the model.
func wantLike(t *testing.T, s *State, m *model, asks ...api.Query) {
	t.Helper()
	words := m.words()
	wantHas(t, s, words, m.rows())
	d, _ := dict.Load(words)
	for _, q := range asks {
		want, code := d.Suggest(q)
		if l, e := s.Suggest(q); e != code || !slices.Equal(l, want) {
			t.Errorf("P16.3: Suggest(%v) = %v, %d, want %v, %d", q, l, e, want, code)
		}
	}
}

// again is the same state by another way: a clone, or a loaded one; what it was made of is spoilt.
func again(t *testing.T, s *State, way int) *State {
	t.Helper()
	var c *State
	switch way % 3 {
	case 0:
		return s
	case 1:
		c = s.Clone()
	case 2:
		c = loaded(t, s.Image())
	}
	s.Do(opening())
	for id := range uint64(4) {
		s.Do(setting(id, math.MaxUint64, "spoilt", 9))
	}
	return c
}

// All ways of four of these commands come to what the model says, whether one goes on with the state itself, with clones, or with loaded ones.
func TestAllShortWays(t *testing.T) {
	l := []api.Command{
		opening(), {Kind: 4, Session: 1, Seq: 1},
		setting(1, 1, "a", 1), setting(1, 2, "a", 2), setting(1, 2, "ab", 3), setting(1, 3, "", 1), setting(2, 1, "a", 4), setting(1, 0, "a", 5),
		removing(1, 1, "a"), removing(1, 2, "a"), removing(2, 2, "a"), removing(1, 3, "ab"),
	}
	ways := len(l) * len(l) * len(l) * len(l)
	for way := range ways {
		s, m := opened(t, 1), newModel()
		m.do(opening())
		for n, rest := 0, way; n < 4; n, rest = n+1, rest/len(l) {
			c := l[rest%len(l)]
			wantDo(t, s, c, m.do(c))
			s = again(t, s, way/7+n)
		}
		wantLike(t, s, m, ask("a", 1, 9))
		if t.Failed() {
			t.Fatalf("behind the way %d", way)
		}
	}
}

// drawnWords are some words with few runes and one that is none, so that commands meet each other's.
func drawnWords(r *rand.Rand, n int) []string {
	alphabet := [][]rune{{'a', 'b'}, {'a', 'b', 'c', 'd'}, {'a', 0x7ff, 0x800, 0xffff, 0x10000, 0x10ffff}}[r.Intn(3)]
	l := []string{"", "a b"}
	for len(l) < n {
		var runes []rune
		for range 1 + r.Intn(5) {
			runes = append(runes, alphabet[r.Intn(len(alphabet))])
		}
		l = append(l, string(runes))
	}
	return l
}

// drawnCommand is one of any kind, oftenest one whose number is about the latest one of its session.
func drawnCommand(r *rand.Rand, m *model, words []string) api.Command {
	c := api.Command{
		Kind:    api.CmdSet + r.Intn(2),
		Session: uint64(r.Intn(len(m.latest) + 2)),
		Word:    words[r.Intn(len(words))],
		Weight:  []int{1, 2, 3, 7, 100, api.MaxWeight, api.MaxWeight + 1, 0}[r.Intn(8)],
	}
	if r.Intn(30) == 0 {
		c.Kind = r.Intn(7) - 1
	}
	if c.Session > 0 && c.Session <= uint64(len(m.latest)) {
		c.Seq = m.latest[c.Session-1] + uint64(r.Intn(3))
	}
	if r.Intn(20) == 0 {
		c.Seq = uint64(r.Intn(9))
	}
	return c
}

// Drawn ways of many commands come to what the model says.
func TestDrawnWays(t *testing.T) {
	r := rand.New(rand.NewSource(16))
	codes := map[api.Errno]int{}
	for round := range 150 {
		words := drawnWords(r, 3+round)
		s, m := New(), newModel()
		for n := range 150 {
			c := drawnCommand(r, m, words)
			a := m.do(c)
			wantDo(t, s, c, a)
			codes[a.Code]++
			if r.Intn(20) == 0 {
				s = again(t, s, n)
				wantLike(t, s, m, ask(words[2], r.Intn(4), r.Intn(9)))
			}
			if t.Failed() {
				t.Fatalf("in the round %d", round)
			}
		}
		wantLike(t, s, m, ask(words[2], 3, 64))
	}
	for _, e := range []api.Errno{api.OK, api.ErrSessionNone, api.ErrSessionOld, api.ErrStateKind, api.ErrDictWord, api.ErrDictWeight, api.ErrDictNone} {
		if codes[e] < 100 {
			t.Errorf("the ways show too little: %v", codes)
		}
	}
}

// P16.6: what one does, and one that was loaded at some moment does, is the same from then on.
func TestDrawnLoadedGoOn(t *testing.T) {
	r := rand.New(rand.NewSource(166))
	for round := range 60 {
		words := drawnWords(r, 60)
		s, m := New(), newModel()
		others := []*State{New()}
		for n := range 120 {
			c := drawnCommand(r, m, words)
			m.do(c)
			want := s.Do(c)
			for i, u := range others {
				if a := u.Do(c); a != want {
					t.Errorf("P16.6: Do(%v) = %v, and %v of the one that was loaded as number %d", c, want, a, i)
				}
			}
			if n%25 == 24 {
				others = append(others, loaded(t, s.Image()))
			}
		}
		for _, u := range others {
			wantLike(t, u, m, ask(words[2], 2, 9))
			if !bytes.Equal(u.Image(), s.Image()) {
				t.Error("P16.6: states with the same words and sessions have unlike images")
			}
		}
		if t.Failed() {
			t.Fatalf("in the round %d", round)
		}
	}
}

// P16.7: requests that come in any order, often, and not all alike: of one number one at most changes the words.
func TestEachNumberOnce(t *testing.T) {
	r := rand.New(rand.NewSource(167))
	repeated, late := 0, 0
	for round := range 100 {
		words := drawnWords(r, 12)
		s := opened(t, 3)
		changed, first := map[numberOf]int{}, map[numberOf]api.Answer{}
		latest := map[uint64]uint64{}
		var c api.Command
		for n := range 200 {
			if n == 0 || r.Intn(3) > 0 {
				c = api.Command{Kind: api.CmdSet + r.Intn(2), Session: uint64(1 + r.Intn(3)), Seq: uint64(1 + r.Intn(2+n/6)), Word: words[r.Intn(12)], Weight: n + 1}
			}
			number := numberOf{c.Session, c.Seq}
			before := s.Words()
			a := s.Do(c)
			if !slices.Equal(s.Words(), before) {
				changed[number]++
			}
			was, seen := first[number]
			switch {
			case c.Seq < latest[c.Session]:
				late++
			case !seen:
				first[number], latest[c.Session] = a, c.Seq
			case a != was:
				t.Errorf("P16.7: %v is answered %v, and was answered %v the first time", c, a, was)
			default:
				repeated++
			}
			if changed[number] > 1 || c.Seq < latest[c.Session] && !slices.Equal(s.Words(), before) {
				t.Errorf("P16.7: %v has changed the words once more", c)
			}
			s = again(t, s, r.Intn(20))
		}
		if t.Failed() {
			t.Fatalf("in the round %d", round)
		}
	}
	if repeated < 1000 || late < 1000 {
		t.Errorf("shows too little: %d repeated, %d late", repeated, late)
	}
}

// read is what a body says, by P16.5; false, if nothing.
func read(b []byte) ([]session.Row, bool) {
	next := func(most uint64) (uint64, bool) {
		n, size := binary.Uvarint(b)
		if size <= 0 || n > most || size > 1 && b[size-1] == 0 {
			return 0, false
		}
		b = b[size:]
		return n, true
	}
	size, ok := next(api.MaxFrame)
	if !ok || size > uint64(len(b)) {
		return nil, false
	}
	if _, e := pack.Unpack(b[:size]); e != api.OK {
		return nil, false
	}
	b = b[size:]
	n, ok := next(api.MaxSessions)
	if !ok {
		return nil, false
	}
	var rows []session.Row
	for range n {
		var l [4]uint64
		for i, most := range []uint64{math.MaxUint64, 65535, math.MaxUint64, api.MaxWeight} {
			if l[i], ok = next(most); !ok {
				return nil, false
			}
		}
		if l[0] == 0 && (l[1] > 0 || l[2] > 0 || l[3] > 0) {
			return nil, false
		}
		rows = append(rows, row(l[0], api.Answer{Code: api.Errno(l[1]), Session: l[2], Had: int(l[3])}))
	}
	return rows, len(b) == 0
}

// wantRead holds Load of a sealed body against what reading it tells.
func wantRead(t *testing.T, b []byte) bool {
	t.Helper()
	rows, ok := read(b)
	if !ok {
		wantRefused(t, sealed(b))
		return false
	}
	if s := loaded(t, sealed(b)); !slices.Equal(s.Sessions(), rows) {
		t.Errorf("P16.5: Load(%s) has the sessions %v, want %v", showBytes(b), s.Sessions(), rows)
	}
	return true
}

// P16.5: all short bodies of some bytes, behind the machine of nothing and without it.
func TestAllShortBodies(t *testing.T) {
	choice := []byte{0, 1, 2, 0x80, 0xff}
	taken := 0
	for _, head := range [][]byte{nil, {2, 0, 0}} {
		bodies := [][]byte{head}
		for range 6 {
			var longer [][]byte
			for _, b := range bodies {
				if wantRead(t, b) {
					taken++
				}
				for _, c := range choice {
					longer = append(longer, append(slices.Clone(b), c))
				}
			}
			bodies = longer
			if t.Failed() {
				t.FailNow()
			}
		}
	}
	if taken < 20 {
		t.Errorf("shows too little: %d are taken", taken)
	}
}

// P16.5: images with a byte changed, put in or taken out, and sealed again.
func TestChangedBodies(t *testing.T) {
	r := rand.New(rand.NewSource(165))
	taken, refused := 0, 0
	for round := range 3000 {
		words := drawnWords(r, 3+round%40)
		m := newModel()
		for range 60 {
			m.do(drawnCommand(r, m, words))
		}
		b := bodyOf(m.words(), m.rows())
		for range 1 + r.Intn(2) {
			i := r.Intn(len(b))
			switch r.Intn(3) {
			case 0:
				b[i] = byte(r.Intn(256))
			case 1:
				b[i] ^= 1 << r.Intn(8)
			case 2:
				b = slices.Insert(slices.Delete(b, i, i+r.Intn(2)), i, make([]byte, r.Intn(2))...)
			}
		}
		if wantRead(t, b) {
			taken++
		} else {
			refused++
		}
		if t.Failed() {
			t.Fatalf("in the round %d", round)
		}
	}
	if taken < 300 || refused < 300 {
		t.Errorf("shows too little: %d are taken, %d refused", taken, refused)
	}
}
