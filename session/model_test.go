package session

import (
	"math"
	"math/rand"
	"slices"
	"testing"

	"abecedary/api"
)

// asked is one request: a number of a session.
type asked struct{ id, seq uint64 }

// model keeps all that was ever kept, in the order in which it was.
type model struct {
	sessions uint64
	kept     []asked
	answers  map[asked]api.Answer
}

func newModel() *model {
	return &model{answers: map[asked]api.Answer{}}
}

func (m *model) clone() *model {
	c := newModel()
	c.sessions, c.kept = m.sessions, slices.Clone(m.kept)
	for q, a := range m.answers {
		c.answers[q] = a
	}
	return c
}

func (m *model) has(id uint64) bool {
	return 0 < id && id <= m.sessions
}

// latest is the last number that was kept in a session, or 0.
func (m *model) latest(id uint64) uint64 {
	for _, q := range slices.Backward(m.kept) {
		if q.id == id {
			return q.seq
		}
	}
	return 0
}

func (m *model) open() (uint64, api.Errno) {
	if m.sessions == api.MaxSessions {
		return 0, api.ErrSessionFull
	}
	m.sessions++
	return m.sessions, api.OK
}

func (m *model) check(id, seq uint64) (api.Answer, bool, api.Errno) {
	if !m.has(id) {
		return api.Answer{}, false, api.ErrSessionNone
	}
	latest := m.latest(id)
	if seq < max(latest, 1) {
		return api.Answer{}, false, api.ErrSessionOld
	}
	a, ok := m.answers[asked{id, seq}]
	return a, ok, api.OK
}

func (m *model) keep(id, seq uint64, a api.Answer) bool {
	if !m.has(id) || m.latest(id) >= seq {
		return false
	}
	m.kept = append(m.kept, asked{id, seq})
	m.answers[asked{id, seq}] = a
	return true
}

func (m *model) rows() []Row {
	var l []Row
	for id := uint64(1); id <= m.sessions; id++ {
		seq := m.latest(id)
		l = append(l, row(seq, m.answers[asked{id, seq}]))
	}
	return l
}

// wantLike holds a table against its model, by all that may be asked of the sessions and numbers that are about.
func wantLike(t *testing.T, s *Table, m *model, ids, seqs []uint64) {
	t.Helper()
	wantRows(t, s, m.rows()...)
	for _, id := range ids {
		for _, seq := range seqs {
			a, again, e := m.check(id, seq)
			wantCheck(t, s, id, seq, a, again, e)
		}
	}
}

// The kinds of steps that are not Keep.
const (
	openStep = iota
	cloneStep
	loadStep
	otherSteps
)

// do does a step to both: Open, to go on with a clone and spoil what was cloned, to go on with what its rows load, or Keep of one of those.
func do(t *testing.T, s *Table, m *model, step int, keeps []asked, a api.Answer) (*Table, *model) {
	t.Helper()
	switch step {
	case openStep:
		id, e := m.open()
		if got, code := s.Open(); got != id || code != e {
			t.Errorf("P15.2: Open() = %d, %d, want %d, %d", got, code, id, e)
		}
	case cloneStep:
		c := s.Clone()
		s.Open()
		for id := range uint64(4) {
			s.Keep(id, math.MaxUint64, had(-1))
		}
		return c, m.clone()
	case loadStep:
		return loaded(t, s.Rows()...), m
	default:
		q := keeps[step-otherSteps]
		wantKeep(t, s, q.id, q.seq, a, m.keep(q.id, q.seq, a))
	}
	return s, m
}

// All ways of a few steps come to what the model says.
func TestAllShortWays(t *testing.T) {
	keeps := []asked{{0, 1}, {1, 0}, {1, 1}, {1, 2}, {1, 3}, {2, 1}, {2, 2}, {3, 1}}
	ids, seqs := []uint64{0, 1, 2, 3}, []uint64{0, 1, 2, 3, 4}
	all, length := otherSteps+len(keeps), 4
	ways := 1
	for range length {
		ways *= all
	}
	for way := range ways {
		s, m := New(), newModel()
		for n, rest := 0, way; n < length; n, rest = n+1, rest/all {
			s, m = do(t, s, m, rest%all, keeps, had(n+1))
			wantLike(t, s, m, ids, seqs)
		}
		if t.Failed() {
			t.Fatalf("behind the way %d", way)
		}
	}
}

// Drawn ways of many steps, with numbers near to each other, and near to the greatest one.
func TestDrawnWays(t *testing.T) {
	r := rand.New(rand.NewSource(15))
	again, old := 0, 0
	for round := range 200 {
		first := []uint64{0, math.MaxInt64 - 3, math.MaxUint64 - 7}[round%3]
		var seqs []uint64
		for i := range uint64(8) {
			seqs = append(seqs, first+i)
		}
		ids := []uint64{0, 1, 2, 3, 4, 5, math.MaxUint64}
		var keeps []asked
		for _, id := range ids {
			for _, seq := range seqs {
				keeps = append(keeps, asked{id, seq})
			}
		}
		s, m := New(), newModel()
		for n := range 60 {
			step := r.Intn(otherSteps + len(keeps))
			if r.Intn(12) == 0 {
				step = r.Intn(otherSteps)
			}
			s, m = do(t, s, m, step, keeps, api.Answer{Code: api.Errno(r.Intn(3)), Session: uint64(r.Intn(2)), Had: n})
			wantLike(t, s, m, ids, seqs)
		}
		for _, q := range keeps {
			switch _, was, e := m.check(q.id, q.seq); {
			case was:
				again++
			case e == api.ErrSessionOld:
				old++
			}
		}
		if t.Failed() {
			t.Fatalf("in the round %d", round)
		}
	}
	if again < 200 || old < 1000 {
		t.Errorf("shows too little: %d are told again, %d are old", again, old)
	}
}

// server does requests by P15.5, each of which has an answer of its own, and knows what it answered first.
type server struct {
	table *Table
	done  map[asked]int
	first map[asked]api.Answer
	count int
}

// ask checks, and keeps just what is fresh.
func (s *server) ask(t *testing.T, q asked) {
	t.Helper()
	a, again, e := s.table.Check(q.id, q.seq)
	if e != api.OK {
		return
	}
	if !again {
		s.count++
		a = had(s.count)
		if !s.table.Keep(q.id, q.seq, a) {
			t.Errorf("P15.5: %v is fresh, but not kept", q)
		}
		s.done[q]++
	}
	if s.done[q] != 1 {
		t.Errorf("P15.5: %v was kept %d times", q, s.done[q])
	}
	if _, ok := s.first[q]; !ok {
		s.first[q] = a
	}
	if a != s.first[q] {
		t.Errorf("P15.5: %v is answered %v, and was answered %v the first time", q, a, s.first[q])
	}
}

// P15.5: requests that come in any order, often, also behind a Load or a Clone.
func TestEachIsKeptOnce(t *testing.T) {
	r := rand.New(rand.NewSource(155))
	kept, repeated := 0, 0
	for range 200 {
		s := server{table: opened(t, 3), done: map[asked]int{}, first: map[asked]api.Answer{}}
		last := asked{1, 1}
		for n := range 200 {
			q := asked{uint64(r.Intn(5)), uint64(r.Intn(n/4 + 2))}
			if r.Intn(3) == 0 {
				q = last
			}
			if s.done[q] == 1 && q == last {
				repeated++
			}
			s.ask(t, q)
			last = q
			switch r.Intn(20) {
			case 0:
				s.table = s.table.Clone()
			case 1:
				s.table = loaded(t, s.table.Rows()...)
			case 2:
				s.table.Open()
			}
		}
		kept += len(s.done)
		if t.Failed() {
			t.FailNow()
		}
	}
	if kept < 1000 || repeated < 1000 {
		t.Errorf("shows too little: %d kept, %d repeated", kept, repeated)
	}
}
