package session

import (
	"math"
	"slices"
	"testing"

	"abecedary/api"
)

func had(n int) api.Answer { return api.Answer{Had: n} }

func row(seq uint64, a api.Answer) Row { return Row{Seq: seq, Answer: a} }

// opened has n sessions of which nothing was asked.
func opened(t *testing.T, n int) *Table {
	t.Helper()
	s := New()
	if s == nil {
		t.Fatal("P15.1: New() = nil")
	}
	for i := range n {
		wantOpen(t, s, uint64(i+1))
	}
	return s
}

func loaded(t *testing.T, l ...Row) *Table {
	t.Helper()
	s, ok := Load(l)
	if s == nil || !ok {
		t.Fatalf("P15.1: Load of %d rows = %v, %t, want a table, true", len(l), s, ok)
	}
	wantRows(t, s, l...)
	return s
}

func wantRefused(t *testing.T, l ...Row) {
	t.Helper()
	if s, ok := Load(l); s != nil || ok {
		t.Errorf("P15.1: Load of %d rows = %v, %t, want nil, false", len(l), s, ok)
	}
}

func wantOpen(t *testing.T, s *Table, want uint64) {
	t.Helper()
	if id, e := s.Open(); id != want || e != api.OK {
		t.Errorf("P15.2: Open() = %d, %d, want %d, 0", id, e, want)
	}
}

func wantFull(t *testing.T, s *Table) {
	t.Helper()
	if id, e := s.Open(); id != 0 || e != api.ErrSessionFull {
		t.Errorf("P15.2: Open() = %d, %d, want 0, %d", id, e, api.ErrSessionFull)
	}
}

func wantCheck(t *testing.T, s *Table, id, seq uint64, want api.Answer, again bool, code api.Errno) {
	t.Helper()
	if a, was, e := s.Check(id, seq); a != want || was != again || e != code {
		t.Errorf("P15.3: Check(%d, %d) = %v, %t, %d, want %v, %t, %d", id, seq, a, was, e, want, again, code)
	}
}

func wantFresh(t *testing.T, s *Table, id, seq uint64) {
	t.Helper()
	wantCheck(t, s, id, seq, api.Answer{}, false, api.OK)
}

func wantAgain(t *testing.T, s *Table, id, seq uint64, want api.Answer) {
	t.Helper()
	wantCheck(t, s, id, seq, want, true, api.OK)
}

func wantOld(t *testing.T, s *Table, id, seq uint64) {
	t.Helper()
	wantCheck(t, s, id, seq, api.Answer{}, false, api.ErrSessionOld)
}

func wantNone(t *testing.T, s *Table, id, seq uint64) {
	t.Helper()
	wantCheck(t, s, id, seq, api.Answer{}, false, api.ErrSessionNone)
}

func wantKeep(t *testing.T, s *Table, id, seq uint64, a api.Answer, want bool) {
	t.Helper()
	if got := s.Keep(id, seq, a); got != want {
		t.Errorf("P15.4: Keep(%d, %d, %v) = %t, want %t", id, seq, a, got, want)
	}
}

// wantRows asks twice: to be asked must not change a table.
func wantRows(t *testing.T, s *Table, want ...Row) {
	t.Helper()
	for range 2 {
		if n := s.Len(); n != len(want) {
			t.Errorf("P15.4: Len() = %d, want %d", n, len(want))
		}
		if l := s.Rows(); !slices.Equal(l, want) {
			t.Errorf("P15.4: Rows() tells %d rows, want %d: %v, want %v", len(l), len(want), l[:min(len(l), 9)], want[:min(len(want), 9)])
		}
	}
}

func TestChapter(t *testing.T) {
	s := New()
	wantOpen(t, s, 1)
	wantOpen(t, s, 2)
	wantFresh(t, s, 1, 5)
	wantKeep(t, s, 1, 5, had(3), true)
	wantAgain(t, s, 1, 5, had(3))
	wantOld(t, s, 1, 4)
	wantOld(t, s, 1, 0)
	wantNone(t, s, 3, 1)
}

// P15.1: a new table has no session; two new ones are not the same.
func TestNew(t *testing.T) {
	s, other := New(), New()
	if s == nil || other == nil {
		t.Fatal("P15.1: New() = nil")
	}
	wantRows(t, s)
	wantNone(t, s, 1, 1)
	wantOpen(t, s, 1)
	wantKeep(t, s, 1, 1, had(1), true)
	wantRows(t, other)
	wantRows(t, New())
}

// P15.1: l[0] is the row of the session 1; numbers and answers may be any where something was asked.
func TestLoad(t *testing.T) {
	whole := api.Answer{Code: api.ErrDictNone, Session: math.MaxUint64, Had: math.MinInt}
	l := []Row{
		row(7, had(3)),
		{},
		row(1, api.Answer{}),
		row(math.MaxUint64, whole),
		row(2, api.Answer{Code: -1}),
		row(7, had(3)),
	}
	s := loaded(t, l...)
	wantNone(t, s, 0, 7)
	wantAgain(t, s, 1, 7, had(3))
	wantOld(t, s, 1, 6)
	wantFresh(t, s, 1, 8)
	wantFresh(t, s, 2, 1)
	wantOld(t, s, 2, 0)
	wantAgain(t, s, 3, 1, api.Answer{})
	wantFresh(t, s, 3, 2)
	wantAgain(t, s, 4, math.MaxUint64, whole)
	wantOld(t, s, 4, math.MaxUint64-1)
	wantAgain(t, s, 5, 2, api.Answer{Code: -1})
	wantAgain(t, s, 6, 7, had(3))
	wantNone(t, s, 7, 1)
	wantOpen(t, s, 7)
	wantRows(t, s, append(l, Row{})...)
}

// P15.1: up to MaxSessions rows are taken.
func TestLoadOfMany(t *testing.T) {
	for _, n := range []int{0, 1, 2, api.MaxSessions - 1, api.MaxSessions} {
		l := make([]Row, n)
		for i := range l {
			l[i] = row(uint64(i+1), had(i+2))
		}
		s := loaded(t, l...)
		for i := range l {
			wantAgain(t, s, uint64(i+1), uint64(i+1), had(i+2))
		}
		wantNone(t, s, uint64(n+1), 1)
	}
	wantRefused(t, make([]Row, api.MaxSessions+1)...)
	wantRefused(t, make([]Row, 2*api.MaxSessions)...)
	l := slices.Repeat([]Row{row(1, had(1))}, api.MaxSessions+1)
	wantRefused(t, l...)
	loaded(t, l[1:]...)
}

// P15.1: what has no number has no answer, wherever it stands.
func TestLoadRefuses(t *testing.T) {
	for _, a := range []api.Answer{
		had(1),
		had(-1),
		{Code: api.ErrDictNone},
		{Code: -1},
		{Session: 1},
		{Session: 1 << 63},
		{Code: api.ErrDictFull, Session: 2, Had: 3},
	} {
		wantRefused(t, row(0, a))
		wantRefused(t, row(0, a), row(1, a), row(2, a))
		wantRefused(t, Row{}, row(0, a), row(2, a))
		wantRefused(t, row(1, a), Row{}, row(0, a))
		loaded(t, row(1, a), Row{}, row(2, a))
	}
	l := make([]Row, api.MaxSessions)
	l[api.MaxSessions-1].Answer.Had = 1
	wantRefused(t, l...)
	l[api.MaxSessions-1].Seq = 1
	loaded(t, l...)
	// What is refused leaves nothing behind for the next one.
	wantRefused(t, row(1, had(1)), row(0, had(1)))
	wantRows(t, New())
	loaded(t, Row{}, Row{})
}

// P15.2: sessions have the numbers 1 and on, up to MaxSessions, and nothing was asked of a new one.
func TestOpen(t *testing.T) {
	s := New()
	for n := range api.MaxSessions {
		id := uint64(n + 1)
		wantNone(t, s, id, 1)
		wantOpen(t, s, id)
		wantFresh(t, s, id, 1)
		wantOld(t, s, id, 0)
		if s.Len() != n+1 {
			t.Fatalf("P15.4: Len() = %d, want %d", s.Len(), n+1)
		}
	}
	wantRows(t, s, make([]Row, api.MaxSessions)...)
	for range 3 {
		wantFull(t, s)
	}
	wantRows(t, s, make([]Row, api.MaxSessions)...)
	// A full one keeps on, but for Open.
	wantKeep(t, s, api.MaxSessions, 1, had(1), true)
	wantFull(t, s)
	wantAgain(t, s, api.MaxSessions, 1, had(1))
	wantNone(t, s, api.MaxSessions+1, 1)
	wantKeep(t, s, api.MaxSessions+1, 1, had(1), false)
	wantFull(t, s.Clone())
	wantFull(t, loaded(t, s.Rows()...))
	wantOpen(t, loaded(t, s.Rows()[1:]...), api.MaxSessions)
}

// P15.2: to open one changes none of the others.
func TestOpenBetween(t *testing.T) {
	s := opened(t, 1)
	wantKeep(t, s, 1, 4, had(1), true)
	wantOpen(t, s, 2)
	wantRows(t, s, row(4, had(1)), Row{})
	wantKeep(t, s, 2, 9, had(2), true)
	wantOpen(t, s, 3)
	wantRows(t, s, row(4, had(1)), row(9, had(2)), Row{})
}

// P15.3: no session has a number that was not told; this is asked ahead of what seq is.
func TestCheckOfNoSession(t *testing.T) {
	for n := range 4 {
		s := opened(t, n)
		for _, id := range []uint64{0, uint64(n + 1), uint64(n + 2), api.MaxSessions, api.MaxSessions + 1, 1<<32 + 1, 1 << 63, 1<<63 + 1, math.MaxUint64} {
			for _, seq := range []uint64{0, 1, 2, math.MaxUint64} {
				wantNone(t, s, id, seq)
				wantKeep(t, s, id, seq, had(1), false)
			}
		}
		wantRows(t, s, make([]Row, n)...)
	}
}

// P15.3: the latest number is answered again, those above it are fresh, the others old, and 0 is old always.
func TestCheck(t *testing.T) {
	for _, latest := range []uint64{1, 2, 5, math.MaxInt64, math.MaxInt64 + 1, math.MaxUint64 - 1, math.MaxUint64} {
		s := opened(t, 2)
		wantKeep(t, s, 2, latest, had(7), true)
		for _, seq := range []uint64{0, 1, 2, 3, 4, 5, 6, latest - 1, latest, latest + 1, math.MaxInt64, 1 << 63, math.MaxUint64} {
			switch {
			case seq == 0 || seq < latest:
				wantOld(t, s, 2, seq)
			case seq == latest:
				wantAgain(t, s, 2, seq, had(7))
			default:
				wantFresh(t, s, 2, seq)
			}
			if seq > 0 {
				wantFresh(t, s, 1, seq)
			}
		}
		wantRows(t, s, Row{}, row(latest, had(7)))
	}
}

// P15.3: an answer that is zero, or has a code, was given all the same.
func TestCheckTellsAnyAnswer(t *testing.T) {
	for _, a := range []api.Answer{
		{},
		{Code: api.ErrDictNone},
		{Code: api.ErrSessionNone, Session: 9, Had: -4},
		{Code: -7, Session: math.MaxUint64, Had: math.MaxInt},
	} {
		s := opened(t, 1)
		wantKeep(t, s, 1, 3, a, true)
		for range 3 {
			wantAgain(t, s, 1, 3, a)
		}
		wantOld(t, s, 1, 2)
	}
}

// P15.4: just what is above the latest number is kept, and with it the answer goes that was there.
func TestKeep(t *testing.T) {
	s := opened(t, 3)
	wantKeep(t, s, 2, 0, had(1), false)
	wantRows(t, s, Row{}, Row{}, Row{})
	wantKeep(t, s, 2, 1, had(1), true)
	wantRows(t, s, Row{}, row(1, had(1)), Row{})
	wantKeep(t, s, 2, 1, had(2), false)
	wantKeep(t, s, 2, 0, had(2), false)
	wantRows(t, s, Row{}, row(1, had(1)), Row{})
	whole := api.Answer{Code: api.ErrDictNone, Session: 4, Had: 5}
	wantKeep(t, s, 2, 9, whole, true)
	wantRows(t, s, Row{}, row(9, whole), Row{})
	for seq := range uint64(10) {
		wantKeep(t, s, 2, seq, had(3), false)
	}
	wantRows(t, s, Row{}, row(9, whole), Row{})
	wantKeep(t, s, 2, 10, api.Answer{}, true)
	wantRows(t, s, Row{}, row(10, api.Answer{}), Row{})
	wantKeep(t, s, 2, math.MaxUint64, had(6), true)
	wantKeep(t, s, 2, math.MaxUint64, had(7), false)
	wantKeep(t, s, 2, 11, had(7), false)
	wantRows(t, s, Row{}, row(math.MaxUint64, had(6)), Row{})
	wantKeep(t, s, 1, 1, had(8), true)
	wantKeep(t, s, 3, 5, had(9), true)
	wantRows(t, s, row(1, had(8)), row(math.MaxUint64, had(6)), row(5, had(9)))
}

// P15.4: what is kept need not have been checked.
func TestKeepWithoutCheck(t *testing.T) {
	s := opened(t, 1)
	wantKeep(t, s, 1, 3, had(1), true)
	wantKeep(t, s, 1, 4, had(2), true)
	wantAgain(t, s, 1, 4, had(2))
	wantOld(t, s, 1, 3)
}

// P15.4: a clone has the same sessions; neither hears of what is done to the other one, nor do clones of one.
func TestClone(t *testing.T) {
	empty := New()
	c := empty.Clone()
	if c == nil {
		t.Fatal("P15.4: Clone() = nil")
	}
	wantRows(t, c)
	wantOpen(t, c, 1)
	wantRows(t, empty)

	s := opened(t, 3)
	wantKeep(t, s, 2, 5, had(1), true)
	a, b := s.Clone(), s.Clone()
	same := []Row{{}, row(5, had(1)), {}}
	wantRows(t, a, same...)
	wantAgain(t, a, 2, 5, had(1))
	wantKeep(t, a, 2, 6, had(2), true)
	wantKeep(t, a, 1, 1, had(3), true)
	wantOpen(t, a, 4)
	wantKeep(t, a, 4, 1, had(4), true)
	wantRows(t, s, same...)
	wantRows(t, b, same...)
	wantKeep(t, s, 2, 7, had(5), true)
	wantOpen(t, s, 4)
	wantRows(t, a, row(1, had(3)), row(6, had(2)), Row{}, row(1, had(4)))
	wantRows(t, b, same...)
	wantOpen(t, b, 4)
	wantRows(t, b, append(same, Row{})...)
	wantRows(t, a.Clone(), a.Rows()...)
}

// P15.5 as a client sees it: what comes once more is not kept once more, and answered as the first time while it is the latest.
func TestOnce(t *testing.T) {
	s := opened(t, 2)
	wantFresh(t, s, 1, 1)
	wantKeep(t, s, 1, 1, had(10), true)
	for range 3 {
		wantAgain(t, s, 1, 1, had(10))
		wantKeep(t, s, 1, 1, had(11), false)
	}
	// The same number of another session is another one.
	wantFresh(t, s, 2, 1)
	wantKeep(t, s, 2, 1, had(20), true)
	wantAgain(t, s, 1, 1, had(10))
	wantAgain(t, s, 2, 1, had(20))
	// Numbers may be left out, and those that were are old.
	wantKeep(t, s, 1, 4, had(12), true)
	for seq := range uint64(4) {
		wantOld(t, s, 1, seq)
		wantKeep(t, s, 1, seq, had(13), false)
	}
	wantAgain(t, s, 1, 4, had(12))
	wantAgain(t, s, 2, 1, had(20))
}

// The document's fourth example, as far as sessions have to do with it.
func TestExampleOfTheWhole(t *testing.T) {
	s := New()
	wantOpen(t, s, 1)
	wantFresh(t, s, 1, 1)
	wantKeep(t, s, 1, 1, had(0), true)
	wantAgain(t, s, 1, 1, had(0))
	wantFresh(t, s, 1, 2)
	wantKeep(t, s, 1, 2, had(5), true)
	wantAgain(t, s, 1, 2, had(5))
	wantOld(t, s, 1, 1)
}
