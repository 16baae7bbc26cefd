package session

import (
	"slices"
	"sync"
	"testing"

	"abecedary/api"
)

func spoil(l []Row) {
	l = l[:cap(l)]
	for i := range l {
		l[i] = row(99, had(99))
	}
}

// R5: what is handed in stays as it was, and so does what lies behind its end, also where it is refused.
func TestWhatIsHandedInStays(t *testing.T) {
	for _, l := range [][]Row{
		nil,
		{row(1, had(1)), row(2, had(2))},
		{row(1, had(1)), row(0, had(2)), row(3, had(3))},
		{row(0, had(1))},
		slices.Repeat([]Row{row(1, had(1))}, api.MaxSessions),
		slices.Repeat([]Row{row(1, had(1))}, api.MaxSessions+1),
	} {
		room := append(slices.Clone(l), row(7, had(7)))
		was := slices.Clone(room)
		if s, ok := Load(room[:len(l)]); ok {
			s.Open()
			s.Keep(1, 50, had(50))
			s.Keep(uint64(s.Len()), 60, had(60))
		}
		if !slices.Equal(room, was) {
			t.Errorf("R5: Load of %d rows has changed what it was handed", len(l))
		}
	}
}

// R6: what was handed in is not kept.
func TestWhatIsHandedInIsNotKept(t *testing.T) {
	l := []Row{row(1, had(1)), {}, row(3, had(3))}
	want := slices.Clone(l)
	s := loaded(t, l...)
	spoil(l)
	wantRows(t, s, want...)
	wantAgain(t, s, 1, 1, had(1))
	wantOpen(t, s, 4)
	wantRows(t, s, append(want, Row{})...)
}

// R6: to write into what was told changes neither the table, nor its clone, nor what was told another time.
func TestWhatIsToldIsTheCallersOwn(t *testing.T) {
	want := []Row{row(1, had(1)), {}, row(3, had(3))}
	s := loaded(t, want...)
	c := s.Clone()
	first := s.Rows()
	for range 2 {
		spoil(s.Rows())
		spoil(c.Rows())
		wantRows(t, s, want...)
		wantRows(t, c, want...)
	}
	if !slices.Equal(first, want) {
		t.Errorf("R6: what was told has changed: %v, want %v", first, want)
	}
	wantOpen(t, s, 4)
	wantRows(t, s, append(want, Row{})...)
}

// R6: what was told stays, whatever is done to the table later.
func TestWhatWasToldStays(t *testing.T) {
	s := loaded(t, row(1, had(1)), Row{}, row(3, had(3)))
	l := s.Rows()
	want := slices.Clone(l)
	for id := range uint64(4) {
		s.Keep(id, 9, had(9))
	}
	for range 100 {
		s.Open()
	}
	if !slices.Equal(l, want) {
		t.Errorf("R6: what was told has changed: %v, want %v", l, want)
	}
}

// R3: an empty list is as good as none.
func TestEmptyIsNone(t *testing.T) {
	for _, l := range [][]Row{nil, {}, make([]Row, 3)[:0]} {
		s, ok := Load(l)
		if s == nil || !ok {
			t.Fatalf("R3: Load of an empty list = %v, %t", s, ok)
		}
		wantRows(t, s)
		wantOpen(t, s, 1)
		wantFresh(t, s, 1, 1)
	}
}

// R7: the same is told always, also where many ask at once, and where each goes on with a clone of its own.
func TestManyAskAtOnce(t *testing.T) {
	want := []Row{row(1, had(1)), {}, row(3, had(3))}
	s := loaded(t, want...)
	var group sync.WaitGroup
	for k := range 8 {
		group.Go(func() {
			for range 100 {
				wantRows(t, s, want...)
				wantAgain(t, s, 3, 3, had(3))
				wantOld(t, s, 3, 2)
				wantFresh(t, s, 2, 1)
				wantNone(t, s, 4, 1)
				c := s.Clone()
				wantOpen(t, c, 4)
				wantKeep(t, c, 1, uint64(k+2), had(k), true)
				wantAgain(t, c, 1, uint64(k+2), had(k))
				mine := loaded(t, want...)
				wantKeep(t, mine, 2, uint64(k+1), had(k), true)
				wantAgain(t, mine, 2, uint64(k+1), had(k))
			}
		})
	}
	group.Wait()
}
