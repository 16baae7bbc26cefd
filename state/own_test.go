package state

import (
	"bytes"
	"slices"
	"sync"
	"testing"

	"abecedary/api"
	"abecedary/session"
)

func spoilBytes(b []byte) {
	b = b[:cap(b)]
	for i := range b {
		b[i] = 99
	}
}

func spoilPairs(l []api.Pair) {
	l = l[:cap(l)]
	for i := range l {
		l[i] = pair("spoilt", 99)
	}
}

func spoilRows(l []session.Row) {
	l = l[:cap(l)]
	for i := range l {
		l[i] = row(99, had(99))
	}
}

func spoilHits(l []api.Match) {
	l = l[:cap(l)]
	for i := range l {
		l[i] = hit("spoilt", 99, 0)
	}
}

// R5: what is handed in stays as it was, and so does what lies behind its end, also where it is refused.
func TestWhatIsHandedInStays(t *testing.T) {
	s, _, _ := some(t)
	b := s.Image()
	for _, x := range [][]byte{nil, b, b[:len(b)-1], append(slices.Clone(b), 7), New().Image(), sealed(nil), sealed(body(nil, uints(0)))} {
		room := append(slices.Clone(x), 1, 2, 3, 4)
		was := slices.Clone(room)
		if u, e := Load(room[:len(x)]); e == api.OK {
			u.Do(opening())
			u.Do(setting(1, 900, "new", 4))
			u.Image()
		}
		if !bytes.Equal(room, was) {
			t.Errorf("R5: Load of %d bytes has changed what it was handed", len(x))
		}
	}
}

// R6: what was handed in is not kept.
func TestWhatIsHandedInIsNotKept(t *testing.T) {
	s, words, rows := some(t)
	b := s.Image()
	u := loaded(t, b)
	spoilBytes(b)
	wantHas(t, u, words, rows)
	wantHas(t, s, words, rows)
	wantDo(t, u, setting(1, 301, "ab", 6), had(5))
	wantSuggest(t, u, ask("ab", 1, 5), hit("ab", 6, 0))
}

// R6: to write into what was told changes neither the state, nor its clone, nor what was told another time.
func TestWhatIsToldIsTheCallersOwn(t *testing.T) {
	s, words, rows := some(t)
	c := s.Clone()
	near := ask("aaab", 1, 9)
	hits, _ := s.Suggest(near)
	told, asked, image := s.Words(), s.Sessions(), s.Image()
	wantHits, wantImage := slices.Clone(hits), slices.Clone(image)
	for _, u := range []*State{s, c, s, c} {
		l, _ := u.Suggest(near)
		spoilHits(l)
		spoilPairs(u.Words())
		spoilRows(u.Sessions())
		spoilBytes(u.Image())
		for _, k := range []*State{s, c} {
			wantHas(t, k, words, rows)
			wantSuggest(t, k, near, wantHits...)
		}
	}
	if !slices.Equal(hits, wantHits) || !slices.Equal(told, words) || !slices.Equal(asked, rows) || !bytes.Equal(image, wantImage) {
		t.Error("R6: what was told has changed")
	}
}

// R6: what was told stays, whatever is done to the state later.
func TestWhatWasToldStays(t *testing.T) {
	s, words, rows := some(t)
	near := ask("aaab", 1, 9)
	hits, _ := s.Suggest(near)
	told, asked, image := s.Words(), s.Sessions(), s.Image()
	wantHits := slices.Clone(hits)
	for i := range 60 {
		wantDo(t, s, setting(2, uint64(i+1), numbered(100+i), 1), had(0))
		s.Do(setting(1, uint64(i+400), "ab", i+1))
		s.Do(removing(3, uint64(i+400), numbered(i)))
		s.Do(opening())
	}
	if !slices.Equal(hits, wantHits) || !slices.Equal(told, words) || !slices.Equal(asked, rows) || !bytes.Equal(image, imageOf(words, rows)) {
		t.Error("R6: what was told has changed")
	}
}

// R7: the same is told always, also where many ask at once, and where each goes on with a clone or a loaded one of its own.
func TestManyAskAtOnce(t *testing.T) {
	s, words, rows := some(t)
	image := s.Image()
	var group sync.WaitGroup
	for k := range 8 {
		group.Go(func() {
			for range 10 {
				wantHas(t, s, words, rows)
				wantSuggest(t, s, ask("ab", 1, 5), hit("ab", 5, 0))
				for _, c := range []*State{s.Clone(), loaded(t, image)} {
					wantDo(t, c, setting(1, 301, "ab", k+1), had(5))
					wantDo(t, c, opening(), api.Answer{Session: 4})
					wantDo(t, c, setting(4, uint64(k+1), numbered(100+k), 1), had(0))
					wantStill(t, c, setting(4, uint64(k+1), numbered(100+k), 1), had(0))
					wantSuggest(t, c, ask("ab", 1, 5), hit("ab", k+1, 0))
				}
			}
		})
	}
	group.Wait()
	wantHas(t, s, words, rows)
}
