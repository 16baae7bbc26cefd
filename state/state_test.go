package state

import (
	"bytes"
	"encoding/binary"
	"hash/crc32"
	"math"
	"slices"
	"strconv"
	"strings"
	"testing"

	"abecedary/api"
	"abecedary/dict"
	"abecedary/fst"
	"abecedary/pack"
	"abecedary/session"
)

func pair(word string, weight int) api.Pair {
	return api.Pair{Word: word, Weight: weight}
}

func hit(word string, weight, dist int) api.Match {
	return api.Match{Word: word, Weight: weight, Dist: dist}
}

func ask(word string, edits, best int) api.Query {
	return api.Query{Word: word, Edits: edits, Best: best}
}

func had(n int) api.Answer { return api.Answer{Had: n} }

func fails(e api.Errno) api.Answer { return api.Answer{Code: e} }

func row(seq uint64, a api.Answer) session.Row {
	return session.Row{Seq: seq, Answer: a}
}

func opening() api.Command { return api.Command{Kind: api.CmdOpen} }

func setting(id, seq uint64, word string, weight int) api.Command {
	return api.Command{Kind: api.CmdSet, Session: id, Seq: seq, Word: word, Weight: weight}
}

func removing(id, seq uint64, word string) api.Command {
	return api.Command{Kind: api.CmdRemove, Session: id, Seq: seq, Word: word}
}

// opened has n sessions of which nothing was asked.
func opened(t *testing.T, n int) *State {
	t.Helper()
	s := New()
	if s == nil {
		t.Fatal("P16.1: New() = nil")
	}
	for i := range n {
		wantDo(t, s, opening(), api.Answer{Session: uint64(i + 1)})
	}
	return s
}

func loaded(t *testing.T, b []byte) *State {
	t.Helper()
	s, e := Load(b)
	if s == nil || e != api.OK {
		t.Fatalf("P16.5: Load(%s) = %v, %d, want a state, 0", showBytes(b), s, e)
	}
	if !bytes.Equal(s.Image(), b) {
		t.Fatalf("P16.5: Load(%s) has the image %s", showBytes(b), showBytes(s.Image()))
	}
	return s
}

func wantRefused(t *testing.T, b []byte) {
	t.Helper()
	if s, e := Load(b); s != nil || e != api.ErrStateForm {
		t.Errorf("P16.5: Load(%s) = %v, %d, want nil, %d", showBytes(b), s, e, api.ErrStateForm)
	}
}

func wantDo(t *testing.T, s *State, c api.Command, want api.Answer) {
	t.Helper()
	if a := s.Do(c); a != want {
		t.Errorf("P16.2: Do(%v) = %v, want %v", c, a, want)
	}
}

// wantStill does what changes nothing.
func wantStill(t *testing.T, s *State, c api.Command, want api.Answer) {
	t.Helper()
	before := s.Image()
	wantDo(t, s, c, want)
	if !bytes.Equal(s.Image(), before) {
		t.Errorf("P16.2: Do(%v) has changed the state", c)
	}
}

// wantHas holds all that is told of a state, but suggestions, against words and rows; it asks twice: to be asked must not change it.
func wantHas(t *testing.T, s *State, words []api.Pair, rows []session.Row) {
	t.Helper()
	for range 2 {
		if l := s.Words(); !slices.Equal(l, words) {
			t.Errorf("P16.3: Words() = %s, want %s", showPairs(l), showPairs(words))
		}
		if l := s.Sessions(); !slices.Equal(l, rows) {
			t.Errorf("P16.3: Sessions() tells %d rows, want %d: %v, want %v", len(l), len(rows), l[:min(len(l), 9)], rows[:min(len(rows), 9)])
		}
		if b, want := s.Image(), imageOf(words, rows); !bytes.Equal(b, want) {
			t.Errorf("P16.4: Image() = %s, want %s", showBytes(b), showBytes(want))
		}
	}
}

func wantSuggest(t *testing.T, s *State, q api.Query, want ...api.Match) {
	t.Helper()
	if l, e := s.Suggest(q); e != api.OK || !slices.Equal(l, want) {
		t.Errorf("P16.3: Suggest(%v) = %v, %d, want %v, 0", q, l, e, want)
	}
}

// showPairs: of many the first ones are enough.
func showPairs(l []api.Pair) string {
	var b strings.Builder
	for _, p := range l[:min(len(l), 40)] {
		b.WriteString(strconv.Quote(p.Word) + " " + strconv.Itoa(p.Weight) + ", ")
	}
	return "(" + b.String() + strconv.Itoa(len(l)) + " in all)"
}

func showBytes(b []byte) string {
	var l strings.Builder
	for _, c := range b[:min(len(b), 80)] {
		l.WriteString(strconv.Itoa(int(c)) + " ")
	}
	return "(" + l.String() + strconv.Itoa(len(b)) + " in all)"
}

// machineOf is the writing of the words' machine.
func machineOf(words []api.Pair) []byte {
	m, e := fst.Build(words)
	b, f := pack.Pack(m)
	if e != api.OK || f != api.OK {
		panic("no dictionary: " + showPairs(words))
	}
	return b
}

// uints writes numbers one behind the other.
func uints(l ...uint64) []byte {
	var b []byte
	for _, n := range l {
		b = binary.AppendUvarint(b, n)
	}
	return b
}

func rowUints(r session.Row) []byte {
	return uints(r.Seq, uint64(r.Answer.Code), r.Answer.Session, uint64(r.Answer.Had))
}

// body is what a seal is laid on, whatever the bytes that stand for the machine are, and what stands behind it.
func body(machine []byte, rest ...[]byte) []byte {
	return bytes.Join(append([][]byte{uints(uint64(len(machine))), machine}, rest...), nil)
}

func bodyOf(words []api.Pair, rows []session.Row) []byte {
	rest := [][]byte{uints(uint64(len(rows)))}
	for _, r := range rows {
		rest = append(rest, rowUints(r))
	}
	return body(machineOf(words), rest...)
}

func sealed(b []byte) []byte {
	w := append(uints(uint64(len(b))), b...)
	return binary.LittleEndian.AppendUint32(w, crc32.Checksum(b, crc32.MakeTable(crc32.Castagnoli)))
}

func imageOf(words []api.Pair, rows []session.Row) []byte {
	return sealed(bodyOf(words, rows))
}

// some is a state with some words, some of them in the machine and some laid over it, and with three sessions.
func some(t *testing.T) (*State, []api.Pair, []session.Row) {
	t.Helper()
	s := opened(t, 3)
	var words []api.Pair
	for i := range 40 {
		words = append(words, pair(numbered(i), i+1))
		wantDo(t, s, setting(1, uint64(i+1), numbered(i), i+1), had(0))
	}
	wantDo(t, s, setting(1, 300, numbered(0), 9), had(1))
	wantDo(t, s, removing(3, 7, numbered(39)), had(40))
	wantDo(t, s, setting(3, 8, "ab", 5), had(0))
	wantDo(t, s, removing(3, 9, "zz"), fails(api.ErrDictNone))
	words[0].Weight = 9
	words[39] = pair("ab", 5)
	slices.SortFunc(words, func(a, b api.Pair) int { return strings.Compare(a.Word, b.Word) })
	return s, words, []session.Row{row(300, had(1)), {}, row(9, fails(api.ErrDictNone))}
}

// numbered is one of many words of four runes, by rising numbers.
func numbered(i int) string {
	return string([]rune{'a' + rune(i>>12&15), 'a' + rune(i>>8&15), 'a' + rune(i>>4&15), 'a' + rune(i&15)})
}

// many are n numbered words, each with a weight of its own.
func many(n int) []api.Pair {
	var l []api.Pair
	for i := range n {
		l = append(l, pair(numbered(i), 1+i))
	}
	return l
}

// P16.1 to P16.4: the chapter's examples.
func TestChapter(t *testing.T) {
	s := New()
	if b := s.Image(); !bytes.Equal(b, append([]byte{4, 2, 0, 0, 0}, b[5:]...)) || len(b) != 9 {
		t.Errorf("P16.4: Image() = %v", b)
	}
	wantDo(t, s, setting(1, 0, "", 0), fails(api.ErrSessionNone))
	wantDo(t, s, opening(), api.Answer{Session: 1})
	wantDo(t, s, setting(1, 1, "ab", 5), had(0))
	wantDo(t, s, setting(1, 1, "ab", 5), had(0))
	wantDo(t, s, setting(1, 2, "ab", 7), had(5))
	wantDo(t, s, setting(1, 1, "ab", 5), fails(api.ErrSessionOld))
}

// The document's third and fourth examples.
func TestExamplesOfTheWhole(t *testing.T) {
	s := opened(t, 1)
	for i, p := range []api.Pair{pair("ab", 2), pair("abc", 9), pair("xyz", 7)} {
		wantDo(t, s, setting(1, uint64(i+1), p.Word, p.Weight), had(0))
	}
	wantSuggest(t, s, ask("ab", 1, 5), hit("ab", 2, 0), hit("abc", 9, 1))

	s = opened(t, 1)
	wantDo(t, s, setting(1, 1, "ab", 5), had(0))
	wantStill(t, s, setting(1, 1, "ab", 5), had(0))
	wantDo(t, s, setting(1, 2, "ab", 7), had(5))
	wantHas(t, s, []api.Pair{pair("ab", 7)}, []session.Row{row(2, had(5))})
}

// P16.1: a new state has no word and no session; two new ones are not the same.
func TestNew(t *testing.T) {
	s, other := opened(t, 0), opened(t, 0)
	wantHas(t, s, nil, nil)
	wantSuggest(t, s, ask("a", 3, 9))
	wantDo(t, s, opening(), api.Answer{Session: 1})
	wantDo(t, s, setting(1, 1, "a", 1), had(0))
	wantHas(t, other, nil, nil)
	wantHas(t, New(), nil, nil)
}

// P16.2: sessions have the numbers 1 and on, up to MaxSessions; all else of the command is not looked at.
func TestOpen(t *testing.T) {
	s := New()
	l := []api.Command{
		opening(),
		{Kind: api.CmdOpen, Session: 1, Seq: 1, Word: "ab", Weight: 5},
		{Kind: api.CmdOpen, Session: 9, Word: "x"},
		{Kind: api.CmdOpen, Session: math.MaxUint64, Seq: math.MaxUint64, Word: "\xff", Weight: math.MinInt},
		{Kind: api.CmdOpen, Seq: 7, Weight: math.MaxInt},
	}
	for n := range api.MaxSessions {
		wantDo(t, s, l[n%len(l)], api.Answer{Session: uint64(n + 1)})
	}
	wantHas(t, s, nil, make([]session.Row, api.MaxSessions))
	for _, c := range l {
		wantStill(t, s, c, fails(api.ErrSessionFull))
	}
	wantDo(t, s, setting(api.MaxSessions, 1, "a", 1), had(0))
	wantStill(t, s, opening(), fails(api.ErrSessionFull))
	wantStill(t, s, setting(api.MaxSessions+1, 1, "a", 2), fails(api.ErrSessionNone))
	wantStill(t, loaded(t, s.Image()), opening(), fails(api.ErrSessionFull))
}

// P16.2: to open a session changes neither the words nor the other sessions.
func TestOpenBetween(t *testing.T) {
	s, words, rows := some(t)
	wantDo(t, s, api.Command{Kind: api.CmdOpen, Session: 1, Seq: 1000, Word: "ab", Weight: 7}, api.Answer{Session: 4})
	wantHas(t, s, words, append(rows, session.Row{}))
}

// P16.2: what is asked in no session, or by an old number, is not done, whatever it is; that is asked first.
func TestSessionsErrors(t *testing.T) {
	s, _, _ := some(t)
	for _, id := range []uint64{0, 4, 5, api.MaxSessions, 1<<32 + 1, 1 << 63, 1<<63 + 1, math.MaxUint64} {
		for _, seq := range []uint64{0, 1, 300, math.MaxUint64} {
			for _, word := range []string{"ab", "new", "", "\xff"} {
				wantStill(t, s, setting(id, seq, word, 6), fails(api.ErrSessionNone))
				wantStill(t, s, setting(id, seq, word, 0), fails(api.ErrSessionNone))
				wantStill(t, s, removing(id, seq, word), fails(api.ErrSessionNone))
			}
		}
	}
	for _, x := range []struct{ id, seq uint64 }{{1, 0}, {1, 1}, {1, 299}, {2, 0}, {3, 0}, {3, 7}, {3, 8}} {
		for _, word := range []string{"ab", "new", "", "\xff"} {
			wantStill(t, s, setting(x.id, x.seq, word, 6), fails(api.ErrSessionOld))
			wantStill(t, s, setting(x.id, x.seq, word, 0), fails(api.ErrSessionOld))
			wantStill(t, s, removing(x.id, x.seq, word), fails(api.ErrSessionOld))
		}
	}
}

// P16.2: the dictionary's errors are told, and kept like any other answer.
func TestDictsErrors(t *testing.T) {
	long := strings.Repeat("é", api.MaxRunes+1)
	for _, x := range []struct {
		c api.Command
		e api.Errno
	}{
		{setting(1, 5, "", 1), api.ErrDictWord},
		{setting(1, 5, "a b", 1), api.ErrDictWord},
		{setting(1, 5, long, 1), api.ErrDictWord},
		{setting(1, 5, "\xff", 0), api.ErrDictWord},
		{setting(1, 5, "a", 0), api.ErrDictWeight},
		{setting(1, 5, "a", -1), api.ErrDictWeight},
		{setting(1, 5, "new", api.MaxWeight+1), api.ErrDictWeight},
		{setting(1, 5, "new", math.MinInt), api.ErrDictWeight},
		{removing(1, 5, ""), api.ErrDictWord},
		{removing(1, 5, long), api.ErrDictWord},
		{removing(1, 5, "new"), api.ErrDictNone},
	} {
		s := opened(t, 1)
		wantDo(t, s, setting(1, 4, "a", 3), had(0))
		wantDo(t, s, x.c, fails(x.e))
		wantHas(t, s, []api.Pair{pair("a", 3)}, []session.Row{row(5, fails(x.e))})
		wantStill(t, s, x.c, fails(x.e))
		wantStill(t, s, setting(1, 4, "a", 3), fails(api.ErrSessionOld))
		wantDo(t, s, setting(1, 6, "a", 4), had(3))
	}
}

// P16.2: a full dictionary takes no new word; what was refused stays so, also when there is room.
func TestFull(t *testing.T) {
	l := many(api.MaxWords)
	s := loaded(t, imageOf(l, make([]session.Row, 2)))
	wantDo(t, s, setting(1, 1, "zz", 1), fails(api.ErrDictFull))
	wantHas(t, s, l, []session.Row{row(1, fails(api.ErrDictFull)), {}})
	wantDo(t, s, setting(2, 1, l[7].Word, 1), had(8))
	wantDo(t, s, removing(2, 2, l[7].Word), had(1))
	wantStill(t, s, setting(1, 1, "zz", 1), fails(api.ErrDictFull))
	wantDo(t, s, setting(1, 2, "zz", 1), had(0))
	wantDo(t, s, setting(2, 3, "zzz", 1), fails(api.ErrDictFull))
	want := append(slices.Delete(l, 7, 8), pair("zz", 1))
	wantHas(t, s, want, []session.Row{row(2, had(0)), row(3, fails(api.ErrDictFull))})
}

// P16.2: what a set and a removal do, tell and keep.
func TestSetAndRemove(t *testing.T) {
	s := opened(t, 2)
	wantDo(t, s, setting(2, 1, "ab", api.MaxWeight), had(0))
	wantHas(t, s, []api.Pair{pair("ab", api.MaxWeight)}, []session.Row{{}, row(1, had(0))})
	wantDo(t, s, setting(2, 2, "ab", 1), had(api.MaxWeight))
	wantHas(t, s, []api.Pair{pair("ab", 1)}, []session.Row{{}, row(2, had(api.MaxWeight))})
	wantDo(t, s, setting(2, 3, "ab", 1), had(1))
	wantHas(t, s, []api.Pair{pair("ab", 1)}, []session.Row{{}, row(3, had(1))})
	wantDo(t, s, setting(1, 9, "aé", 4), had(0))
	wantHas(t, s, []api.Pair{pair("ab", 1), pair("aé", 4)}, []session.Row{row(9, had(0)), row(3, had(1))})
	// The weight of a removal is not looked at.
	c := removing(1, 10, "ab")
	c.Weight = -5
	wantDo(t, s, c, had(1))
	wantHas(t, s, []api.Pair{pair("aé", 4)}, []session.Row{row(10, had(1)), row(3, had(1))})
	wantDo(t, s, removing(2, math.MaxUint64, "aé"), had(4))
	wantHas(t, s, nil, []session.Row{row(10, had(1)), row(math.MaxUint64, had(4))})
	wantStill(t, s, removing(2, math.MaxUint64, "aé"), had(4))
	wantDo(t, s, removing(1, 11, "aé"), fails(api.ErrDictNone))
}

// P16.2: whatever else comes is no command, and no number of a session is used up by it.
func TestOtherKinds(t *testing.T) {
	s, _, _ := some(t)
	for _, kind := range []int{0, -1, 4, 5, 7, 256, 257, 258, 1 << 32, 1<<32 + 1, 1<<32 + 2, -2, -3, math.MaxInt, math.MinInt} {
		for _, c := range []api.Command{
			{Kind: kind},
			{Kind: kind, Session: 1, Seq: 301, Word: "ab", Weight: 7},
			{Kind: kind, Session: 1, Seq: 300, Word: "ab", Weight: 7},
			{Kind: kind, Session: 1, Seq: 1},
			{Kind: kind, Session: 9, Seq: 1},
		} {
			wantStill(t, s, c, fails(api.ErrStateKind))
		}
	}
	wantDo(t, s, setting(1, 301, "ab", 7), had(5))
}

// P16.2, P16.7: it is the number that is known again, whatever else the command says.
func TestTheNumberIsKnownAgain(t *testing.T) {
	s := opened(t, 2)
	wantDo(t, s, setting(1, 3, "ab", 5), had(0))
	wantDo(t, s, setting(1, 4, "ab", 7), had(5))
	for _, c := range []api.Command{
		setting(1, 4, "ab", 7),
		setting(1, 4, "ab", 8),
		setting(1, 4, "new", 8),
		setting(1, 4, "", 8),
		setting(1, 4, "ab", 0),
		removing(1, 4, "ab"),
		removing(1, 4, "zz"),
		removing(1, 4, "\xff"),
	} {
		wantStill(t, s, c, had(5))
	}
	wantDo(t, s, setting(2, 4, "ab", 8), had(7))
	wantStill(t, s, setting(1, 4, "ab", 7), had(5))
	wantHas(t, s, []api.Pair{pair("ab", 8)}, []session.Row{row(4, had(5)), row(4, had(7))})
}

// P16.7: what was answered is answered again, also where it would be done now, or told otherwise.
func TestOnceAmongOthers(t *testing.T) {
	s := opened(t, 2)
	wantDo(t, s, removing(1, 1, "ab"), fails(api.ErrDictNone))
	wantDo(t, s, setting(2, 1, "ab", 5), had(0))
	wantStill(t, s, removing(1, 1, "ab"), fails(api.ErrDictNone))
	wantDo(t, s, setting(1, 2, "ab", 6), had(5))
	wantDo(t, s, removing(2, 2, "ab"), had(6))
	wantStill(t, s, setting(1, 2, "ab", 6), had(5))
	wantStill(t, s, removing(2, 2, "ab"), had(6))
	wantHas(t, s, nil, []session.Row{row(2, had(5)), row(2, had(6))})
}

// P16.3: suggestions are dict's, its errors and all, and change nothing.
func TestSuggest(t *testing.T) {
	s, words, rows := some(t)
	d, _ := dict.Load(words)
	for _, q := range []api.Query{
		ask("ab", 1, 5), ask("ab", 0, 1), ask("aaab", 1, 64), ask("aaab", 3, 100), ask("aaab", 2, 0), ask("zz", 2, -1),
		ask("", 1, 5), ask("a b", 1, 5), ask("ab", 4, 5), ask("ab", -1, 5), ask("ab", 1, math.MinInt), ask("ab", 1, math.MaxInt),
	} {
		want, code := d.Suggest(q)
		if l, e := s.Suggest(q); e != code || !slices.Equal(l, want) {
			t.Errorf("P16.3: Suggest(%v) = %v, %d, want %v, %d", q, l, e, want, code)
		}
	}
	wantSuggest(t, s, ask("ab", 1, 5), hit("ab", 5, 0))
	wantHas(t, s, words, rows)
}

// P16.3: a clone has the same; neither hears of what is done to the other one, nor do clones of one.
func TestClone(t *testing.T) {
	if c := New().Clone(); c == nil {
		t.Fatal("P16.3: Clone() = nil")
	}
	wantHas(t, New().Clone(), nil, nil)

	s, words, rows := some(t)
	a, b := s.Clone(), s.Clone()
	for _, c := range []*State{a, b} {
		wantHas(t, c, words, rows)
		wantSuggest(t, c, ask("ab", 1, 5), hit("ab", 5, 0))
		wantStill(t, c, setting(1, 300, "ab", 1), had(1))
	}
	wantDo(t, a, setting(1, 301, "ab", 6), had(5))
	wantDo(t, a, opening(), api.Answer{Session: 4})
	wantDo(t, a, setting(4, 1, "abc", 1), had(0))
	wantHas(t, s, words, rows)
	wantHas(t, b, words, rows)
	wantDo(t, s, removing(2, 1, "ab"), had(5))
	wantDo(t, s, opening(), api.Answer{Session: 4})
	wantHas(t, b, words, rows)
	wantSuggest(t, a, ask("ab", 1, 5), hit("ab", 6, 0), hit("abc", 1, 1))
	wantSuggest(t, b, ask("ab", 1, 5), hit("ab", 5, 0))
	wantSuggest(t, s, ask("ab", 1, 5))
	wantDo(t, b, opening(), api.Answer{Session: 4})
	wantHas(t, b, words, append(rows, session.Row{}))
}

// P16.4: an image, byte by byte.
func TestImage(t *testing.T) {
	s := opened(t, 2)
	wantDo(t, s, setting(1, 299, "a", 3), had(0))
	wantDo(t, s, setting(1, 300, "a", 3), had(3))
	wantDo(t, s, removing(2, 1, "b"), fails(api.ErrDictNone))
	want := []byte{
		20,
		8, 3, 2, 1, 0, 2, 'a', 0, 1,
		2,
		0xac, 2, 0, 0, 3,
		1, 0x8f, 1, 0, 0, // ErrDictNone is 143
	}
	want = binary.LittleEndian.AppendUint32(want, crc32.Checksum(want[1:], crc32.MakeTable(crc32.Castagnoli)))
	if b := s.Image(); !bytes.Equal(b, want) {
		t.Errorf("P16.4: Image() = %v, want %v", b, want)
	}
	if b := New().Image(); !bytes.Equal(b, sealed([]byte{2, 0, 0, 0})) {
		t.Errorf("P16.4: Image() = %v", b)
	}
}

// P16.4, P16.5: numbers of sessions and of their rows, at their edges.
func TestImageOfRows(t *testing.T) {
	most := row(math.MaxUint64, api.Answer{Code: math.MaxUint16, Session: math.MaxUint64, Had: api.MaxWeight})
	for _, rows := range [][]session.Row{
		nil,
		{{}},
		{row(1, api.Answer{}), {}, row(2, api.Answer{})},
		{row(1, fails(1)), row(127, fails(127)), row(128, fails(128)), row(1<<63, fails(math.MaxUint16))},
		{row(1, had(1)), row(2, had(127)), row(3, had(128)), row(4, had(api.MaxWeight-1)), row(5, had(api.MaxWeight))},
		{row(1, api.Answer{Session: 1}), row(1, api.Answer{Session: 1 << 63}), row(1, api.Answer{Session: math.MaxUint64})},
		{row(5, api.Answer{Code: 1, Session: 2, Had: 3}), {}, most, row(6, api.Answer{Code: 3, Session: 2, Had: 1})},
		make([]session.Row, api.MaxSessions-1),
		slices.Repeat([]session.Row{most}, api.MaxSessions),
	} {
		for _, words := range [][]api.Pair{nil, {pair("a", 3)}, many(300)} {
			wantHas(t, loaded(t, imageOf(words, rows)), words, rows)
		}
	}
}

// greatest are MaxWords words of MaxRunes runes of four bytes, of which hardly two have an end in common.
func greatest() []api.Pair {
	var l []api.Pair
	for i := range api.MaxWords {
		runes := []rune{0x100000 + rune(i/64), 0x100000 + rune(i%64)}
		for n := uint32(i); len(runes) < api.MaxRunes; {
			n = n*1664525 + 1013904223
			runes = append(runes, 0xf0000+rune(n>>16))
		}
		l = append(l, pair(string(runes), api.MaxWeight-i))
	}
	return l
}

// P16.4: the greatest states have an image, too.
func TestGreatestImage(t *testing.T) {
	words := greatest()
	rows := slices.Repeat([]session.Row{row(math.MaxUint64, api.Answer{Code: math.MaxUint16, Session: math.MaxUint64, Had: api.MaxWeight})}, api.MaxSessions)
	b := imageOf(words, rows)
	if len(b) < 400000 {
		t.Errorf("shows too little: %d bytes", len(b))
	}
	s := loaded(t, b)
	if !slices.Equal(s.Words(), words) || !slices.Equal(s.Sessions(), rows) {
		t.Error("P16.5: the greatest image is not read as it was written")
	}
	wantDo(t, s, setting(1, 1, words[0].Word, 1), fails(api.ErrSessionOld))
	wantStill(t, s, opening(), fails(api.ErrSessionFull))
}

// P16.5: what is not one seal is nobody's image.
func TestLoadOfNoSeal(t *testing.T) {
	s, _, _ := some(t)
	for _, b := range [][]byte{New().Image(), opened(t, 2).Image(), s.Image()} {
		loaded(t, b)
		for i := range b {
			wantRefused(t, b[:i])
		}
		for _, c := range []byte{0, 1, 0x80, 0xff} {
			wantRefused(t, append(slices.Clone(b), c))
			wantRefused(t, append([]byte{c}, b...))
		}
		wantRefused(t, append(slices.Clone(b), b...))
		for i := range b {
			for bit := range 8 {
				w := slices.Clone(b)
				w[i] ^= 1 << bit
				wantRefused(t, w)
			}
		}
	}
	wantRefused(t, nil)
	wantRefused(t, []byte{0})
	wantRefused(t, []byte{0xff, 0xff, 0xff, 0xff, 0xff, 0xff, 0xff, 0xff, 0xff, 1})
	wantRefused(t, sealed(nil))
	// The image itself, not what is sealed in it; and not sealed twice.
	wantRefused(t, []byte{2, 0, 0, 0})
	wantRefused(t, sealed(New().Image()))
	// A number of bytes that is written longer than it must be.
	long := New().Image()
	wantRefused(t, append([]byte{0x84, 0}, long[1:]...))
	wantRefused(t, sealed(make([]byte, api.MaxFrame+1)))
}

// P16.5: what is no machine's is no image's.
func TestLoadOfNoMachine(t *testing.T) {
	one := machineOf([]api.Pair{pair("a", 3)})
	none := uints(0)
	loaded(t, sealed(body(one, none)))
	for i := range one {
		wantRefused(t, sealed(body(one[:i], none)))
	}
	wantRefused(t, sealed(body(append(one, 0), none)))
	wantRefused(t, sealed(body([]byte{0, 0, 0}, none)))
	wantRefused(t, sealed(body([]byte{1, 0}, none)))
	for i := range one {
		for c := range 256 {
			w := slices.Clone(one)
			w[i] = byte(c)
			if _, e := pack.Unpack(w); e == api.OK {
				loaded(t, sealed(body(w, none)))
			} else {
				wantRefused(t, sealed(body(w, none)))
			}
		}
	}
	// More bytes than there are, or none at all.
	wantRefused(t, sealed([]byte{3, 0, 0}))
	wantRefused(t, sealed([]byte{0x80, 0, 0, 0, 0}))
	wantRefused(t, sealed(append([]byte{0xff, 0xff, 0xff, 0xff, 0xff, 0xff, 0xff, 0xff, 0xff, 1}, 0, 0, 0)))
	wantRefused(t, sealed([]byte{0x82, 0, 0, 0, 0}))
}

// P16.5: rows that no state has, and too many of them.
func TestLoadOfNoRows(t *testing.T) {
	empty := machineOf(nil)
	// with lays a row between others that are right.
	with := func(l ...uint64) []byte {
		return sealed(body(empty, uints(3), uints(1, 0, 0, 1), uints(l...), uints(2, 0, 0, 2)))
	}
	loaded(t, with(1, math.MaxUint16, 0, 0))
	wantRefused(t, with(1, math.MaxUint16+1, 0, 0))
	wantRefused(t, with(1, 1<<32, 0, 0))
	wantRefused(t, with(1, 1<<63, 0, 0))
	wantRefused(t, with(1, math.MaxUint64, 0, 0))
	loaded(t, with(1, 0, 0, api.MaxWeight))
	wantRefused(t, with(1, 0, 0, api.MaxWeight+1))
	wantRefused(t, with(1, 0, 0, 1<<32))
	wantRefused(t, with(1, 0, 0, 1<<63))
	wantRefused(t, with(1, 0, 0, math.MaxUint64))
	loaded(t, with(1, 0, math.MaxUint64, 0))
	loaded(t, with(math.MaxUint64, 0, 0, 0))
	// Nothing was asked, but answered.
	loaded(t, with(0, 0, 0, 0))
	wantRefused(t, with(0, 1, 0, 0))
	wantRefused(t, with(0, 0, 1, 0))
	wantRefused(t, with(0, 0, 0, 1))
	wantRefused(t, with(0, 2, 3, 4))

	for n := range 5 {
		for rows := range 5 {
			b := body(empty, uints(uint64(n)), bytes.Repeat(uints(1, 2, 3, 4), rows))
			if n == rows {
				loaded(t, sealed(b))
			} else {
				wantRefused(t, sealed(b))
			}
		}
	}
	for _, n := range []int{api.MaxSessions, api.MaxSessions + 1, 2 * api.MaxSessions} {
		b := sealed(body(empty, uints(uint64(n)), bytes.Repeat(uints(1, 0, 0, 0), n)))
		if n == api.MaxSessions {
			loaded(t, b)
		} else {
			wantRefused(t, b)
		}
	}
	wantRefused(t, sealed(body(empty, uints(1<<32))))
	wantRefused(t, sealed(body(empty, uints(math.MaxUint64))))
}

// P16.5: numbers are written in one way, none is missing, and nothing stands behind them.
func TestLoadOfOtherWritings(t *testing.T) {
	good := bodyOf([]api.Pair{pair("a", 3)}, []session.Row{row(300, had(3)), {}, row(1, fails(api.ErrDictNone))})
	loaded(t, sealed(good))
	for i := range good {
		wantRefused(t, sealed(good[:i]))
	}
	for c := range 256 {
		wantRefused(t, sealed(append(slices.Clone(good), byte(c))))
	}
	for i, c := range good {
		// A byte behind which another one says nothing more.
		if c < 0x80 {
			long := slices.Concat(good[:i], []byte{c | 0x80, 0}, good[i+1:])
			wantRefused(t, sealed(long))
		}
	}
}

// P16.5: what was refused leaves nothing behind.
func TestLoadBehindARefusedOne(t *testing.T) {
	b := sealed(body(machineOf([]api.Pair{pair("a", 3)}), uints(1), uints(0, 0, 0, 1)))
	wantRefused(t, b)
	wantHas(t, loaded(t, New().Image()), nil, nil)
	wantHas(t, New(), nil, nil)
}

// P16.6: a state that is loaded goes on as the other one does.
func TestLoadedGoesOn(t *testing.T) {
	s, words, rows := some(t)
	u := loaded(t, s.Image())
	wantHas(t, u, words, rows)
	for _, c := range []api.Command{
		setting(1, 300, "ab", 1), setting(1, 299, "ab", 1), setting(2, 1, "ab", 8), removing(3, 9, "zz"),
		removing(3, 10, numbered(3)), opening(), setting(4, 1, "new", 2), setting(5, 1, "new", 2), {Kind: 9}, setting(4, 2, "", 2),
	} {
		if a, b := s.Do(c), u.Do(c); a != b {
			t.Errorf("P16.6: Do(%v) = %v, and %v of the one that was loaded", c, a, b)
		}
		wantHas(t, u, s.Words(), s.Sessions())
	}
}

// P16.6: states that came to the same words and rows by unlike ways have the same image.
func TestSameImage(t *testing.T) {
	a, b := opened(t, 2), opened(t, 1)
	for i, p := range many(100) {
		wantDo(t, a, setting(1, uint64(i+1), p.Word, p.Weight), had(0))
	}
	for i, p := range slices.Backward(many(100)) {
		wantDo(t, b, setting(1, uint64(100-i), p.Word, 7), had(0))
	}
	wantDo(t, b, opening(), api.Answer{Session: 2})
	for i, p := range many(100) {
		wantDo(t, b, setting(2, uint64(i+1), p.Word, p.Weight), had(7))
	}
	wantDo(t, b, removing(2, 101, "zz"), fails(api.ErrDictNone))
	wantDo(t, a, removing(2, 101, "zz"), fails(api.ErrDictNone))
	wantDo(t, a, setting(1, 200, "ab", 1), had(0))
	wantDo(t, b, setting(1, 200, "ab", 1), had(0))
	wantHas(t, b, a.Words(), a.Sessions())
	if !bytes.Equal(a.Image(), b.Image()) {
		t.Error("P16.6: states with the same words and sessions have unlike images")
	}
}
