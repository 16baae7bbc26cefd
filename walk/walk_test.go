package walk

import (
	"iter"
	"math"
	"slices"
	"strconv"
	"strings"
	"testing"

	"abecedary/api"
	"abecedary/fst"
)

func pair(word string, weight int) api.Pair {
	return api.Pair{Word: word, Weight: weight}
}

func arc(label rune, out, to int) api.Arc {
	return api.Arc{Label: label, Out: out, To: to}
}

func end() api.State { return api.State{Final: true} }

func inner(arcs ...api.Arc) api.State { return api.State{Arcs: arcs} }

func final(out int, arcs ...api.Arc) api.State {
	return api.State{Final: true, Out: out, Arcs: arcs}
}

func machine(base int, states ...api.State) api.Machine {
	return api.Machine{Base: base, States: states}
}

// chapters is the machine of the chapter's examples: a 3, ab 5, b 2.
func chapters() api.Machine {
	return machine(2, end(), final(0, arc('b', 2, 0)), inner(arc('a', 1, 1), arc('b', 0, 0)))
}

func built(t *testing.T, l []api.Pair) api.Machine {
	t.Helper()
	m, e := fst.Build(l)
	if e != api.OK {
		t.Fatalf("no dictionary: %d", e)
	}
	return m
}

func begun(t *testing.T, m api.Machine) *Walk {
	t.Helper()
	w, ok := New(m)
	if !ok || w == nil {
		t.Fatalf("P9.1: New = %v, %t, want a walk, true", w, ok)
	}
	return w
}

// on is a walk on that dictionary.
func on(t *testing.T, l ...api.Pair) *Walk {
	t.Helper()
	return begun(t, built(t, l))
}

func sameState(a, b api.State) bool {
	return a.Final == b.Final && a.Out == b.Out && slices.Equal(a.Arcs, b.Arcs)
}

// short: of a long text the beginning is enough.
func short(s string) string {
	return strconv.Quote(s[:min(len(s), 100)])
}

// show: of many pairs the first ones are enough.
func show(l []api.Pair) string {
	var b strings.Builder
	for _, p := range l[:min(len(l), 30)] {
		b.WriteString(strconv.Quote(p.Word) + " " + strconv.Itoa(p.Weight) + ", ")
	}
	return "(" + b.String() + strconv.Itoa(len(l)) + " in all)"
}

func wantFound(t *testing.T, w *Walk, word string, weight int) {
	t.Helper()
	if n, ok := w.Find(word); !ok || n != weight {
		t.Errorf("P9.2: Find(%q) = %d, %t, want %d, true", word, n, ok, weight)
	}
}

func wantNotFound(t *testing.T, w *Walk, word string) {
	t.Helper()
	if n, ok := w.Find(word); ok || n != 0 {
		t.Errorf("P9.2: Find(%s) = %d, %t, want 0, false", short(word), n, ok)
	}
}

func wantAt(t *testing.T, w *Walk, i int, want api.Pair) {
	t.Helper()
	if p, ok := w.At(i); !ok || p != want {
		t.Errorf("P9.2: At(%d) = %v, %t, want %v, true", i, p, ok, want)
	}
}

func wantNoneAt(t *testing.T, w *Walk, i int) {
	t.Helper()
	if p, ok := w.At(i); ok || p != (api.Pair{}) {
		t.Errorf("P9.2: At(%d) = %v, %t, want a zero pair, false", i, p, ok)
	}
}

func wantRank(t *testing.T, w *Walk, word string, want int) {
	t.Helper()
	if n := w.Rank(word); n != want {
		t.Errorf("P9.2: Rank(%s) = %d, want %d", short(word), n, want)
	}
}

func wantPairs(t *testing.T, name string, seq iter.Seq[api.Pair], want ...api.Pair) {
	t.Helper()
	if l := slices.Collect(seq); !slices.Equal(l, want) {
		t.Errorf("P9.3: %s tells %s, want %s", name, show(l), show(want))
	}
}

func wantUnder(t *testing.T, w *Walk, head string, want ...api.Pair) {
	t.Helper()
	wantPairs(t, "Under("+short(head)+")", w.Under(head), want...)
}

func wantState(t *testing.T, w *Walk, n int, want api.State) {
	t.Helper()
	if s, ok := w.State(n); !ok || !sameState(s, want) {
		t.Errorf("P9.4: State(%d) = %v, %t, want %v, true", n, s, ok, want)
	}
}

func wantNoState(t *testing.T, w *Walk, n int) {
	t.Helper()
	if s, ok := w.State(n); ok || !sameState(s, api.State{}) {
		t.Errorf("P9.4: State(%d) = %v, %t, want nothing, false", n, s, ok)
	}
}

// P9.1 to P9.4: the chapter's examples.
func TestExamples(t *testing.T) {
	w := begun(t, chapters())
	if w.Len() != 3 {
		t.Errorf("P9.2: Len() = %d, want 3", w.Len())
	}
	wantFound(t, w, "ab", 5)
	wantAt(t, w, 2, pair("b", 2))
	wantRank(t, w, "aa", 1)
	wantRank(t, w, "z", 3)
	wantUnder(t, w, "a", pair("a", 3), pair("ab", 5))
}

// P9.1
func TestMachinesThatAreNotRight(t *testing.T) {
	for i, m := range wrongOnes() {
		if w, ok := New(m); ok || w != nil {
			t.Errorf("P9.1: New of the wrong machine %d = %v, %t, want nil, false", i, w, ok)
		}
	}
}

// wrongOnes are machines that nothing builds; to go through some of them would never end, or lead out of them.
func wrongOnes() []api.Machine {
	return []api.Machine{
		machine(1),
		machine(-1),
		machine(0, end()),
		machine(1, end()),
		machine(1, inner()),
		machine(0, end(), inner(arc('a', 0, 0))),
		machine(api.MaxWeight+1, end(), inner(arc('a', 0, 0))),
		machine(1, end(), inner(arc('a', 1, 0))),
		machine(1, end(), inner(arc('b', 0, 0), arc('a', 0, 0))),
		machine(1, end(), inner(arc('a', 0, 0), arc('a', 0, 0))),
		machine(1, end(), inner(arc(' ', 0, 0))),
		machine(1, end(), inner(arc(0xd800, 0, 0))),
		machine(1, end(), inner(arc('a', 0, 1))),
		machine(1, end(), inner(arc('a', 0, 2))),
		machine(1, end(), inner(arc('a', 0, -1))),
		machine(1, inner(arc('a', 0, 1)), inner(arc('a', 0, 0))),
		machine(1, end(), end(), inner(arc('a', 0, 0), arc('b', 0, 1))),
		machine(1, end(), inner(arc('x', 0, 0)), inner(arc('a', 0, 0))),
		machine(1, end(), final(0, arc('a', 0, 0))),
		chain(api.MaxRunes + 1),
		ladder(13, 2),
		ladder(24, 2),
	}
}

// chain is a machine of one word of n runes.
func chain(n int) api.Machine {
	m := machine(1, end())
	for i := range n {
		m.States = append(m.States, inner(arc('a', 0, i)))
	}
	return m
}

// rung is a label of a ladder: there are a million of them in a row.
func rung(k int) rune { return 0x10000 + rune(k) }

// ladder has so many arcs from each of its states to the one below it: many to the power of deep words.
func ladder(deep, many int) api.Machine {
	m := machine(1, end())
	for i := range deep {
		var s api.State
		for k := range many {
			s.Arcs = append(s.Arcs, arc(rung(k), 0, i))
		}
		m.States = append(m.States, s)
	}
	return m
}

// P9.1 to P9.4: the machine of nothing.
func TestNothing(t *testing.T) {
	for _, m := range []api.Machine{{}, machine(0, []api.State{}...), built(t, nil)} {
		w := begun(t, m)
		if w.Len() != 0 || w.Root() != -1 || w.Base() != 0 {
			t.Errorf("P9.2, P9.4: Len() = %d, Root() = %d, Base() = %d, want 0, -1, 0", w.Len(), w.Root(), w.Base())
		}
		for _, i := range []int{math.MinInt, -1, 0, 1, math.MaxInt} {
			wantNoneAt(t, w, i)
			wantNoState(t, w, i)
		}
		for _, s := range []string{"", "a", "\xff", "€", "\xe2\x82"} {
			wantNotFound(t, w, s)
			wantRank(t, w, s, 0)
			wantUnder(t, w, s)
		}
		wantPairs(t, "All()", w.All())
	}
}

// P9.1 to P9.4: one word, of one rune.
func TestOneWord(t *testing.T) {
	w := begun(t, machine(7, end(), inner(arc('b', 0, 0))))
	if w.Len() != 1 || w.Root() != 1 || w.Base() != 7 {
		t.Errorf("P9.2, P9.4: Len() = %d, Root() = %d, Base() = %d, want 1, 1, 7", w.Len(), w.Root(), w.Base())
	}
	wantFound(t, w, "b", 7)
	wantAt(t, w, 0, pair("b", 7))
	wantNoneAt(t, w, 1)
	wantRank(t, w, "b", 0)
	wantRank(t, w, "b\x00", 1)
	wantPairs(t, "All()", w.All(), pair("b", 7))
	wantState(t, w, 0, end())
	wantState(t, w, 1, inner(arc('b', 0, 0)))
}

// mixed is a dictionary of words of runes of all sizes, some of them beginnings of others.
func mixed() []api.Pair {
	return []api.Pair{
		pair("a", 3), pair("ab", 5), pair("abacus", 9), pair("abé", 4),
		pair("b", 2), pair("bc", 8),
		pair("ß", 6), pair("é", 11), pair("ét", 12), pair("été", 13), pair("ê", 1),
		pair("€", 20), pair("€uro", 21), pair("₭", 22),
		pair("\uffff", 30), pair("\U00010000", 31), pair("😀", 32), pair("😁", 33), pair("\U0010ffff", 34),
	}
}

// P9.2
func TestFind(t *testing.T) {
	w := on(t, mixed()...)
	for _, p := range mixed() {
		wantFound(t, w, p.Word, p.Weight)
	}
	for _, s := range []string{
		"",                                  // no word
		"aba", "abac", "abacu", "€u", "€ur", // beginnings of words alone
		"abacuss", "bcd", "😀😀", "€uroa", "aa", "bb", "abb", // words go on otherwise
		"A", "z", "è", "ë", "₫", "₮", "\ufffe", "😂", "\U00010001",
		"\xc3", "\xe2\x82", "\xf0\x9f\x98", "ab\xc3", "\xff", "\x80", "a\xff", // no writing of runes
		"\xc1\xa1", "\xe0\x81\xa1", "\xed\xa0\x80", "\xf4\x90\x80\x80", // nor are these: a by more bytes than it takes, no runes at all
		"a\x00", "a b", "a ", " a", "\x7f", "\n",
		strings.Repeat("a", api.MaxRunes+1), strings.Repeat("ab", 1000),
	} {
		wantNotFound(t, w, s)
	}
}

// P9.2: what is no rune is not read as U+FFFD.
func TestBadBytesAreNotTheMarkForThem(t *testing.T) {
	w := on(t, pair("a\ufffd", 4), pair("\ufffd", 3))
	wantFound(t, w, "\ufffd", 3)
	wantFound(t, w, "a\ufffd", 4)
	for _, s := range []string{"\xff", "a\xff", "\xed\xa0\x80", "\xef\xbf"} {
		wantNotFound(t, w, s)
	}
	wantUnder(t, w, "\xef\xbf", pair("\ufffd", 3))
	wantUnder(t, w, "\xff")
	wantRank(t, w, "\xed\xa0\x80", 1)
	wantRank(t, w, "\xff", 2)
}

// P9.2
func TestAt(t *testing.T) {
	w := on(t, mixed()...)
	if w.Len() != len(mixed()) {
		t.Errorf("P9.2: Len() = %d, want %d", w.Len(), len(mixed()))
	}
	for i, p := range mixed() {
		wantAt(t, w, i, p)
	}
	for _, i := range []int{math.MinInt, math.MinInt32, -2, -1, len(mixed()), len(mixed()) + 1, math.MaxInt32, math.MaxInt - 1, math.MaxInt} {
		wantNoneAt(t, w, i)
	}
}

// P9.2
func TestRank(t *testing.T) {
	w := on(t, mixed()...)
	for i, p := range mixed() {
		wantRank(t, w, p.Word, i)
		wantRank(t, w, p.Word+"\x00", i+1)
	}
	for word, n := range map[string]int{
		"":                           0,
		"\x00":                       0,
		"A":                          0,
		"`":                          0,
		"aa":                         1,
		"ab\x00":                     2,
		"aba":                        2,
		"abacu":                      2,
		"abacus":                     2,
		"abacut":                     3,
		"ab\xc3":                     3,
		"ab\xc3\xa9":                 3,
		"ab\xff":                     4,
		"abé ":                       4,
		"b":                          4,
		"bb":                         5,
		"bcc":                        6,
		"c":                          6,
		"\x80":                       6,
		"\xc3":                       6,
		"\xc3\x9f":                   6,
		"\xc3\xa0":                   7,
		"\xc3\xff":                   11,
		"\xe2":                       11,
		"\xe2\x82":                   11,
		"\xe2\x82\xac\xff":           13,
		"\xed\xa0\x80":               14,
		"\xf0":                       15,
		"\xf0\x9f\x98\x80":           16,
		"\xf0\x9f\x98\x80\x00":       17,
		"\xf4\x8f\xbf\xbf":           18,
		"\xf4\x90\x80\x80":           19,
		"\xff":                       19,
		"\xff\xff":                   19,
		strings.Repeat("a", 1<<16):   1,
		strings.Repeat("€", 1<<16):   13,
		strings.Repeat("\xff", 1000): 19,
	} {
		wantRank(t, w, word, n)
	}
}

// P9.5
func TestAtRank(t *testing.T) {
	w := on(t, mixed()...)
	for _, p := range mixed() {
		wantAt(t, w, w.Rank(p.Word), p)
	}
}

// P9.3
func TestAll(t *testing.T) {
	wantPairs(t, "All()", on(t, mixed()...).All(), mixed()...)
}

// P9.3
func TestUnder(t *testing.T) {
	w, l := on(t, mixed()...), mixed()
	wantUnder(t, w, "", l...)
	wantUnder(t, w, "a", l[0:4]...)
	wantUnder(t, w, "ab", l[1:4]...)
	wantUnder(t, w, "aba", l[2])
	wantUnder(t, w, "abacus", l[2]) // a whole word, the last of its kind
	wantUnder(t, w, "b", l[4:6]...)
	wantUnder(t, w, "bc", l[5])
	wantUnder(t, w, "é", l[7:10]...)
	wantUnder(t, w, "ét", l[8:10]...)
	wantUnder(t, w, "€", l[11:13]...)
	wantUnder(t, w, "\U0010ffff", l[18])
}

// P9.3: heads that end amid a rune's bytes.
func TestUnderPartsOfRunes(t *testing.T) {
	w, l := on(t, mixed()...), mixed()
	wantUnder(t, w, "\xc3", l[6:11]...)
	wantUnder(t, w, "ab\xc3", l[3])
	wantUnder(t, w, "ét\xc3", l[9])
	wantUnder(t, w, "\xe2", l[11:14]...)
	wantUnder(t, w, "\xe2\x82", l[11:14]...)
	wantUnder(t, w, "\xef", l[14])
	wantUnder(t, w, "\xf0", l[15:18]...)
	wantUnder(t, w, "\xf0\x9f", l[16:18]...)
	wantUnder(t, w, "\xf0\x9f\x98", l[16:18]...)
	wantUnder(t, w, "\xf4\x8f\xbf", l[18])
}

// P9.3: heads with which nothing begins.
func TestUnderNothing(t *testing.T) {
	w := on(t, mixed()...)
	for _, head := range []string{
		"A", "aa", "ac", "abb", "abacuss", "abacus\x00", "c", "z", "ê\x00", "ë", "\ufffe", "😂",
		"\x00", "a\x00", "\x80", "\xa9", "\xff", "a\xff", "ab\xc4", "\xc3\xff", "\xe2\x83", "\xf4\x90", "\xed\xa0\x80", "\xc1\xa1",
		strings.Repeat("a", api.MaxRunes+1), strings.Repeat("\xe2", 1000),
	} {
		wantUnder(t, w, head)
	}
}

// P9.3: an iterator tells nothing any more, once it is left.
func TestIteratorsAreLeft(t *testing.T) {
	w, l := on(t, mixed()...), mixed()
	for n := range l {
		for name, seq := range map[string]iter.Seq[api.Pair]{"All()": w.All(), `Under("")`: w.Under("")} {
			var got []api.Pair
			seq(func(p api.Pair) bool {
				got = append(got, p)
				return len(got) <= n
			})
			if !slices.Equal(got, l[:n+1]) {
				t.Errorf("P9.3: %s, left at pair %d, tells %s, want %s", name, n, show(got), show(l[:n+1]))
			}
			wantPairs(t, name+", gone over again", seq, l...)
		}
	}
	under := w.Under("é")
	for p := range under {
		if p.Word == "ét" {
			break
		}
		if p.Word != "é" {
			t.Errorf("P9.3: Under(é) tells %q ahead of ét", p.Word)
		}
	}
	wantPairs(t, "Under(é), gone over again", under, l[7:10]...)
}

// P9.3: a loop that panics leaves an iterator, too.
func TestIteratorsAreLeftByAPanic(t *testing.T) {
	w, l := on(t, mixed()...), mixed()
	all, under := w.All(), w.Under("a")
	for _, seq := range []iter.Seq[api.Pair]{all, under} {
		func() {
			defer func() {
				if recover() != "enough" {
					t.Error("P9.3: the loop's panic is not seen")
				}
			}()
			for p := range seq {
				if p.Word == "ab" {
					panic("enough")
				}
			}
		}()
	}
	wantPairs(t, "All(), gone over again", all, l...)
	wantPairs(t, "Under(a), gone over again", under, l[:4]...)
}

// P9.3: one iterator gone over within itself, and two of one walk at once.
func TestIteratorsWithinEachOther(t *testing.T) {
	w, l := on(t, mixed()...), mixed()
	all := w.All()
	var outer []api.Pair
	for p := range all {
		outer = append(outer, p)
		wantPairs(t, "All(), within itself", all, l...)
		for q := range w.Under(p.Word) {
			if !strings.HasPrefix(q.Word, p.Word) {
				t.Errorf("P9.3: Under(%q), within All(), tells %q", p.Word, q.Word)
			}
		}
		wantAt(t, w, len(outer)-1, p)
	}
	if !slices.Equal(outer, l) {
		t.Errorf("P9.3: All(), with others within, tells %s, want %s", show(outer), show(l))
	}
	one, stopOne := iter.Pull(w.Under("a"))
	two, stopTwo := iter.Pull(w.All())
	defer stopOne()
	defer stopTwo()
	for i := range 4 {
		p, _ := one()
		q, _ := two()
		if p != l[i] || q != l[i] {
			t.Errorf("P9.3: two at once tell %v and %v, want %v", p, q, l[i])
		}
	}
	if p, ok := one(); ok {
		t.Errorf("P9.3: Under(a) tells %v behind its end", p)
	}
	if q, _ := two(); q != l[4] {
		t.Errorf("P9.3: All() goes on with %v, want %v", q, l[4])
	}
}

// P9.4
func TestStates(t *testing.T) {
	m := chapters()
	w := begun(t, m)
	if w.Root() != 2 || w.Base() != 2 {
		t.Errorf("P9.4: Root() = %d, Base() = %d, want 2, 2", w.Root(), w.Base())
	}
	for n, s := range m.States {
		wantState(t, w, n, s)
	}
	for _, n := range []int{math.MinInt, -1, 3, 4, math.MaxInt} {
		wantNoState(t, w, n)
	}
}

// wantWhole holds all that w tells against the machine and the dictionary of which it is made.
func wantWhole(t *testing.T, w *Walk, m api.Machine, l []api.Pair) {
	t.Helper()
	if w.Len() != len(l) || w.Root() != len(m.States)-1 || w.Base() != m.Base {
		t.Errorf("P9.2, P9.4: Len() = %d, Root() = %d, Base() = %d, want %d, %d, %d", w.Len(), w.Root(), w.Base(), len(l), len(m.States)-1, m.Base)
	}
	for i, p := range l {
		wantFound(t, w, p.Word, p.Weight)
		wantAt(t, w, i, p)
		wantRank(t, w, p.Word, i)
		wantRank(t, w, p.Word+"\xff", i+countUnder(l[i:], p.Word))
	}
	wantNoneAt(t, w, -1)
	wantNoneAt(t, w, len(l))
	wantPairs(t, "All()", w.All(), l...)
	wantUnder(t, w, "", l...)
	for n, s := range m.States {
		wantState(t, w, n, s)
	}
	wantNoState(t, w, -1)
	wantNoState(t, w, len(m.States))
}

// countUnder is how many of the first ones of l begin with head.
func countUnder(l []api.Pair, head string) int {
	n := 0
	for n < len(l) && strings.HasPrefix(l[n].Word, head) {
		n++
	}
	return n
}

// greatest are dictionaries of MaxWords words: of one rune each, of MaxRunes runes in few states, of MaxRunes runes of which no two share a state but the last, and each one a beginning of the next where it can be.
func greatest() [][]api.Pair {
	var one, few, many, nested []api.Pair
	for i := range api.MaxWords {
		one = append(one, pair(string(rung(i)), 1+i*255))
		bits := []rune(strings.Repeat("€", api.MaxRunes))
		for k := range 12 {
			bits[k] = 'a' + rune(i>>(11-k)&1)
		}
		few = append(few, pair(string(bits), 7))
		many = append(many, pair(string(rung(i))+strings.Repeat("ß", api.MaxRunes-2)+string(rung(i)), 1+i))
		nested = append(nested, pair(string(rung(i/api.MaxRunes))+strings.Repeat("a", i%api.MaxRunes), api.MaxWeight-i))
	}
	return [][]api.Pair{one, few, many, nested}
}

// P9.1 to P9.5: the most words, the longest ones, and the greatest weights.
func TestGreatest(t *testing.T) {
	for i, l := range greatest() {
		m := built(t, l)
		wantWhole(t, begun(t, m), m, l)
		if t.Failed() {
			t.Fatalf("of the greatest dictionary %d", i)
		}
	}
	w := on(t, pair(strings.Repeat("a", api.MaxRunes), api.MaxWeight))
	wantNotFound(t, w, strings.Repeat("a", api.MaxRunes-1))
	wantNotFound(t, w, strings.Repeat("a", api.MaxRunes+1))
	wantUnder(t, w, strings.Repeat("a", api.MaxRunes), pair(strings.Repeat("a", api.MaxRunes), api.MaxWeight))
	wantUnder(t, w, strings.Repeat("a", api.MaxRunes+1))
}

// P9.2, P9.3: an iterator that is left at once does not go through all: many of them are soon done.
func TestIteratorsDoNoMoreThanIsAsked(t *testing.T) {
	w := on(t, greatest()[1]...)
	for range 100000 {
		for range w.All() {
			break
		}
		if _, ok := w.At(api.MaxWords - 1); !ok {
			t.Fatal("P9.2: the last word is not told")
		}
	}
}
