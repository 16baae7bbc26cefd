package edit

import (
	"math/rand"
	"slices"
	"strings"
	"testing"
	"unicode/utf8"
)

// everyText has all texts of up to n of those runes, the shorter ones first.
func everyText(n int, alphabet []rune) []string {
	all := []string{""}
	last := all
	for range n {
		var longer []string
		for _, s := range last {
			for _, r := range alphabet {
				longer = append(longer, s+string(r))
			}
		}
		all = append(all, longer...)
		last = longer
	}
	return all
}

// edited has all texts that are one edit from s, with runes of that alphabet.
func edited(s string, alphabet []rune) []string {
	var l []string
	runes := []rune(s)
	for i := range len(runes) + 1 {
		ahead, behind := string(runes[:i]), string(runes[i:])
		for _, r := range alphabet {
			l = append(l, ahead+string(r)+behind)
		}
		if i == len(runes) {
			break
		}
		behind = string(runes[i+1:])
		l = append(l, ahead+behind)
		for _, r := range alphabet {
			if r != runes[i] {
				l = append(l, ahead+string(r)+behind)
			}
		}
	}
	return l
}

// reached has the distances from a by making edits, all of them, as long as no text has more than so many runes.
func reached(a string, alphabet []rune, most int) map[string]int {
	far := map[string]int{a: 0}
	for todo := []string{a}; len(todo) > 0; todo = todo[1:] {
		for _, s := range edited(todo[0], alphabet) {
			if _, ok := far[s]; !ok && utf8.RuneCountInString(s) <= most {
				far[s] = far[todo[0]] + 1
				todo = append(todo, s)
			}
		}
	}
	return far
}

// P10.1 to P10.3: all short texts of some runes, held against the edits themselves. A rune that none of both has may stand on the way, and one rune more than in both.
func TestAllShortTexts(t *testing.T) {
	for _, x := range []struct {
		runes    int
		alphabet []rune
	}{{4, []rune{'a', 'b'}}, {3, []rune{'a', 'é', 0x10000}}} {
		texts := everyText(x.runes, x.alphabet)
		for _, a := range texts {
			far := reached(a, append(slices.Clone(x.alphabet), 'x'), x.runes+1)
			for _, b := range texts {
				wantTold(t, a, b, far[b])
			}
		}
	}
}

// P10.4: what follows for all short texts, and all three of them.
func TestWhatFollows(t *testing.T) {
	texts := everyText(3, []rune{'a', 'b', 'é'})
	var far [][]int
	for _, a := range texts {
		var row []int
		for _, b := range texts {
			n, ok := Distance(a, b)
			if !ok {
				t.Fatalf("P10.1: nothing is told of %q and %q", a, b)
			}
			row = append(row, n)
		}
		far = append(far, row)
	}
	for i, a := range texts {
		for j, b := range texts {
			n, m := utf8.RuneCountInString(a), utf8.RuneCountInString(b)
			switch {
			case (far[i][j] == 0) != (i == j):
				t.Errorf("P10.4: %q and %q: %d", a, b, far[i][j])
			case far[i][j] != far[j][i]:
				t.Errorf("P10.4: %q and %q: %d, and %d the other way", a, b, far[i][j], far[j][i])
			case far[i][j] < max(n-m, m-n) || far[i][j] > max(n, m):
				t.Errorf("P10.4: %q and %q: %d with %d and %d runes", a, b, far[i][j], n, m)
			}
			for k, c := range texts {
				if far[i][k]+far[k][j] < far[i][j] {
					t.Errorf("P10.4: %q and %q: %d, but by way of %q less", a, b, far[i][j], c)
				}
			}
		}
	}
}

// P10.4: what both begin with alike, and end with, does not count.
func TestWhatBothHaveDoesNotCount(t *testing.T) {
	texts := everyText(2, []rune{'a', 'b', 'é'})
	for _, a := range texts {
		for _, b := range texts {
			n, _ := Distance(a, b)
			for _, head := range texts {
				for _, tail := range texts {
					wantDistance(t, head+a+tail, head+b+tail, n)
				}
			}
		}
	}
}

// slow is the distance as its definition by the last runes says it, each pair of beginnings worked out once.
func slow(a, b []rune) int {
	known := map[[2]int]int{}
	var far func(i, j int) int
	far = func(i, j int) int {
		if i == 0 || j == 0 {
			return i + j
		}
		if n, ok := known[[2]int{i, j}]; ok {
			return n
		}
		n := far(i-1, j-1)
		if a[i-1] != b[j-1] {
			n = 1 + min(n, far(i-1, j), far(i, j-1))
		}
		known[[2]int{i, j}] = n
		return n
	}
	return far(len(a), len(b))
}

// byDiagonals is the distance by how far one gets in a, with so many edits, where b is so much further: also of long texts.
func byDiagonals(a, b []rune) int {
	const never = -2
	end := len(b) - len(a)
	got := map[int]int{}
	at := func(k int) int {
		if n, ok := got[k]; ok {
			return n
		}
		return never
	}
	for edits := 0; ; edits++ {
		now := map[int]int{}
		for k := -edits; k <= edits; k++ {
			i := max(at(k)+1, at(k-1), at(k+1)+1)
			if edits == 0 {
				i = 0
			}
			i = min(i, len(a), len(b)-k)
			if i < 0 || i+k < 0 {
				continue
			}
			for i < len(a) && i+k < len(b) && a[i] == b[i+k] {
				i++
			}
			now[k] = i
		}
		if n, ok := now[end]; ok && n == len(a) {
			return edits
		}
		got = now
	}
}

// alphabets: few runes, more, and those of all sizes.
func alphabets() [][]rune {
	return [][]rune{
		{'a', 'b'},
		{'a', 'b', 'c', 'd', 'e', 'f'},
		{'a', 0, 0x7f, 0x80, 0x7ff, 0x800, 0xd7ff, 0xe000, 0xffff, 0x10000, 0x10ffff},
	}
}

func drawn(r *rand.Rand, alphabet []rune, n int) []rune {
	var l []rune
	for range n {
		l = append(l, alphabet[r.Intn(len(alphabet))])
	}
	return l
}

// changed is l behind so many drawn edits.
func changed(r *rand.Rand, alphabet, l []rune, edits int) []rune {
	l = slices.Clone(l)
	for range edits {
		i := r.Intn(len(l) + 1)
		switch c := drawn(r, alphabet, 1); {
		case r.Intn(3) == 0 || i == len(l):
			l = slices.Insert(l, i, c...)
		case r.Intn(2) == 0:
			l = slices.Delete(l, i, i+1)
		default:
			l[i] = c[0]
		}
	}
	return l
}

// P10.1 to P10.3: drawn texts of a word's length and some more.
func TestDrawnTexts(t *testing.T) {
	r := rand.New(rand.NewSource(10))
	counts := map[int]int{}
	for round := range 3000 {
		alphabet := alphabets()[round%3]
		a := drawn(r, alphabet, r.Intn(40))
		b := drawn(r, alphabet, r.Intn(40))
		if round%2 == 0 {
			b = changed(r, alphabet, a, r.Intn(8))
		}
		n := slow(a, b)
		if m := byDiagonals(a, b); m != n {
			t.Fatalf("the models tell %d and %d of %q and %q", n, m, string(a), string(b))
		}
		wantTold(t, string(a), string(b), n)
		counts[n]++
	}
	if len(counts) < 25 {
		t.Errorf("the texts show too little: %v", counts)
	}
}

// P10.1 to P10.4: drawn texts of up to 1024 runes, with few edits between them and with many.
func TestDrawnLongTexts(t *testing.T) {
	r := rand.New(rand.NewSource(1024))
	for round := range 24 {
		alphabet := alphabets()[round%3]
		a := drawn(r, alphabet, mostRunes-r.Intn(20))
		b := drawn(r, alphabet, mostRunes-r.Intn(400))
		if round%4 > 0 {
			b = changed(r, alphabet, a, r.Intn(200))
		}
		a, b = a[:min(len(a), mostRunes)], b[:min(len(b), mostRunes)]
		n := byDiagonals(a, b)
		wantTold(t, string(a), string(b), n)
		wantDistance(t, string(b), string(a), n)
	}
}

// P10.4: by way of a drawn third text it is never shorter.
func TestDrawnThird(t *testing.T) {
	r := rand.New(rand.NewSource(3))
	for round := range 2000 {
		alphabet := alphabets()[round%3]
		a := drawn(r, alphabet, r.Intn(24))
		c := changed(r, alphabet, a, r.Intn(6))
		b := changed(r, alphabet, c, r.Intn(6))
		whole, _ := Distance(string(a), string(b))
		there, _ := Distance(string(a), string(c))
		on, _ := Distance(string(c), string(b))
		if whole > there+on {
			t.Errorf("P10.4: %q and %q: %d, but by way of %q %d", string(a), string(b), whole, string(c), there+on)
		}
	}
}

// R1: any bytes are taken, and told of just where both are writings.
func TestAnyBytes(t *testing.T) {
	r := rand.New(rand.NewSource(1))
	bytes := []string{"a", "b", "\x80", "\xa9", "\xc3", "\xc3\xa9", "\xe2\x82\xac", "\xf0", "\x9f", "\xff", "\xed\xa0\x80"}
	draw := func() string {
		var b strings.Builder
		for range r.Intn(4) {
			b.WriteString(bytes[r.Intn(len(bytes))])
		}
		return b.String()
	}
	told, not := 0, 0
	for range 5000 {
		a, b := draw(), draw()
		if utf8.ValidString(a) && utf8.ValidString(b) {
			wantTold(t, a, b, slow([]rune(a), []rune(b)))
			told++
		} else {
			wantNothing(t, a, b)
			not++
		}
	}
	if told < 500 || not < 500 {
		t.Errorf("the texts show too little: %d told of, %d not", told, not)
	}
}
