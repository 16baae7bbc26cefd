package letters

import (
	"math"
	"slices"
	"sort"
	"strings"
	"testing"
	"unicode/utf8"
)

// written has edges of the writing, spelt out by hand: the least and the greatest rune of each number of bytes, and those beside the gap.
var written = []struct {
	r rune
	b []byte
}{
	{0, []byte{0}},
	{32, []byte{32}},
	{97, []byte{97}},
	{127, []byte{127}},
	{128, []byte{194, 128}},
	{233, []byte{195, 169}},
	{2047, []byte{223, 191}},
	{2048, []byte{224, 160, 128}},
	{8364, []byte{226, 130, 172}},
	{55295, []byte{237, 159, 191}},
	{57344, []byte{238, 128, 128}},
	{65535, []byte{239, 191, 191}},
	{65536, []byte{240, 144, 128, 128}},
	{128512, []byte{240, 159, 152, 128}},
	{1114111, []byte{244, 143, 191, 191}},
}

// unwritten are bytes that are no writing.
var unwritten = [][]byte{
	// Longer than needed: the greatest and the least rune that has a shorter writing.
	{192, 128}, {193, 191},
	{224, 128, 128}, {224, 159, 191},
	{240, 128, 128, 128}, {240, 143, 191, 191},
	// The gap's ends, and past the last rune.
	{237, 160, 128}, {237, 191, 191},
	{244, 144, 128, 128}, {247, 191, 191, 191},
	// Bytes that begin no writing.
	{128}, {191}, {248}, {255},
	{248, 136, 128, 128, 128}, {252, 132, 128, 128, 128, 128}, {254, 128}, {255, 128, 128, 128},
	// Cut off.
	{194}, {195}, {223},
	{224}, {226, 130}, {239, 191},
	{240}, {240, 159}, {240, 159, 152}, {244, 143, 191},
	// A byte that does not go on with a writing.
	{195, 40}, {195, 127}, {195, 192}, {195, 195, 169},
	{226, 40, 172}, {226, 130, 40}, {226, 130, 192},
	{240, 40, 152, 128}, {240, 159, 40, 128}, {240, 159, 152, 40}, {240, 159, 152, 192},
}

// noRunes are numbers that no writing has.
var noRunes = []rune{-1, -97, math.MinInt32, 55296, 56320, 57343, 1114112, 2097151, math.MaxInt32}

func wantRunes(t *testing.T, s string, want []rune) {
	t.Helper()
	got, ok := Runes(s)
	if !ok || !slices.Equal(got, want) {
		t.Errorf("Runes(% x) = %v, %v, want %v, true", s, got, ok, want)
	}
}

func wantNoRunes(t *testing.T, s string) {
	t.Helper()
	got, ok := Runes(s)
	if ok || len(got) != 0 {
		t.Errorf("Runes(% x) = %v, %v, want none, false", s, got, ok)
	}
}

// P1.1
func TestRunesOfWritings(t *testing.T) {
	wantRunes(t, "", nil)
	wantRunes(t, "aé", []rune{97, 233})
	wantRunes(t, "a\x00 \x7f", []rune{97, 0, 32, 127})
	var all []rune
	var text []byte
	for _, w := range written {
		wantRunes(t, string(w.b), []rune{w.r})
		all = append(all, w.r)
		text = append(text, w.b...)
	}
	wantRunes(t, string(text), all)
	wantRunes(t, strings.Repeat("é", 10000), slices.Repeat([]rune{233}, 10000))
}

// P1.1
func TestRunesOfNoWriting(t *testing.T) {
	for _, b := range unwritten {
		wantNoRunes(t, string(b))
		wantNoRunes(t, "a"+string(b))
		wantNoRunes(t, string(b)+"a")
		wantNoRunes(t, "aé"+string(b)+"€")
	}
}

// P1.1: every text of up to three bytes, held against the library's reader.
func TestRunesOfShortTexts(t *testing.T) {
	for n := range 1 << 24 {
		b := []byte{byte(n), byte(n >> 8), byte(n >> 16)}
		for size := 3; size > 0 && (size == 3 || b[size] == 0); size-- {
			checkAgainstLibrary(t, string(b[:size]))
		}
		if t.Failed() {
			return
		}
	}
}

// P1.1: four and five bytes, of those where something changes.
func TestRunesOfEdgeBytes(t *testing.T) {
	edges := []byte{0, 97, 127, 128, 143, 144, 159, 160, 191, 192, 194, 223, 224, 237, 239, 240, 244, 245, 247, 248, 255}
	for _, a := range edges {
		for _, b := range edges {
			for _, c := range edges {
				for _, d := range edges {
					checkAgainstLibrary(t, string([]byte{a, b, c, d}))
					checkAgainstLibrary(t, string([]byte{a, b, c, d, 97}))
				}
			}
		}
	}
}

func checkAgainstLibrary(t *testing.T, s string) {
	got, ok := Runes(s)
	if ok != utf8.ValidString(s) {
		t.Errorf("Runes(% x): %v", s, ok)
	}
	if !ok && len(got) != 0 {
		t.Errorf("Runes(% x) tells %v beside false", s, got)
	}
	if ok && string(got) != s {
		t.Errorf("Runes(% x) = %v", s, got)
	}
}

// P1.2
func TestTextOfRunes(t *testing.T) {
	if s, ok := Text(nil); s != "" || !ok {
		t.Errorf("Text(nil) = %q, %v", s, ok)
	}
	var all []rune
	var text []byte
	for _, w := range written {
		if s, ok := Text([]rune{w.r}); s != string(w.b) || !ok {
			t.Errorf("Text(%d) = % x, %v, want % x, true", w.r, s, ok, w.b)
		}
		all = append(all, w.r)
		text = append(text, w.b...)
	}
	if s, ok := Text(all); s != string(text) || !ok {
		t.Errorf("Text(%v) = % x, %v", all, s, ok)
	}
}

// P1.2
func TestTextOfNoRunes(t *testing.T) {
	for _, r := range noRunes {
		for _, l := range [][]rune{{r}, {97, r}, {r, 97}, {233, r, 8364}} {
			if s, ok := Text(l); s != "" || ok {
				t.Errorf("Text(%v) = %q, %v, want \"\", false", l, s, ok)
			}
		}
	}
}

// P1.2: each number around and within the runes, held against the library's writer.
func TestTextOfEachNumber(t *testing.T) {
	for r := rune(-3000); r < 1120000; r++ {
		s, ok := Text([]rune{r})
		if ok != utf8.ValidRune(r) || ok && s != string(r) || !ok && s != "" {
			t.Fatalf("Text(%d) = % x, %v", r, s, ok)
		}
	}
}

// P1.3
func TestWordTakes(t *testing.T) {
	for _, s := range []string{
		"a", "ab", "été", "€", "!", "~", "\u0080", "\u00a0", "\U0010ffff",
		strings.Repeat("a", 23),
		strings.Repeat("a", 24),
		strings.Repeat("é", 24),
		strings.Repeat("\U0010ffff", 24),
	} {
		if !Word(s) {
			t.Errorf("Word(%q) = false", s)
		}
	}
}

// P1.3
func TestWordRefuses(t *testing.T) {
	for _, s := range []string{
		"", " ", "a b", " a", "a ", "\x7f", "a\x7f", "\x7fa", "\x00", "a\x00b", "\t", "a\n", "\x1f",
		strings.Repeat("a", 25),
		strings.Repeat("é", 25),
		strings.Repeat("\U0010ffff", 25),
		strings.Repeat("a", 100000),
		strings.Repeat("a", 23) + "\xc3",
		strings.Repeat("a", 24) + "\xc3",
	} {
		if Word(s) {
			t.Errorf("Word(%q) = true", s)
		}
	}
	for _, b := range unwritten {
		if Word(string(b)) || Word("a"+string(b)) || Word(string(b)+"a") {
			t.Errorf("Word takes % x", b)
		}
	}
}

// P1.3: each rune alone.
func TestWordOfEachRune(t *testing.T) {
	for r := rune(0); r <= 1114111; r++ {
		if !utf8.ValidRune(r) {
			continue
		}
		if want := r >= 33 && r != 127; Word(string(r)) != want || Word("a"+string(r)) != want {
			t.Fatalf("Word of the rune %d: not %v", r, want)
		}
	}
}

// P1.4
func TestLess(t *testing.T) {
	// Each is ahead of all behind it; some are no writings.
	rising := []string{"", "\x00", "\x00\x00", "\x01", "a", "a\x00", "ab", "abc", "b", "\x7f", "\x80", "\xc3", "\xc3\x28", "é", "été", "\xe0", "€", "\xed\xa0\x80", "\U0010ffff", "\xff", "\xff\xff"}
	for i, a := range rising {
		for j, b := range rising {
			if Less(a, b) != (i < j) {
				t.Errorf("Less(% x, % x) = %v", a, b, !(i < j))
			}
		}
	}
}

// P1.4
func TestCommon(t *testing.T) {
	for _, c := range []struct {
		a, b string
		want int
	}{
		{"été", "étage", 2},
		{"", "", 0},
		{"", "a", 0},
		{"a", "a", 1},
		{"ab", "abc", 2},
		{"abc", "abc", 3},
		{"abc", "xbc", 0},
		{"abcd", "abxd", 2},
		// Beginnings that share bytes, but not whole runes.
		{"é", "è", 0},
		{"a€", "a₭", 1},
		{"\U0001f600", "\U0001f601", 0},
		{"a b\x00c", "a b\x00d", 4},
		{strings.Repeat("é", 1000), strings.Repeat("é", 999) + "a", 999},
	} {
		if got := Common(c.a, c.b); got != c.want {
			t.Errorf("Common(%q, %q) = %d, want %d", c.a, c.b, got, c.want)
		}
		if got := Common(c.b, c.a); got != c.want {
			t.Errorf("Common(%q, %q) = %d, want %d", c.b, c.a, got, c.want)
		}
	}
}

// P1.4
func TestCommonOfNoWriting(t *testing.T) {
	for _, b := range unwritten {
		bad := "ab" + string(b)
		for _, other := range []string{"ab", "abc", "", bad} {
			if Common(bad, other) != 0 || Common(other, bad) != 0 {
				t.Errorf("Common of % x and %q is not 0", bad, other)
			}
		}
		// It counts too where it stands behind the first difference.
		if bad = "abx" + string(b); Common(bad, "aby") != 0 || Common("aby", bad) != 0 {
			t.Errorf("Common of % x and aby is not 0", bad)
		}
	}
}

func everyRune() []rune {
	var l []rune
	for r := rune(0); r <= 1114111; r++ {
		if r < 55296 || r > 57343 {
			l = append(l, r)
		}
	}
	return l
}

// P1.5
func TestThereAndBack(t *testing.T) {
	all := everyRune()
	s, ok := Text(all)
	if !ok {
		t.Fatal("Text of all runes: false")
	}
	back, ok := Runes(s)
	if !ok || !slices.Equal(back, all) {
		t.Fatal("Runes of Text are not the runes")
	}
	for _, s := range []string{"", "a", "été", "a b\x00", "€\U0010ffff\x7f"} {
		l, ok := Runes(s)
		if !ok {
			t.Errorf("Runes(%q): false", s)
		}
		if again, ok := Text(l); again != s || !ok {
			t.Errorf("Text of Runes(%q) = %q, %v", s, again, ok)
		}
	}
}

// P1.5: a beginning of some text is also the beginning of the next text in order, so neighbours are enough.
func TestEachWritingApart(t *testing.T) {
	last := ""
	for i, r := range everyRune() {
		s, _ := Text([]rune{r})
		if i > 0 && !Less(last, s) {
			t.Fatalf("the writing of %d is not behind the one ahead of it", r)
		}
		if i > 0 && strings.HasPrefix(s, last) {
			t.Fatalf("the writing of %d begins with another one's", r)
		}
		last = s
	}
}

// P1.5
func TestLessAsRunes(t *testing.T) {
	lists := [][]rune{{}}
	for _, a := range written {
		lists = append(lists, []rune{a.r})
		for _, b := range written {
			lists = append(lists, []rune{a.r, b.r}, []rune{97, a.r, b.r})
		}
	}
	sort.Slice(lists, func(i, j int) bool { return slices.Compare(lists[i], lists[j]) < 0 })
	for i, x := range lists {
		a, _ := Text(x)
		for j, y := range lists {
			b, _ := Text(y)
			if Less(a, b) != (i < j) {
				t.Fatalf("Less of the writings of %v and %v: %v", x, y, !(i < j))
			}
		}
	}
}

// R5, R6, R7
func TestListsAreTheCallersOwn(t *testing.T) {
	given := []rune{233, 97}
	s, _ := Text(given)
	if !slices.Equal(given, []rune{233, 97}) {
		t.Error("Text changes what it is given:", given)
	}
	given[0] = 98
	if s != "éa" {
		t.Errorf("what Text told has changed: %q", s)
	}
	first, _ := Runes(s)
	first[0] = 120
	wantRunes(t, s, []rune{233, 97})
}
