package pairs

import (
	"slices"
	"testing"

	"abecedary/api"
)

// calls are all that tell a list, of the two that are handed in.
var calls = []struct {
	name string
	call func(a, b []api.Pair) []api.Pair
}{
	{"Norm", func(a, b []api.Pair) []api.Pair { return Norm(a) }},
	{"Merge", Merge},
	{"Merge of a alone", func(a, b []api.Pair) []api.Pair { return Merge(a, nil) }},
	{"Merge on none", func(a, b []api.Pair) []api.Pair { return Merge(nil, a) }},
	{"Diff", Diff},
	{"Diff to none", func(a, b []api.Pair) []api.Pair { return Diff(a, nil) }},
	{"Diff from none", func(a, b []api.Pair) []api.Pair { return Diff(nil, a) }},
	{"Diff of changes", func(a, b []api.Pair) []api.Pair { return Diff(b, a) }},
}

// handed are lists to hand in: in order and not, with words once and several times.
func handed() [][]api.Pair {
	return [][]api.Pair{
		nil,
		{pair("a", 1)},
		{pair("a", 1), pair("b", 2), pair("c", 3)},
		{pair("c", 3), pair("b", 2), pair("a", 1)},
		{pair("b", 1), pair("a", 2), pair("b", 3), pair("a", 0)},
		{pair("d", 0), pair("e", 0)},
		rising(40),
	}
}

func spoil(l []api.Pair) {
	for i := range l {
		l[i] = pair("spoilt", -9)
	}
}

// R5: what is handed in stays as it was, and so does what lies behind its end.
func TestWhatIsHandedInStays(t *testing.T) {
	for _, c := range calls {
		for i, a := range handed() {
			for j, b := range handed() {
				// Both lie in one list, with room behind them.
				whole := slices.Concat(a, list(pair("between", 5)), b, list(pair("behind", 6)))
				was := slices.Clone(whole)
				c.call(whole[:len(a)], whole[len(a)+1:len(a)+1+len(b)])
				if !slices.Equal(whole, was) {
					t.Errorf("%s of the lists %d and %d has changed what it was handed: %s", c.name, i, j, show(whole))
				}
			}
		}
	}
	for _, l := range handed() {
		was := slices.Clone(l)
		Right(l)
		Find(l, "a")
		if !slices.Equal(l, was) {
			t.Errorf("Right or Find has changed what it was handed: %s", show(l))
		}
	}
}

// R6: neither is bound to the other by what is written into later, nor by what is laid behind.
func TestWhatIsToldIsTheCallersOwn(t *testing.T) {
	for _, c := range calls {
		for i := range handed() {
			for j := range handed() {
				a, b := handed()[i], handed()[j]
				got := c.call(a, b)
				want := slices.Clone(got)
				again := c.call(a, b)
				spoil(again[:cap(again)])
				wantList(t, c.name, got, want)
				if !slices.Equal(a, handed()[i]) || !slices.Equal(b, handed()[j]) {
					t.Errorf("%s of the lists %d and %d tells memory that was handed in", c.name, i, j)
				}
				wantList(t, c.name+" once more", c.call(a, b), want)
				spoil(a)
				spoil(b)
				wantList(t, c.name+" behind a change of what was handed in", got, want)
			}
		}
	}
}

// R5, R6: one list as both.
func TestOneListAsBoth(t *testing.T) {
	l := list(pair("b", 1), pair("a", 2), pair("b", 3), pair("c", 0))
	was := slices.Clone(l)
	wantList(t, "Merge(l, l)", Merge(l, l), list(pair("a", 2), pair("b", 3)))
	wantList(t, "Diff(l, l)", Diff(l, l), nil)
	wantList(t, "l", l, was)
}

// R3: an empty list is as good as none.
func TestEmptyIsNone(t *testing.T) {
	for _, c := range calls {
		for _, l := range handed() {
			wantList(t, c.name, c.call(l, list()), c.call(l, nil))
			wantList(t, c.name, c.call(list(), l), c.call(nil, l))
		}
	}
	if !Right(nil) || !Right(list()) {
		t.Error("Right of no pair: false")
	}
}
