package wal

import (
	"bytes"
	"encoding/binary"
	"slices"
	"strings"
	"testing"

	"abecedary/api"
	"abecedary/disk"
)

const (
	most  = ^uint64(0)
	two60 = uint64(1) << 60
	two62 = uint64(1) << 62
)

// state is what a log tells.
type state struct {
	first   uint64
	records []string
}

func (s state) end() uint64 {
	return s.first + uint64(len(s.records))
}

func tells(t *testing.T, w *Wal) state {
	t.Helper()
	s := state{first: w.First()}
	for i := w.First(); i != w.Last()+1; i++ {
		b, ok := w.Get(i)
		if !ok {
			t.Fatalf("Get(%d) = none, of %d to %d", i, w.First(), w.Last())
		}
		s.records = append(s.records, string(b))
	}
	return s
}

func want(t *testing.T, what string, got, e api.Errno) {
	t.Helper()
	if got != e {
		t.Errorf("%s: %d, want %d", what, got, e)
	}
}

// wantTells holds all that w tells of its records against x.
func wantTells(t *testing.T, what string, w *Wal, x state) {
	t.Helper()
	if w.First() != x.first || w.Last() != x.end()-1 {
		t.Errorf("%s: %d to %d, want %d to %d", what, w.First(), w.Last(), x.first, x.end()-1)
		return
	}
	for i, r := range x.records {
		if b, ok := w.Get(x.first + uint64(i)); !ok || string(b) != r {
			t.Errorf("%s: Get(%d) = %q, %v, want %q", what, x.first+uint64(i), b, ok, r)
		}
	}
	for _, i := range []uint64{0, x.first - 1, x.end(), x.end() + 1, two60, two62, two62 + x.first, 1<<63 + x.first, most} {
		if i >= x.first && i < x.end() {
			continue
		}
		if b, ok := w.Get(i); ok || b != nil {
			t.Errorf("%s: Get(%d) = %q, %v, want none", what, i, b, ok)
		}
	}
}

func wantNext(t *testing.T, what string, w *Wal, n uint64) {
	t.Helper()
	if w.Next() != n {
		t.Errorf("%s: Next() = %d, want %d", what, w.Next(), n)
	}
}

// open opens what has to be openable.
func open(t *testing.T, d *disk.Disk, from, first uint64) *Wal {
	t.Helper()
	w, e := Open(d, from, first)
	if e != api.OK || w == nil {
		t.Fatalf("Open(%d, %d): %v, %d", from, first, w, e)
	}
	return w
}

// refuse opens what has to be refused, and nothing may have changed by that.
func refuse(t *testing.T, what string, d *disk.Disk, from, first uint64, e api.Errno) {
	t.Helper()
	steps, ahead, lasts := d.Steps(), image(d), image(d.Crash(nil))
	w, got := Open(d, from, first)
	if w != nil || got != e {
		t.Errorf("%s: Open(%d, %d): %v, %d, want %d", what, from, first, w, got, e)
	}
	if d.Steps() != steps || image(d) != ahead || image(d.Crash(nil)) != lasts {
		t.Errorf("%s: Open(%d, %d) was refused, and has changed the disk", what, from, first)
	}
}

// image is all that is read of a disk.
func image(d *disk.Disk) string {
	var b strings.Builder
	for _, area := range d.Areas() {
		for sector := range d.Sectors(area) {
			if s, ok := d.Read(area, sector); ok {
				b.Write(binary.BigEndian.AppendUint64(nil, area))
				b.Write(binary.BigEndian.AppendUint32(nil, uint32(sector)))
				b.Write(s)
			}
		}
	}
	return b.String()
}

// segmentsOn are the areas that are segments'.
func segmentsOn(d *disk.Disk) []uint64 {
	return slices.DeleteFunc(d.Areas(), func(area uint64) bool { return area%4 != 1 })
}

// written is a segment's text, made by the library's means.
func written(index uint64, records ...string) []byte {
	b := binary.AppendUvarint(nil, index)
	for _, r := range records {
		b = append(binary.AppendUvarint(b, uint64(len(r))), r...)
	}
	return b
}

// write lays a segment's text down.
func write(t *testing.T, d *disk.Disk, number uint64, text []byte) {
	t.Helper()
	for sector := 0; sector == 0 || len(text) > 0; sector++ {
		n := min(len(text), 63)
		want(t, "Write", d.Write(4*number+1, sector, append([]byte{byte(n)}, text[:n]...)), api.OK)
		text = text[n:]
	}
}

// lay lays a segment's text down, so that it lasts.
func lay(t *testing.T, d *disk.Disk, number uint64, text []byte) {
	t.Helper()
	write(t, d, number, text)
	want(t, "Sync", d.Sync(4*number+1), api.OK)
}

func appendAll(t *testing.T, w *Wal, records ...string) {
	t.Helper()
	for _, r := range records {
		want(t, "Append", w.Append([]byte(r)), api.OK)
	}
}

// kill lets a disk die of something that is not the log's.
func kill(t *testing.T, d *disk.Disk) {
	t.Helper()
	d.Arm(0)
	want(t, "Sync of a disk that dies", d.Sync(0), api.ErrDiskDead)
}

// The chapter's examples.
func TestExamples(t *testing.T) {
	d := disk.New(99)
	w := open(t, d, 0, 5)
	wantTells(t, "an empty disk", w, state{5, nil})
	wantNext(t, "an empty disk", w, 0)
	if w.First() != 5 || w.Last() != 4 {
		t.Errorf("First %d, Last %d", w.First(), w.Last())
	}
	appendAll(t, w, "a", "b")
	wantTells(t, "two records", w, state{5, []string{"a", "b"}})
	want(t, "Truncate(6)", w.Truncate(6), api.OK)
	appendAll(t, w, "c")
	wantTells(t, "another one", w, state{5, []string{"a", "c"}})
	want(t, "Truncate(9)", w.Truncate(9), api.ErrWalRange)
	want(t, "Compact(7)", w.Compact(7), api.OK)
	wantTells(t, "none", w, state{7, nil})
	if w.First() != 7 || w.Last() != 6 {
		t.Errorf("First %d, Last %d", w.First(), w.Last())
	}
}

// The example of the whole: two records, or three.
func TestExampleOfTheWhole(t *testing.T) {
	d := disk.New(99)
	w := open(t, d, 0, 1)
	appendAll(t, w, "a", "b")
	want(t, "Sync", w.Sync(), api.OK)
	appendAll(t, w, "c")
	wantTells(t, "not picked", open(t, d.Crash([]int{0}), 0, 1), state{1, []string{"a", "b"}})
	wantTells(t, "picked", open(t, d.Crash([]int{1}), 0, 1), state{1, []string{"a", "b", "c"}})
}

// P5.2: indices where they begin and where they end.
func TestFirstAndLast(t *testing.T) {
	for _, first := range []uint64{0, 1, 2, 127, 128, 1 << 32, two62 - 3} {
		d := disk.New(99)
		w := open(t, d, 0, first)
		wantTells(t, "empty", w, state{first, nil})
		if w.Last() != first-1 {
			t.Errorf("first %d: Last() = %d", first, w.Last())
		}
		appendAll(t, w, "a", "", "c")
		x := state{first, []string{"a", "", "c"}}
		wantTells(t, "three", w, x)
		want(t, "Sync", w.Sync(), api.OK)
		// Where there is a segment first says nothing.
		wantTells(t, "opened again", open(t, d, 0, 77), x)
	}
}

// P5.2: the numbers of segments that were there, void ones and such as are below from too, and of those that were begun.
func TestNext(t *testing.T) {
	for _, x := range []struct {
		numbers []uint64
		void    []uint64
		from    uint64
		next    uint64
	}{
		{nil, nil, 0, 0},
		{nil, nil, 7, 7},
		{nil, nil, two60, two60},
		{[]uint64{0}, nil, 0, 1},
		{[]uint64{0, 1, 5}, nil, 0, 6},
		{[]uint64{0, 1, 5}, nil, 3, 6},
		{[]uint64{0, 1, 5}, nil, 5, 6},
		{[]uint64{0, 1, 5}, nil, 6, 6},
		{[]uint64{0, 1, 5}, nil, 7, 7},
		{[]uint64{0}, []uint64{9}, 0, 10},
		{nil, []uint64{9}, 0, 10},
		{nil, []uint64{9}, 10, 10},
		{nil, []uint64{9}, 11, 11},
		{[]uint64{two60 - 1}, nil, 0, two60},
		{[]uint64{two60 - 2}, nil, 0, two60 - 1},
		{nil, []uint64{two60 - 1}, two60, two60},
	} {
		d := disk.New(99)
		for _, n := range x.numbers {
			lay(t, d, n, written(3))
		}
		for _, n := range x.void {
			lay(t, d, n, nil)
		}
		w := open(t, d, x.from, 3)
		wantNext(t, "opened", w, x.next)
		if x.next == two60 {
			continue
		}
		// What is begun takes the next number, and none that was there.
		before := segmentsOn(d)
		appendAll(t, w, "a")
		wantNext(t, "begun", w, x.next+1)
		added := slices.DeleteFunc(segmentsOn(d), func(area uint64) bool { return slices.Contains(before, area) })
		if !slices.Equal(added, []uint64{4*x.next + 1}) {
			t.Errorf("%v, from %d: begun in %d", x, x.from, added)
		}
		// It stays, though the segments go.
		n := w.Next()
		want(t, "Reset", w.Reset(1), api.OK)
		wantNext(t, "behind Reset", w, n)
	}
}

// P5.3: records of each length, that of none and the longest among them.
func TestAppendLengths(t *testing.T) {
	d := disk.New(9999)
	w := open(t, d, 0, 1)
	x := state{first: 1}
	for n := range api.MaxRecord + 1 {
		r := bytes.Repeat([]byte{byte(n), 255, 0}, 200)[:n]
		want(t, "Append", w.Append(r), api.OK)
		x.records = append(x.records, string(r))
	}
	wantTells(t, "all lengths", w, x)
	want(t, "Sync", w.Sync(), api.OK)
	wantTells(t, "opened again", open(t, d, 0, 1), x)
	wantTells(t, "found", open(t, d.Crash([]int{1, 1, 1}), 0, 1), x)
	if n := len(segmentsOn(d)); n < 2 {
		t.Errorf("%d segments", n)
	}
}

// P5.3
func TestAppendLong(t *testing.T) {
	for _, n := range []int{513, 514, 575, 1024, 65536 + 3} {
		d := disk.New(99)
		w := open(t, d, 0, 1)
		steps := d.Steps()
		want(t, "a long record", w.Append(make([]byte, n)), api.ErrWalLong)
		wantTells(t, "refused", w, state{1, nil})
		if d.Steps() != steps {
			t.Errorf("%d bytes: a step was made", n)
		}
		// It is no error of the disk: all goes on.
		appendAll(t, w, "a", strings.Repeat("x", 512))
		want(t, "a long record", w.Append(make([]byte, n)), api.ErrWalLong)
		wantTells(t, "two", w, state{1, []string{"a", strings.Repeat("x", 512)}})
	}
}

// P5.3: no record has the index 2^62.
func TestAppendAtTheEnd(t *testing.T) {
	d := disk.New(99)
	w := open(t, d, 0, two62-2)
	appendAll(t, w, "a", "b")
	x := state{two62 - 2, []string{"a", "b"}}
	for range 2 {
		want(t, "behind the last index", w.Append([]byte("c")), api.ErrWalRange)
		want(t, "too long, behind the last index", w.Append(make([]byte, 513)), api.ErrWalLong)
		wantTells(t, "full of records", w, x)
	}
	want(t, "Sync", w.Sync(), api.OK)
	w = open(t, d, 0, 1)
	wantTells(t, "opened again", w, x)
	want(t, "behind the last index", w.Append([]byte("c")), api.ErrWalRange)
	want(t, "Truncate", w.Truncate(two62-1), api.OK)
	appendAll(t, w, "c")
	wantTells(t, "another one", w, state{two62 - 2, []string{"a", "c"}})
	want(t, "Truncate", w.Truncate(two62), api.OK)
	want(t, "Compact", w.Compact(two62), api.OK)
	wantTells(t, "none left", w, state{two62, nil})
	want(t, "behind the last index", w.Append(nil), api.ErrWalRange)
	want(t, "Truncate", w.Truncate(two62), api.OK)
	want(t, "Truncate", w.Truncate(two62-1), api.ErrWalRange)
	want(t, "Truncate", w.Truncate(two62+1), api.ErrWalRange)
	want(t, "Compact", w.Compact(two62+1), api.ErrWalRange)

	w = open(t, disk.New(9), 0, two62)
	want(t, "first is 2^62", w.Append(nil), api.ErrWalRange)
	wantTells(t, "first is 2^62", w, state{two62, nil})
	want(t, "Reset", w.Reset(two62), api.OK)
	want(t, "Reset to 2^62", w.Append(nil), api.ErrWalRange)
	want(t, "Sync", w.Sync(), api.OK)
}

// P5.3: at the bounds, and beyond them.
func TestTruncate(t *testing.T) {
	all := []string{"a", "b", "c", "d", "e"}
	for _, first := range []uint64{0, 1, 1000} {
		for n := range len(all) + 1 {
			d := disk.New(99)
			w := open(t, d, 0, first)
			appendAll(t, w, all...)
			i := first + uint64(n)
			for _, wrong := range []uint64{first - 1, first + 6, first + two62, most} {
				if wrong >= first && wrong <= first+5 {
					continue
				}
				want(t, "Truncate beyond the bounds", w.Truncate(wrong), api.ErrWalRange)
				wantTells(t, "refused", w, state{first, all})
			}
			want(t, "Truncate", w.Truncate(i), api.OK)
			x := state{first, all[:n:n]}
			wantTells(t, "truncated", w, x)
			want(t, "Truncate again", w.Truncate(i), api.OK)
			want(t, "Truncate beyond the new end", w.Truncate(i+1), api.ErrWalRange)
			wantTells(t, "truncated again", w, x)
			want(t, "Sync", w.Sync(), api.OK)
			wantTells(t, "opened again", open(t, d.Clone(), 0, 1), x)
			appendAll(t, w, "x", "y")
			x.records = append(x.records, "x", "y")
			wantTells(t, "appended", w, x)
			want(t, "Sync", w.Sync(), api.OK)
			wantTells(t, "opened again", open(t, d, 0, 1), x)
		}
	}
}

// P5.3: what was compacted away is not there to be truncated, and what is at First() is.
func TestTruncateBehindCompact(t *testing.T) {
	d := disk.New(99)
	w := open(t, d, 0, 1)
	appendAll(t, w, "a", "b", "c")
	want(t, "Compact", w.Compact(3), api.OK)
	want(t, "Truncate", w.Truncate(2), api.ErrWalRange)
	wantTells(t, "refused", w, state{3, []string{"c"}})
	want(t, "Truncate", w.Truncate(3), api.OK)
	wantTells(t, "truncated", w, state{3, nil})
	appendAll(t, w, "d")
	want(t, "Sync", w.Sync(), api.OK)
	v := open(t, d, 0, 1)
	if b, ok := v.Get(3); v.First() > 3 || v.Last() != 3 || !ok || string(b) != "d" {
		t.Errorf("opened again: %d to %d, %q", v.First(), v.Last(), b)
	}
}

// P5.3: at the bounds, and beyond them.
func TestCompact(t *testing.T) {
	all := []string{"a", "b", "c", "d", "e"}
	for _, first := range []uint64{0, 1, 1000} {
		for n := range len(all) + 1 {
			d := disk.New(99)
			w := open(t, d, 0, first)
			appendAll(t, w, all...)
			for _, wrong := range []uint64{first + 6, first + two62, most} {
				want(t, "Compact beyond the end", w.Compact(wrong), api.ErrWalRange)
				wantTells(t, "refused", w, state{first, all})
			}
			i := first + uint64(n)
			want(t, "Compact", w.Compact(i), api.OK)
			x := state{i, all[n:]}
			wantTells(t, "compacted", w, x)
			// Nothing is done at First() and ahead of it.
			for _, low := range []uint64{0, first, i} {
				want(t, "Compact again", w.Compact(low), api.OK)
				wantTells(t, "compacted again", w, x)
			}
			appendAll(t, w, "f")
			x.records = append(slices.Clone(x.records), "f")
			wantTells(t, "appended", w, x)
			want(t, "Sync", w.Sync(), api.OK)
			wantFound(t, "opened again", d, 0, 1, x)
		}
	}
}

// P5.3: at First() and ahead of it nothing is done, though there are segments that nobody needs.
func TestCompactDoesNothing(t *testing.T) {
	d := disk.New(99)
	lay(t, d, 0, written(9, "a"))
	lay(t, d, 1, written(7, "b", "c"))
	w := open(t, d, 0, 1)
	steps := d.Steps()
	for _, i := range []uint64{0, 6, 7} {
		want(t, "Compact", w.Compact(i), api.OK)
	}
	wantTells(t, "Compact", w, state{7, []string{"b", "c"}})
	if d.Steps() != steps {
		t.Error("a step was made")
	}
}

// wantFound holds what is opened against x as P5.5 says: there may be more ahead of x's first record.
func wantFound(t *testing.T, what string, d *disk.Disk, from, first uint64, x state) {
	t.Helper()
	w := open(t, d.Clone(), from, first)
	if w.Last() != x.end()-1 || w.First() > x.first {
		t.Errorf("%s: %d to %d, want %d to %d", what, w.First(), w.Last(), x.first, x.end()-1)
		return
	}
	for i, r := range x.records {
		if b, ok := w.Get(x.first + uint64(i)); !ok || string(b) != r {
			t.Errorf("%s: Get(%d) = %q, %v, want %q", what, x.first+uint64(i), b, ok, r)
		}
	}
}

// P5.3: at most two segments are left, however many there were.
func TestCompactLeavesTwoSegments(t *testing.T) {
	long := strings.Repeat("x", 500)
	for _, x := range []struct {
		name string
		do   func(w *Wal)
	}{
		{"one record", func(w *Wal) { appendAll(t, w, "a") }},
		{"one segment", func(w *Wal) { appendAll(t, w, "a", "b", "c") }},
		{"many segments", func(w *Wal) {
			for range 40 {
				appendAll(t, w, long)
			}
		}},
		{"synced", func(w *Wal) {
			for range 20 {
				appendAll(t, w, long)
				want(t, "Sync", w.Sync(), api.OK)
			}
		}},
		{"truncated, each time further", func(w *Wal) {
			for i := range uint64(10) {
				appendAll(t, w, "a", "b")
				want(t, "Truncate", w.Truncate(i+2), api.OK)
			}
		}},
		{"truncated, back and back", func(w *Wal) {
			for range 8 {
				appendAll(t, w, "a", long)
			}
			for i := range uint64(8) {
				want(t, "Truncate", w.Truncate(16-2*i), api.OK)
			}
		}},
	} {
		d := disk.New(9999)
		// Some were there already, of which one is void.
		lay(t, d, 3, written(1, "one"))
		lay(t, d, 4, nil)
		lay(t, d, 5, written(2, "two"))
		lay(t, d, 8, written(2))
		w := open(t, d, 0, 1)
		x.do(w)
		end := w.Last() + 1
		want(t, x.name+": Compact", w.Compact(end), api.OK)
		wantTells(t, x.name, w, state{end, nil})
		if n := len(segmentsOn(d)); n > 2 {
			t.Errorf("%s: %d segments", x.name, n)
		}
		for p := range 3 {
			wantFound(t, x.name, d.Crash([]int{p, p, p, p}), 0, 1, state{end, nil})
		}
		appendAll(t, w, "z")
		want(t, "Sync", w.Sync(), api.OK)
		wantFound(t, x.name+", appended", d, 0, 1, state{end, []string{"z"}})
	}
}

// P5.3: what is compacted away makes room, and what is truncated does, so that a small disk is enough for many records, one behind the other.
func TestRoomIsGivenBack(t *testing.T) {
	d := disk.New(80)
	w := open(t, d, 0, 1)
	long := strings.Repeat("x", 500)
	for i := range uint64(300) {
		appendAll(t, w, long)
		if i%4 == 3 {
			want(t, "Compact", w.Compact(i+2), api.OK)
		}
	}
	appendAll(t, w, "base")
	for range 300 {
		end := w.Last() + 1
		appendAll(t, w, long, "b")
		want(t, "Truncate", w.Truncate(end), api.OK)
	}
	wantTells(t, "at the end", w, state{301, []string{"base"}})
	// So it does where what was appended is found in half, or as a whole, again and again.
	for i := range 100 {
		w = open(t, d, 0, 1)
		want(t, "Truncate", w.Truncate(302), api.OK)
		appendAll(t, w, long)
		d = d.Crash([]int{1, i % 2, 1, 1, i % 3, 1, 1, 1, 1, 1})
	}
	w = open(t, d, 0, 1)
	want(t, "Truncate", w.Truncate(302), api.OK)
	if b, ok := w.Get(301); !ok || string(b) != "base" || t.Failed() {
		t.Errorf("Get(301) = %q, %v", b, ok)
	}
}

// P5.3: Reset, from what was there and from nothing.
func TestReset(t *testing.T) {
	for _, first := range []uint64{0, 1, 40, two62} {
		for _, count := range []int{0, 1, 50} {
			d := disk.New(9999)
			lay(t, d, 2, written(7, "old"))
			want(t, "Write", d.Write(4, 0, []byte("beside")), api.OK)
			w := open(t, d, 0, 1)
			for range count {
				appendAll(t, w, strings.Repeat("x", 300))
			}
			n := w.Next()
			want(t, "Reset", w.Reset(first), api.OK)
			wantTells(t, "Reset", w, state{first, nil})
			wantNext(t, "Reset", w, n)
			if !slices.Equal(d.Areas(), []uint64{4}) {
				t.Errorf("Reset(%d): areas %d", first, d.Areas())
			}
			x := state{first, nil}
			if first < two62 {
				appendAll(t, w, "new")
				x.records = []string{"new"}
			}
			wantTells(t, "appended", w, x)
			want(t, "Sync", w.Sync(), api.OK)
			// Whatever is said of the first index: the disk says it.
			for _, from := range []uint64{0, n} {
				for _, other := range []uint64{0, 1, first, two62} {
					wantTells(t, "opened again", open(t, d.Clone(), from, other), x)
				}
			}
		}
	}
}

// P5.3
func TestResetWrong(t *testing.T) {
	d := disk.New(99)
	w := open(t, d, 0, 1)
	appendAll(t, w, "a")
	for _, first := range []uint64{two62 + 1, 1 << 63, most} {
		steps := d.Steps()
		want(t, "Reset beyond 2^62", w.Reset(first), api.ErrWalRange)
		wantTells(t, "refused", w, state{1, []string{"a"}})
		if d.Steps() != steps {
			t.Error("a step was made")
		}
	}
	appendAll(t, w, "b")
	wantTells(t, "appended", w, state{1, []string{"a", "b"}})
}

// P5.3, P5.5: Reset twice, with nothing between, and a log that is moved back.
func TestResetAgain(t *testing.T) {
	d := disk.New(99)
	w := open(t, d, 0, 10)
	for _, first := range []uint64{20, 5, 5, 30} {
		want(t, "Reset", w.Reset(first), api.OK)
		wantTells(t, "Reset", w, state{first, nil})
	}
	want(t, "Sync", w.Sync(), api.OK)
	wantFound(t, "synced", d, 0, 10, state{30, nil})
	want(t, "Reset", w.Reset(5), api.OK)
	appendAll(t, w, "a")
	want(t, "Truncate", w.Truncate(5), api.OK)
	want(t, "Sync", w.Sync(), api.OK)
	wantFound(t, "synced", d, 0, 10, state{5, nil})
}

// calls are all that change something, with arguments that are right and such as are not.
func calls(w *Wal) map[string]func() api.Errno {
	return map[string]func() api.Errno{
		"Append":                  func() api.Errno { return w.Append([]byte("x")) },
		"Append of none":          func() api.Errno { return w.Append(nil) },
		"Append, too long":        func() api.Errno { return w.Append(make([]byte, 513)) },
		"Sync":                    func() api.Errno { return w.Sync() },
		"Truncate":                func() api.Errno { return w.Truncate(w.First()) },
		"Truncate at the end":     func() api.Errno { return w.Truncate(w.Last() + 1) },
		"Truncate beyond the end": func() api.Errno { return w.Truncate(w.Last() + 2) },
		"Compact":                 func() api.Errno { return w.Compact(w.Last() + 1) },
		"Compact at the front":    func() api.Errno { return w.Compact(w.First()) },
		"Compact beyond the end":  func() api.Errno { return w.Compact(w.Last() + 2) },
		"Reset":                   func() api.Errno { return w.Reset(3) },
		"Reset beyond 2^62":       func() api.Errno { return w.Reset(two62 + 1) },
	}
}

// wantStuck calls all that changes something: each answers e, and nothing changes, on the disk either.
func wantStuck(t *testing.T, what string, w *Wal, d *disk.Disk, e api.Errno) {
	t.Helper()
	x, next, steps, ahead := tells(t, w), w.Next(), d.Steps(), image(d)
	for name, call := range calls(w) {
		want(t, what+": "+name, call(), e)
	}
	wantTells(t, what, w, x)
	wantNext(t, what, w, next)
	if d.Steps() != steps || image(d) != ahead {
		t.Errorf("%s: the disk has changed", what)
	}
}

// three is a log with three segments, on a disk with so much room.
func three(t *testing.T, room int) (*Wal, *disk.Disk) {
	t.Helper()
	d := disk.New(room)
	lay(t, d, 1, written(1, "a", "b"))
	lay(t, d, 2, written(3, "c"))
	w := open(t, d, 0, 1)
	appendAll(t, w, "d", "e")
	return w, d
}

// P5.3: whichever call it is at which the disk dies, all later ones answer that; and it has changed nothing that is told.
func TestDead(t *testing.T) {
	for name, right := range map[string]bool{
		"Append": true, "Append of none": true, "Sync": true, "Truncate": true, "Compact": true, "Reset": true,
		"Append, too long": false, "Truncate at the end": false, "Truncate beyond the end": false,
		"Compact at the front": false, "Compact beyond the end": false, "Reset beyond 2^62": false,
	} {
		for at := 0; ; at++ {
			w, d := three(t, 99)
			x, next := tells(t, w), w.Next()
			d.Arm(at)
			e := calls(w)[name]()
			if !d.Dead() {
				// What is refused, or has nothing to do, is no step.
				if right != (at > 0) || right && e != api.OK {
					t.Errorf("%s: %d, behind %d steps", name, e, at)
				}
				break
			}
			want(t, name, e, api.ErrDiskDead)
			wantTells(t, name, w, x)
			wantNext(t, name, w, next)
			wantStuck(t, "dead at "+name, w, d, api.ErrDiskDead)
		}
	}
}

// P5.3: a disk that was dead ahead of the call. What is wrong with the argument is said first (R1); it is no error of the disk.
func TestDeadAheadOfIt(t *testing.T) {
	for name, e := range map[string]api.Errno{
		"Append": api.ErrDiskDead, "Append of none": api.ErrDiskDead, "Append, too long": api.ErrWalLong,
		"Sync": api.ErrDiskDead, "Truncate": api.ErrDiskDead, "Truncate beyond the end": api.ErrWalRange,
		"Compact": api.ErrDiskDead, "Compact beyond the end": api.ErrWalRange,
		"Reset": api.ErrDiskDead, "Reset beyond 2^62": api.ErrWalRange,
	} {
		w, d := three(t, 99)
		kill(t, d)
		x := tells(t, w)
		want(t, name, calls(w)[name](), e)
		wantTells(t, name, w, x)
		want(t, "Append", w.Append(nil), api.ErrDiskDead)
		wantStuck(t, "dead ahead of "+name, w, d, api.ErrDiskDead)
	}
	// A log with no segment has nothing to sync, and says so all the same.
	d := disk.New(9)
	w := open(t, d, 0, 1)
	kill(t, d)
	want(t, "Sync of nothing", w.Sync(), api.ErrDiskDead)
	wantStuck(t, "nothing", w, d, api.ErrDiskDead)
}

// P5.3, R2: a full disk refuses a record as a whole, and all that comes behind; what was there is there.
func TestFull(t *testing.T) {
	for room := range 60 {
		d := disk.New(room)
		w := open(t, d, 0, 1)
		x := state{first: 1}
		for n := 0; ; n = (n + 97) % 513 {
			r := bytes.Repeat([]byte{byte(n)}, n)
			steps, ahead, lasts := d.Steps(), image(d), image(d.Crash(nil))
			next := w.Next()
			e := w.Append(r)
			if e == api.OK {
				x.records = append(x.records, string(r))
				continue
			}
			want(t, "Append", e, api.ErrDiskFull)
			if d.Steps() != steps || image(d) != ahead || image(d.Crash(nil)) != lasts {
				t.Errorf("room %d: what was refused has changed the disk", room)
			}
			wantNext(t, "full", w, next)
			break
		}
		wantTells(t, "full", w, x)
		wantStuck(t, "full", w, d, api.ErrDiskFull)
		wantFound(t, "opened again", d, 0, 1, x)
		for p := range 9 {
			checkFound(t, "full", d.Crash([]int{p % 3, p / 3, p % 2, 1}), 0, 1, beginnings(x))
		}
		if len(x.records) > 0 {
			goOnFull(t, open(t, d, 0, 1), d, x)
		}
	}
}

// beginnings are what x was while its records were appended.
func beginnings(x state) []state {
	var all []state
	for n := range len(x.records) + 1 {
		all = append(all, state{x.first, x.records[:n]})
	}
	return all
}

// goOnFull opens a full disk anew: Compact asks for no room, and gives some back if there are several segments.
func goOnFull(t *testing.T, w *Wal, d *disk.Disk, x state) {
	t.Helper()
	several := len(segmentsOn(d)) > 1
	want(t, "Compact of a full disk", w.Compact(x.end()), api.OK)
	x = state{x.end(), nil}
	if several {
		appendAll(t, w, "more")
		x.records = []string{"more"}
		want(t, "Sync", w.Sync(), api.OK)
	}
	wantFound(t, "went on", d, 0, 1, x)
}

// P5.3: a Truncate, and a Sync behind a Reset, that a full disk refuses.
func TestFullOtherwise(t *testing.T) {
	w, d := three(t, 3)
	want(t, "Truncate", w.Truncate(2), api.ErrDiskFull)
	wantTells(t, "refused", w, state{1, []string{"a", "b", "c", "d", "e"}})
	wantStuck(t, "Truncate", w, d, api.ErrDiskFull)

	d = disk.New(1)
	w = open(t, d, 0, 1)
	want(t, "Reset", w.Reset(9), api.OK)
	want(t, "Write", d.Write(0, 0, nil), api.OK)
	want(t, "Sync", w.Sync(), api.ErrDiskFull)
	wantStuck(t, "Sync", w, d, api.ErrDiskFull)
	// Dead is said ahead of full.
	d = disk.New(0)
	w = open(t, d, 0, 1)
	kill(t, d)
	want(t, "Append", w.Append(nil), api.ErrDiskDead)
}

// P5.4: no segment is begun that Open would refuse, for then all would be lost.
func TestNoNumberLeft(t *testing.T) {
	d := disk.New(99)
	w := open(t, d, two60, 1)
	for range 2 {
		want(t, "Append", w.Append([]byte("a")), api.ErrWalRange)
		wantTells(t, "no number", w, state{1, nil})
		wantNext(t, "no number", w, two60)
		want(t, "Sync", w.Sync(), api.OK)
	}
	if len(d.Areas()) != 0 {
		t.Errorf("areas %d", d.Areas())
	}

	w = open(t, d, two60-1, 1)
	appendAll(t, w, "a", "b")
	want(t, "Truncate", w.Truncate(2), api.ErrWalRange)
	appendAll(t, w, "c")
	want(t, "Sync", w.Sync(), api.OK)
	x := state{1, []string{"a", "b", "c"}}
	wantTells(t, "the last number", w, x)
	wantFound(t, "opened again", d, two60-1, 1, x)
	want(t, "Compact", w.Compact(3), api.OK)
	want(t, "Reset", w.Reset(7), api.OK)
	want(t, "Sync of what no segment says", w.Sync(), api.ErrWalRange)
	wantTells(t, "Reset", w, state{7, nil})
}

// R5, R6: what is handed in stays as it was, and is not kept; what is told is the caller's own.
func TestNothingIsShared(t *testing.T) {
	d := disk.New(99)
	w := open(t, d, 0, 1)
	b := make([]byte, 3, 60)
	copy(b, "abc")
	want(t, "Append", w.Append(b), api.OK)
	if string(b[:60]) != "abc"+string(make([]byte, 57)) {
		t.Errorf("what was handed in has changed: %q", b[:60])
	}
	b[0] = 'x'
	_ = append(b, 'y')
	want(t, "Append", w.Append(b), api.OK)
	b[0] = 'z'
	x := state{1, []string{"abc", "xbc"}}
	wantTells(t, "written into what was handed in", w, x)
	want(t, "Sync", w.Sync(), api.OK)
	wantFound(t, "written into what was handed in", d, 0, 1, x)
	for _, u := range []*Wal{w, open(t, d.Clone(), 0, 1)} {
		got, _ := u.Get(1)
		other, _ := u.Get(1)
		got[1] = 'x'
		_ = append(got, "yyyyyyyy"...)
		wantTells(t, "written into what was told", u, x)
		if string(other) != "abc" {
			t.Errorf("what was told twice is one: %q", other)
		}
		want(t, "Append of what was told", u.Append(got), api.OK)
		got[0] = 'q'
		wantTells(t, "appended", u, state{1, []string{"abc", "xbc", "axc"}})
		// What was told stays, whatever goes then.
		want(t, "Truncate", u.Truncate(1), api.OK)
		appendAll(t, u, "new")
		if string(got) != "qxc" || string(other) != "abc" {
			t.Errorf("what was told has changed: %q, %q", got, other)
		}
	}
}

// The other areas are somebody else's: they are neither read nor changed, nor do they last by what the log does.
func TestOtherAreas(t *testing.T) {
	d := disk.New(999)
	areas := []uint64{0, 2, 3, 4, 6, 7, 8, 10, 11, 12, most, most - 1, most - 3}
	for _, area := range areas {
		want(t, "Write", d.Write(area, 0, written(77, "x")), api.OK)
	}
	w := open(t, d, 0, 1)
	wantTells(t, "nothing of the log's", w, state{1, nil})
	want(t, "Sync", w.Sync(), api.OK)
	for range 30 {
		appendAll(t, w, strings.Repeat("x", 200))
		want(t, "Sync", w.Sync(), api.OK)
	}
	want(t, "Truncate", w.Truncate(20), api.OK)
	want(t, "Sync", w.Sync(), api.OK)
	want(t, "Compact", w.Compact(18), api.OK)
	want(t, "Reset", w.Reset(5), api.OK)
	want(t, "Sync", w.Sync(), api.OK)
	appendAll(t, w, "x")
	want(t, "Sync", w.Sync(), api.OK)
	for _, area := range areas {
		if b, ok := d.Read(area, 0); !ok || !bytes.Equal(b[:5], append(written(77, "x"), 0, 0)) {
			t.Errorf("area %d: %x, %v", area, b, ok)
		}
		if _, ok := d.Crash(nil).Read(area, 0); ok {
			t.Errorf("area %d lasts", area)
		}
	}
}

// P5.1: the disk is kept, not a copy of it; two disks go their own ways.
func TestTwoDisks(t *testing.T) {
	d := disk.New(99)
	w := open(t, d, 0, 1)
	appendAll(t, w, "a")
	c := d.Clone()
	appendAll(t, w, "b")
	v := open(t, c, 0, 1)
	appendAll(t, v, "c", "d")
	want(t, "Sync", w.Sync(), api.OK)
	want(t, "Sync", v.Sync(), api.OK)
	wantFound(t, "one", d, 0, 1, state{1, []string{"a", "b"}})
	wantFound(t, "the other one", c, 0, 1, state{1, []string{"a", "c", "d"}})
}
