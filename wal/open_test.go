package wal

import (
	"bytes"
	"encoding/binary"
	"math/rand"
	"slices"
	"strings"
	"testing"

	"abecedary/api"
	"abecedary/disk"
)

// found is what Open has to find on a disk, worked out by the chapter's words with the library's means.
type found struct {
	e           api.Errno
	state       state
	next        uint64
	kept, freed []uint64 // areas
}

// saidText is the text of an area.
func saidText(d *disk.Disk, area uint64) []byte {
	var text []byte
	for sector := 0; ; sector++ {
		b, ok := d.Read(area, sector)
		if !ok {
			return text
		}
		if b[0] < 63 {
			return append(text, b[1:1+b[0]]...)
		}
		text = append(text, b[1:]...)
	}
}

// saidUint is the uint at the front of b, and its size; 0 if there is none.
func saidUint(b []byte) (uint64, int) {
	n, size := binary.Uvarint(b)
	if size <= 0 || !bytes.Equal(binary.AppendUvarint(nil, n), b[:size]) {
		return 0, 0
	}
	return n, size
}

// saidSegment is what a segment says; false if it is void.
func saidSegment(d *disk.Disk, area uint64) (state, bool) {
	text := saidText(d, area)
	index, size := saidUint(text)
	if size == 0 || index > two62 {
		return state{}, false
	}
	s := state{first: index}
	for {
		text = text[size:]
		var n uint64
		n, size = saidUint(text)
		if size == 0 || n > 512 || n > uint64(len(text)-size) {
			return s, true
		}
		s.records = append(s.records, string(text[size:size+int(n)]))
		size += int(n)
	}
}

func refused(e api.Errno) found {
	return found{e: e}
}

// look works out what Open has to find.
func look(d *disk.Disk, from, first uint64) found {
	if d.Dead() {
		return refused(api.ErrDiskDead)
	}
	f := found{state: state{first: first}, next: from}
	log := map[uint64]string{}
	last := first - 1
	for _, area := range segmentsOn(d) {
		n := (area - 1) / 4
		f.next = max(f.next, n+1)
		if n >= two60 {
			return refused(api.ErrWalForm)
		}
		s, ok := saidSegment(d, area)
		if !ok || n < from {
			f.freed = append(f.freed, area)
			continue
		}
		if len(f.kept) == 0 || s.first < f.state.first {
			f.state.first = s.first
		} else if s.first > last+1 {
			return refused(api.ErrWalForm)
		}
		f.kept = append(f.kept, area)
		// What stood at these indices is written over; what stood behind them is not asked for any more.
		last = s.first - 1
		for _, r := range s.records {
			last++
			log[last] = r
			if last == two62 {
				return refused(api.ErrWalForm)
			}
		}
	}
	if from > two60 || first > two62 {
		return refused(api.ErrWalForm)
	}
	for i := f.state.first; i != last+1; i++ {
		f.state.records = append(f.state.records, log[i])
	}
	return f
}

// checkOpen holds Open against look, and all that it does to the disk.
func checkOpen(t *testing.T, what string, d *disk.Disk, from, first uint64) {
	t.Helper()
	f := look(d, from, first)
	if f.e != api.OK {
		refuse(t, what, d, from, first, f.e)
		return
	}
	c := d.Clone()
	w, e := Open(c, from, first)
	if e != api.OK || w == nil {
		t.Errorf("%s: Open(%d, %d): %v, %d", what, from, first, w, e)
		return
	}
	wantTells(t, what, w, f.state)
	wantNext(t, what, w, f.next)
	if !slices.Equal(segmentsOn(c), f.kept) || c.Steps()-d.Steps() != len(f.kept)+len(f.freed) {
		t.Errorf("%s: segments %d, want %d, with %d steps", what, segmentsOn(c), f.kept, c.Steps()-d.Steps())
	}
	// What is kept is as it was, and lasts; what is not a segment is as it was, and does not.
	if image(c) != without(d, f.freed) {
		t.Errorf("%s: what is kept has changed", what)
	}
	for _, area := range f.kept {
		if of(c.Crash(nil), area) != of(d, area) {
			t.Errorf("%s: area %d does not last", what, area)
		}
	}
	checkOpenSteps(t, what, d, from, first, f)
}

// of is the image of one area.
func of(d *disk.Disk, area uint64) string {
	c := d.Clone()
	for _, other := range c.Areas() {
		if other != area {
			c.Free(other)
		}
	}
	return image(c)
}

// without is the image of d without some areas.
func without(d *disk.Disk, areas []uint64) string {
	c := d.Clone()
	for _, area := range areas {
		c.Free(area)
	}
	return image(c)
}

// checkOpenSteps lets the disk die at each step of Open: the segments are freed and synced one by one, rising.
func checkOpenSteps(t *testing.T, what string, d *disk.Disk, from, first uint64, f found) {
	t.Helper()
	all := slices.Sorted(slices.Values(slices.Concat(f.kept, f.freed)))
	for at := range all {
		c, x := d.Clone(), d.Clone()
		c.Arm(at)
		if w, e := Open(c, from, first); w != nil || e != api.ErrDiskDead {
			t.Errorf("%s: dead at step %d of Open: %v, %d", what, at, w, e)
		}
		for _, area := range all[:at] {
			if slices.Contains(f.freed, area) {
				x.Free(area)
			} else {
				x.Sync(area)
			}
		}
		if image(c) != image(x) || image(c.Crash(nil)) != image(x.Crash(nil)) {
			t.Errorf("%s: dead at step %d of Open: not what was done up to it", what, at)
		}
	}
}

// P5.1: segments one behind the other, and what each says of those ahead.
func TestOpenGoesThrough(t *testing.T) {
	abc := []string{"a", "b", "c"}
	for _, x := range []struct {
		name  string
		texts [][]byte // of the segments 0, 1 and so on; nil: it is void
		from  uint64
		want  state
		e     api.Errno
	}{
		{"none", nil, 0, state{9, nil}, api.OK},
		{"one", [][]byte{written(5, abc...)}, 0, state{5, abc}, api.OK},
		{"one without records", [][]byte{written(5)}, 0, state{5, nil}, api.OK},
		{"one of the index 0", [][]byte{written(0, abc...)}, 0, state{0, abc}, api.OK},
		{"right behind", [][]byte{written(5, abc...), written(8, "d")}, 0, state{5, []string{"a", "b", "c", "d"}}, api.OK},
		{"right behind, without records", [][]byte{written(5, abc...), written(8)}, 0, state{5, abc}, api.OK},
		{"a gap", [][]byte{written(5, abc...), written(9, "d")}, 0, state{}, api.ErrWalForm},
		{"a gap behind none", [][]byte{written(5), written(6, "d")}, 0, state{}, api.ErrWalForm},
		{"a gap, without records", [][]byte{written(5, abc...), written(9)}, 0, state{}, api.ErrWalForm},
		{"a great gap", [][]byte{written(5, abc...), written(two62)}, 0, state{}, api.ErrWalForm},
		{"within", [][]byte{written(5, abc...), written(6, "x")}, 0, state{5, []string{"a", "x"}}, api.OK},
		{"within, longer", [][]byte{written(5, abc...), written(6, "x", "y", "z")}, 0, state{5, []string{"a", "x", "y", "z"}}, api.OK},
		{"at the last one", [][]byte{written(5, abc...), written(7, "x")}, 0, state{5, []string{"a", "b", "x"}}, api.OK},
		{"at the first one", [][]byte{written(5, abc...), written(5, "x")}, 0, state{5, []string{"x"}}, api.OK},
		{"at the first one, without records", [][]byte{written(5, abc...), written(5)}, 0, state{5, nil}, api.OK},
		{"below the first one", [][]byte{written(5, abc...), written(4, "x")}, 0, state{4, []string{"x"}}, api.OK},
		{"far below the first one", [][]byte{written(5, abc...), written(0, "x")}, 0, state{0, []string{"x"}}, api.OK},
		{"below the first one, far longer", [][]byte{written(5, "a"), written(4, "w", "x", "y", "z")}, 0, state{4, []string{"w", "x", "y", "z"}}, api.OK},
		{"below, without records", [][]byte{written(5, abc...), written(2)}, 0, state{2, nil}, api.OK},
		{"below, then behind the first one", [][]byte{written(5, abc...), written(2, "x"), written(8)}, 0, state{}, api.ErrWalForm},
		{"below, then right behind", [][]byte{written(5, abc...), written(2, "x"), written(3, "y")}, 0, state{2, []string{"x", "y"}}, api.OK},
		{"below, then within the first one only", [][]byte{written(5, abc...), written(2, "x"), written(6, "y")}, 0, state{}, api.ErrWalForm},
		{"within, then a gap that was none", [][]byte{written(5, abc...), written(6), written(8, "d")}, 0, state{}, api.ErrWalForm},
		{"within, then right behind", [][]byte{written(5, abc...), written(6), written(6, "d")}, 0, state{5, []string{"a", "d"}}, api.OK},
		{"void ones between", [][]byte{nil, written(5, abc...), nil, written(8, "d"), nil}, 0, state{5, []string{"a", "b", "c", "d"}}, api.OK},
		{"void ones only", [][]byte{nil, nil}, 0, state{9, nil}, api.OK},
		{"from the second one", [][]byte{written(5, abc...), written(8, "d")}, 1, state{8, []string{"d"}}, api.OK},
		{"from behind a gap", [][]byte{written(5, abc...), written(9, "d")}, 1, state{9, []string{"d"}}, api.OK},
		{"from the first one", [][]byte{written(5, abc...), written(9, "d")}, 0, state{}, api.ErrWalForm},
		{"from behind them all", [][]byte{written(5, abc...), written(8, "d")}, 2, state{9, nil}, api.OK},
		{"from far behind", [][]byte{written(5, abc...), written(8, "d")}, two60, state{9, nil}, api.OK},
	} {
		for _, lasts := range []bool{true, false} {
			d := disk.New(99)
			for n, text := range x.texts {
				write(t, d, uint64(n), text)
				if lasts {
					want(t, "Sync", d.Sync(4*uint64(n)+1), api.OK)
				}
			}
			// What the test looks for itself is what it wants, too.
			if f := look(d, x.from, 9); f.e != x.e || f.state.first != x.want.first || !slices.Equal(f.state.records, x.want.records) {
				t.Errorf("%s: the test looks wrong: %v", x.name, f)
			}
			checkOpen(t, x.name, d, x.from, 9)
		}
	}
}

// P5.1: arguments and numbers at the bounds and beyond.
func TestOpenRefuses(t *testing.T) {
	for _, x := range []struct {
		number, from, first uint64
		e                   api.Errno
	}{
		{3, 0, 1, api.OK},
		{3, two60, 1, api.OK},
		{3, two60 + 1, 1, api.ErrWalForm},
		{3, most, 1, api.ErrWalForm},
		{3, 0, two62, api.OK},
		{3, 0, two62 + 1, api.ErrWalForm},
		{3, 0, most, api.ErrWalForm},
		{3, most, most, api.ErrWalForm},
		{two60 - 1, 0, 1, api.OK},
		{two60 - 1, two60 - 1, 1, api.OK},
		{two60 - 1, two60, 1, api.OK},
		{two60 - 1, two60 + 1, 1, api.ErrWalForm},
		{two60, 0, 1, api.ErrWalForm},
		{two60, two60, 1, api.ErrWalForm},
		{two60 + 1, 0, 1, api.ErrWalForm},
		{two62 - 1, 0, 1, api.ErrWalForm},
	} {
		for _, text := range [][]byte{written(4, "a"), nil} {
			d := disk.New(9)
			lay(t, d, x.number, text)
			if f := look(d, x.from, x.first); f.e != x.e {
				t.Errorf("%v: the test looks wrong: %d", x, f.e)
			}
			checkOpen(t, "at the bounds", d, x.from, x.first)
		}
	}
	// A segment is there where it has any sector.
	d := disk.New(9)
	want(t, "Write", d.Write(4*two60+1, 7, nil), api.OK)
	refuse(t, "a sector far behind", d, 0, 1, api.ErrWalForm)
	// On an empty disk too.
	refuse(t, "empty", disk.New(9), two60+1, 1, api.ErrWalForm)
	refuse(t, "empty", disk.New(9), 0, two62+1, api.ErrWalForm)
}

// P5.1: a dead disk, whatever else is wrong.
func TestOpenDead(t *testing.T) {
	for _, x := range []struct{ from, first uint64 }{{0, 1}, {two60, two62}, {two60 + 1, 1}, {0, two62 + 1}, {most, most}} {
		d := disk.New(9)
		lay(t, d, 0, written(1, "a"))
		lay(t, d, 1, written(9, "a"))
		lay(t, d, two60, nil)
		kill(t, d)
		refuse(t, "dead", d, x.from, x.first, api.ErrDiskDead)
	}
}

// P5.1: a record that would have the index 2^62.
func TestOpenLastIndex(t *testing.T) {
	for _, x := range []struct {
		name  string
		texts [][]byte
		e     api.Errno
	}{
		{"the last one", [][]byte{written(two62-1, "a")}, api.OK},
		{"one more", [][]byte{written(two62-1, "a", "b")}, api.ErrWalForm},
		{"many more", [][]byte{written(two62-1, "a", "b", "c", "d")}, api.ErrWalForm},
		{"none at 2^62", [][]byte{written(two62)}, api.OK},
		{"one at 2^62", [][]byte{written(two62, "a")}, api.ErrWalForm},
		{"one of no byte at 2^62", [][]byte{written(two62, "")}, api.ErrWalForm},
		{"half a one at 2^62", [][]byte{append(written(two62), 5, 'a')}, api.OK},
		{"an index above 2^62: void", [][]byte{written(two62+1, "a")}, api.OK},
		{"the greatest index: void", [][]byte{written(most, "a")}, api.OK},
		{"over two segments", [][]byte{written(two62-2, "a"), written(two62-1, "b")}, api.OK},
		{"one more, over two", [][]byte{written(two62-2, "a", "b"), written(two62, "c")}, api.ErrWalForm},
		{"cut, and no more", [][]byte{written(two62-2, "a", "b"), written(two62-1, "c")}, api.OK},
		{"one more, which a further one would let go", [][]byte{written(two62-1, "a", "b"), written(5, "c")}, api.ErrWalForm},
		{"none behind the last one", [][]byte{written(two62-1, "a"), written(two62)}, api.OK},
	} {
		d := disk.New(9)
		for n, text := range x.texts {
			lay(t, d, uint64(n), text)
		}
		if f := look(d, 0, 1); f.e != x.e {
			t.Errorf("%s: the test looks wrong: %d", x.name, f.e)
		}
		checkOpen(t, x.name, d, 0, 1)
	}
}

// sectorsOf is a disk with these sectors in the segment 0; nil: it is not there.
func sectorsOf(t *testing.T, sectors ...[]byte) *disk.Disk {
	t.Helper()
	d := disk.New(99)
	for i, b := range sectors {
		if b != nil {
			want(t, "Write", d.Write(1, i, b), api.OK)
		}
	}
	return d
}

// full is a sector with 63 bytes and what its first one says.
func full(says byte, text string) []byte {
	return append([]byte{says}, (text + strings.Repeat("-", 63))[:63]...)
}

// P5.1: which bytes are a segment's text, and which records it has.
func TestOpenText(t *testing.T) {
	long := strings.Repeat("r", 100)
	for _, x := range []struct {
		name string
		d    *disk.Disk
		want state // with the first index 9: it is void
	}{
		{"no byte used", sectorsOf(t, []byte{0, 5, 1, 'a'}), state{9, nil}},
		{"the index only", sectorsOf(t, []byte{1, 5, 1, 'a'}), state{5, nil}},
		{"half a record", sectorsOf(t, []byte{2, 5, 1, 'a'}), state{5, nil}},
		{"a record", sectorsOf(t, []byte{3, 5, 1, 'a'}), state{5, []string{"a"}}},
		{"a record of no byte behind it", sectorsOf(t, []byte{4, 5, 1, 'a'}), state{5, []string{"a", ""}}},
		{"half an index", sectorsOf(t, []byte{1, 0x85, 1}), state{9, nil}},
		{"an index of two bytes", sectorsOf(t, []byte{2, 0x85, 1}), state{133, nil}},
		{"an index that is no uint", sectorsOf(t, []byte{3, 0x85, 0, 0}), state{9, nil}},
		{"a length that is no uint", sectorsOf(t, []byte{7, 5, 1, 'a', 0x81, 0, 'b', 'c'}), state{5, []string{"a"}}},
		{"half a length", sectorsOf(t, []byte{4, 5, 1, 'a', 0x81}), state{5, []string{"a"}}},
		{"no sector 0", sectorsOf(t, nil, []byte{3, 5, 1, 'a'}), state{9, nil}},
		{"a sector that uses no byte", sectorsOf(t, full(0, ""), []byte{3, 5, 1, 'a'}), state{9, nil}},
		{"the sector 1 is not looked at", sectorsOf(t, []byte{3, 5, 1, 'a'}, []byte{2, 1, 'b'}), state{5, []string{"a"}}},
		{"62 bytes are not all", sectorsOf(t, full(62, "\x05\x3c"+long), []byte{2, 1, 'b'}), state{5, []string{long[:60]}}},
		{"63 bytes are all", sectorsOf(t, full(63, "\x05\x3d"+long), []byte{2, 1, 'b'}), state{5, []string{long[:61], "b"}}},
		{"64 counts as 63", sectorsOf(t, full(64, "\x05\x3d"+long), []byte{2, 1, 'b'}), state{5, []string{long[:61], "b"}}},
		{"255 counts as 63", sectorsOf(t, full(255, "\x05\x3d"+long), full(128, "\x01b\x3c"+long), []byte{2, 1, 'c'}), state{5, []string{long[:61], "b", long[:60], "c"}}},
		{"over two sectors", sectorsOf(t, full(63, "\x05\x64"+long), append([]byte{39}, long[:39]...)), state{5, []string{long}}},
		{"over two sectors, a byte less", sectorsOf(t, full(63, "\x05\x64"+long), append([]byte{38}, long[:38]...)), state{5, nil}},
		{"over two sectors, of which one is not there", sectorsOf(t, full(63, "\x05\x64"+long), nil, append([]byte{39}, long[:39]...)), state{5, nil}},
		{"the second sector is not there", sectorsOf(t, full(63, "\x05\x3d"+long), nil, []byte{2, 1, 'b'}), state{5, []string{long[:61]}}},
		{"the second sector uses none", sectorsOf(t, full(63, "\x05\x3d"+long), []byte{0, 1, 'b'}, []byte{2, 1, 'b'}), state{5, []string{long[:61]}}},
	} {
		if f := look(x.d, 0, 9); f.state.first != x.want.first || !slices.Equal(f.state.records, x.want.records) {
			t.Errorf("%s: the test looks wrong: %v", x.name, f)
		}
		checkOpen(t, x.name, x.d, 0, 9)
	}
}

// P5.1: a record of more than MaxRecord bytes is none, and nothing behind it is one.
func TestOpenLongRecords(t *testing.T) {
	for _, n := range []int{511, 512, 513, 514, 600, 70000} {
		d := disk.New(9999)
		lay(t, d, 0, written(5, "a", strings.Repeat("x", n), "b"))
		x := state{5, []string{"a"}}
		if n <= 512 {
			x.records = append(x.records, strings.Repeat("x", n), "b")
		}
		wantTells(t, "long records", open(t, d.Clone(), 0, 1), x)
		checkOpen(t, "long records", d, 0, 1)
	}
}

// P5.1: a segment of all the sectors that an area has.
func TestOpenLongestSegment(t *testing.T) {
	d := disk.New(api.MaxArea)
	text := binary.AppendUvarint(nil, 5)
	for len(text)+513 < api.MaxArea*63 {
		text = append(binary.AppendUvarint(text, 510), bytes.Repeat([]byte{'x'}, 510)...)
	}
	text = append(text, bytes.Repeat([]byte{0}, api.MaxArea*63-len(text))...)
	lay(t, d, 0, text)
	f := look(d, 0, 1)
	w := open(t, d, 0, 1)
	if w.First() != 5 || w.Last() != f.state.end()-1 || len(f.state.records) < 8000 {
		t.Errorf("%d to %d, want %d to %d", w.First(), w.Last(), f.state.first, f.state.end()-1)
	}
}

// P5.1: a log that was opened goes on behind what was there, whatever that is: a torn record, sectors behind the text, a void segment.
func TestGoOnBehindWhatWasThere(t *testing.T) {
	long := strings.Repeat("r", 100)
	for name, d := range map[string]*disk.Disk{
		"a torn record":            sectorsOf(t, []byte{5, 5, 1, 'a', 9, 'b'}),
		"sectors behind the text":  sectorsOf(t, []byte{3, 5, 1, 'a'}, full(63, "\x01z"), []byte{2, 1, 'y'}),
		"a torn one, and a sector": sectorsOf(t, full(63, "\x05\x01a\x64"+long), nil, full(40, long)),
		"63 bytes, and no more":    sectorsOf(t, full(63, "\x05\x01a\x3b"+long)),
		"void":                     sectorsOf(t, nil, []byte{1, 5}),
	} {
		w := open(t, d, 0, 5)
		x := tells(t, w)
		for n := range 20 {
			r := strings.Repeat("n", n*20)
			appendAll(t, w, r)
			x.records = append(x.records, r)
		}
		wantTells(t, name, w, x)
		want(t, "Sync", w.Sync(), api.OK)
		wantFound(t, name, d, 0, 5, x)
	}
}

// someText is a segment's text, or something like it.
func someText(r *rand.Rand, indices int) []byte {
	var records []string
	for range r.Intn(4) {
		records = append(records, strings.Repeat(string(rune('a'+r.Intn(26))), r.Intn(3)*r.Intn(60)))
	}
	text := written(uint64(r.Intn(indices)), records...)
	switch r.Intn(8) {
	case 0:
		text = text[:r.Intn(len(text))]
	case 1:
		text[r.Intn(len(text))] ^= 1 << r.Intn(8)
	case 2:
		text = append(text, byte(r.Intn(256)))
	}
	return text
}

// P5.1: disks with all kinds of segments, held against what the test looks for itself.
func TestOpenManyDisks(t *testing.T) {
	r := rand.New(rand.NewSource(5))
	good := 0
	for i := range 6000 {
		d := disk.New(999)
		for number := range uint64(1 + r.Intn(6)) {
			if r.Intn(4) == 0 {
				continue
			}
			write(t, d, number, someText(r, 2+i%7))
			if r.Intn(4) == 0 {
				want(t, "Write", d.Write(4*number+1, r.Intn(4), []byte{byte(r.Intn(256)), byte(r.Intn(3)), 1, 'x'}), api.OK)
			}
			if r.Intn(2) == 0 {
				want(t, "Sync", d.Sync(4*number+1), api.OK)
			}
			want(t, "Write", d.Write(4*number+uint64(r.Intn(3))+2, 0, []byte{3, 1, 1, 'x'}), api.OK)
		}
		from := uint64(max(0, r.Intn(8)-3))
		if f := look(d, from, 3); f.e == api.OK && len(f.kept) > 1 {
			good++
		}
		checkOpen(t, "some disk", d, from, 3)
		if t.Failed() {
			t.Fatalf("disk %d, from %d: %x", i, from, image(d))
		}
	}
	if good < 1000 {
		t.Errorf("%d disks with several segments are too few", good)
	}
}
