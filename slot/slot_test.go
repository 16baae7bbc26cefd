package slot

import (
	"bytes"
	"encoding/binary"
	"hash/crc32"
	"math"
	"slices"
	"strings"
	"testing"

	"abecedary/api"
	"abecedary/disk"
)

const most = math.MaxUint64

// said is what a slot tells.
type said struct {
	number uint64
	value  string
}

func tells(s *Slot) said {
	return said{s.Number(), string(s.Value())}
}

func want(t *testing.T, what string, got, e api.Errno) {
	t.Helper()
	if got != e {
		t.Errorf("%s: %d, want %d", what, got, e)
	}
}

func wantTells(t *testing.T, what string, s *Slot, x said) {
	t.Helper()
	if got := tells(s); got != x {
		t.Errorf("%s: %d %q, want %d %q", what, got.number, got.value, x.number, x.value)
	}
}

// open opens what has to be openable.
func open(t *testing.T, d *disk.Disk, area uint64) *Slot {
	t.Helper()
	s, e := Open(d, area)
	if e != api.OK || s == nil {
		t.Fatalf("Open(%d): %v, %d", area, s, e)
	}
	return s
}

func wantOpen(t *testing.T, what string, d *disk.Disk, area uint64, x said) {
	t.Helper()
	wantTells(t, what, open(t, d, area), x)
}

// sumOf is the sum of chapter 2, by the library's means.
func sumOf(b []byte) uint32 {
	return crc32.Checksum(b, crc32.MakeTable(crc32.Castagnoli))
}

// written is a sector as the chapter tells it, made by the library's means: size is what its byte says, whatever value has.
func written(number uint64, size byte, value string) []byte {
	b := binary.LittleEndian.AppendUint64(nil, number)
	b = append(append(b, size), value...)
	b = append(b, make([]byte, 60-len(b))...)
	return binary.LittleEndian.AppendUint32(b, sumOf(b))
}

func rightSector(x said) []byte {
	return written(x.number, byte(len(x.value)), x.value)
}

// put lays b down, so that it lasts.
func put(t *testing.T, d *disk.Disk, area uint64, sector int, b []byte) {
	t.Helper()
	want(t, "Write", d.Write(area, sector, b), api.OK)
	want(t, "Sync", d.Sync(area), api.OK)
}

func wantSector(t *testing.T, d *disk.Disk, area uint64, sector int, b []byte) {
	t.Helper()
	if got, ok := d.Read(area, sector); !ok || !bytes.Equal(got, b) {
		t.Errorf("Read(%d, %d) = %x, %v, want %x", area, sector, got, ok, b)
	}
}

func wantNoSector(t *testing.T, d *disk.Disk, area uint64, sector int) {
	t.Helper()
	if got, ok := d.Read(area, sector); ok {
		t.Errorf("Read(%d, %d) = %x, want none", area, sector, got)
	}
}

// The chapter's examples.
func TestExamples(t *testing.T) {
	d := disk.New(9)
	s := open(t, d, 9)
	wantTells(t, "an empty disk", s, said{0, ""})
	want(t, "Save", s.Save([]byte("a")), api.OK)
	wantNoSector(t, d, 9, 0)
	wantSector(t, d, 9, 1, rightSector(said{1, "a"}))
	want(t, "Save", s.Save([]byte("bc")), api.OK)
	wantTells(t, "behind two", s, said{2, "bc"})
	wantSector(t, d, 9, 0, rightSector(said{2, "bc"}))
	wantSector(t, d, 9, 1, rightSector(said{1, "a"}))
	want(t, "Save of 49 bytes", s.Save(make([]byte, 49)), api.ErrSlotLong)
	wantTells(t, "behind a long one", s, said{2, "bc"})
}

// The example of the whole: a slot is saved, and the disk dies at the write.
func TestExampleOfTheWhole(t *testing.T) {
	for pick, x := range []said{{1, "old"}, {2, "new"}} {
		d := disk.New(9)
		s := open(t, d, 3)
		want(t, "Save", s.Save([]byte("old")), api.OK)
		d.Arm(0)
		want(t, "Save", s.Save([]byte("new")), api.ErrDiskDead)
		wantTells(t, "behind it", s, said{1, "old"})
		wantOpen(t, "found", d.Crash([]int{pick}), 3, x)
	}
}

// P4.2: a sector byte by byte, written out, so that nothing is taken on trust.
func TestSectorByBytes(t *testing.T) {
	b := make([]byte, 64)
	b[0], b[8], b[9] = 1, 1, 'a'
	// The sum, byte by byte as chapter 2 tells it.
	sum := ^uint32(0)
	for _, c := range b[:60] {
		sum ^= uint32(c)
		for range 8 {
			if sum&1 == 1 {
				sum = sum>>1 ^ 0x82f63b78
			} else {
				sum >>= 1
			}
		}
	}
	for i := range 4 {
		b[60+i] = byte(^sum >> (8 * i))
	}
	if !bytes.Equal(b, rightSector(said{1, "a"})) {
		t.Fatalf("the test's own sector is wrong: %x, want %x", rightSector(said{1, "a"}), b)
	}
	d := disk.New(2)
	want(t, "Save", open(t, d, 0).Save([]byte("a")), api.OK)
	wantSector(t, d, 0, 1, b)
}

// P4.1: which of both sectors it is.
func TestOpenWhichSector(t *testing.T) {
	long := strings.Repeat("z", api.MaxSlot)
	for _, x := range []struct {
		zero, one said // the number 0: the sector is not there
		want      said
	}{
		{said{}, said{}, said{}},
		{said{2, "b"}, said{}, said{2, "b"}},
		{said{}, said{1, "a"}, said{1, "a"}},
		{said{2, "b"}, said{1, "a"}, said{2, "b"}},
		{said{2, "b"}, said{3, "c"}, said{3, "c"}},
		{said{2, ""}, said{1, "a"}, said{2, ""}},
		{said{2, "b"}, said{3, ""}, said{3, ""}},
		{said{2, long}, said{1, "a"}, said{2, long}},
		{said{2, "\x00\x00"}, said{}, said{2, "\x00\x00"}},
		// Numbers that lie far apart, and such as are greater by one byte only, or less if bytes go first that come last.
		{said{2, "b"}, said{1000001, "a"}, said{1000001, "a"}},
		{said{256, "b"}, said{255, "a"}, said{256, "b"}},
		{said{256, "b"}, said{257, "a"}, said{257, "a"}},
		{said{1 << 32, "b"}, said{1<<32 - 1, "a"}, said{1 << 32, "b"}},
		{said{1 << 63, "b"}, said{1<<63 - 1, "a"}, said{1 << 63, "b"}},
		{said{1 << 63, "b"}, said{1, "a"}, said{1 << 63, "b"}},
		{said{most - 1, "b"}, said{most, "a"}, said{most, "a"}},
		{said{2, "b"}, said{most, "a"}, said{most, "a"}},
		{said{most - 1, "b"}, said{1, "a"}, said{most - 1, "b"}},
	} {
		for _, area := range []uint64{0, 9, most} {
			d := disk.New(2)
			for i, y := range []said{x.zero, x.one} {
				if y.number > 0 {
					put(t, d, area, i, rightSector(y))
				}
			}
			wantOpen(t, "Open", d, area, x.want)
		}
	}
}

// wrongSectors are not right in the sector 1, most of them for one reason only: what else is asked of a sector they have.
func wrongSectors() map[string][]byte {
	right := written(7, 1, "x")
	low, high := binary.LittleEndian.AppendUint32, binary.BigEndian.AppendUint32
	return map[string][]byte{
		"a number of the other one":        written(6, 1, "x"),
		"a great number of the other one":  written(most-1, 1, "x"),
		"a byte more than MaxSlot":         written(7, 49, strings.Repeat("x", 49)),
		"the size 49 of bytes 0":           written(7, 49, ""),
		"the size 51, up to the sum":       written(7, 51, strings.Repeat("x", 51)),
		"the size 52, over the sum":        written(7, 52, strings.Repeat("x", 51)),
		"the size 55, to the sector's end": written(7, 55, strings.Repeat("x", 51)),
		"the size 56, over the sector":     written(7, 56, strings.Repeat("x", 51)),
		"the size 128":                     written(7, 128, "x"),
		"the size 255":                     written(7, 255, "x"),
		"a byte behind the value":          written(7, 1, "xy"),
		"a byte behind no value":           written(7, 0, "x"),
		"a byte far behind the value":      written(7, 1, "x"+strings.Repeat("\x00", 49)+"\x01"),
		"a byte behind the longest value":  written(7, 48, strings.Repeat("x", 48)+"\x80"),
		"bytes 0":                          make([]byte, 64),
		"bytes 255":                        bytes.Repeat([]byte{255}, 64),
		"no sum":                           right[:60],
		"half a sum":                       right[:62],
		"the sum of the whole":             low(right[:60:60], sumOf(right)),
		"the sum of the value":             low(right[:60:60], sumOf([]byte("x"))),
		"the sum's highest byte first":     high(right[:60:60], sumOf(right[:60])),
		"a sum by another rule":            low(right[:60:60], crc32.ChecksumIEEE(right[:60])),
	}
}

// P4.1: a sector that is not right counts as none, beside one that is right, and alone.
func TestOpenPassesOverWrongOnes(t *testing.T) {
	for name, b := range wrongSectors() {
		alone := disk.New(9)
		put(t, alone, 4, 1, b)
		wantOpen(t, name+", alone", alone, 4, said{})

		beside := disk.New(9)
		put(t, beside, 4, 0, rightSector(said{2, "b"}))
		put(t, beside, 4, 1, b)
		wantOpen(t, name+", beside a right one", beside, 4, said{2, "b"})

		// It goes on from what is right: the next one is written over the wrong one, whatever that is.
		s := open(t, beside, 4)
		want(t, name+": Save", s.Save([]byte("c")), api.OK)
		wantTells(t, name+", behind a Save", s, said{3, "c"})
		wantSector(t, beside, 4, 1, rightSector(said{3, "c"}))
		wantOpen(t, name+", opened again", beside, 4, said{3, "c"})
	}
	// The same with no fault is taken: those above are refused for what they say.
	d := disk.New(9)
	put(t, d, 4, 1, written(7, 1, "x"))
	wantOpen(t, "a right one", d, 4, said{7, "x"})
}

// P4.1: the number 0 is that of the sector 0 modulo 2, and none all the same.
func TestOpenNumberZero(t *testing.T) {
	for i := range 2 {
		for _, v := range []string{"", "x", strings.Repeat("x", 48)} {
			d := disk.New(9)
			put(t, d, 4, i, rightSector(said{0, v}))
			wantOpen(t, "alone", d, 4, said{})
			right := said{uint64(3 - i), "b"}
			put(t, d, 4, 1-i, rightSector(right))
			wantOpen(t, "beside a right one", d, 4, right)
		}
	}
}

// P4.1: parity is that of the sector, in both.
func TestOpenSwappedSectors(t *testing.T) {
	for _, n := range []uint64{1, 2, 3, 255, 256, 1 << 63, most - 1, most} {
		for i := range 2 {
			d := disk.New(9)
			put(t, d, 4, i, rightSector(said{n, "x"}))
			x := said{}
			if n%2 == uint64(i) {
				x = said{n, "x"}
			}
			wantOpen(t, "Open", d, 4, x)
		}
	}
}

// P4.1: wrong in both sectors is none.
func TestOpenBothWrong(t *testing.T) {
	for name, b := range wrongSectors() {
		d := disk.New(9)
		put(t, d, 4, 0, rightSector(said{3, "x"}))
		put(t, d, 4, 1, b)
		s := open(t, d, 4)
		wantTells(t, name, s, said{})
		want(t, name+": Save", s.Save([]byte("a")), api.OK)
		wantTells(t, name+", behind a Save", s, said{1, "a"})
		wantOpen(t, name+", opened again", d, 4, said{1, "a"})
	}
}

// P4.1: each wrong sum of one byte, and what is unsynced is read like all else.
func TestOpenWrongSums(t *testing.T) {
	for i := 60; i < 64; i++ {
		for c := 1; c < 256; c++ {
			d := disk.New(9)
			want(t, "Save", open(t, d, 4).Save([]byte("a")), api.OK)
			b := rightSector(said{2, "b"})
			b[i] ^= byte(c)
			want(t, "Write", d.Write(4, 0, b), api.OK)
			wantOpen(t, "a wrong sum", d, 4, said{1, "a"})
			want(t, "Write", d.Write(4, 0, rightSector(said{2, "b"})), api.OK)
			wantOpen(t, "a right sum", d, 4, said{2, "b"})
		}
	}
}

// P4.1: other sectors of the area, and other areas, say nothing.
func TestOpenLooksAtTwoSectorsOnly(t *testing.T) {
	d := disk.New(9)
	for _, x := range []struct {
		area   uint64
		sector int
	}{{4, 2}, {4, 3}, {4, api.MaxArea - 1}, {3, 0}, {5, 0}, {4 + 1<<32, 0}} {
		put(t, d, x.area, x.sector, rightSector(said{1000 + uint64(x.sector%2), "x"}))
	}
	s := open(t, d, 4)
	wantTells(t, "Open", s, said{})
	want(t, "Save", s.Save([]byte("a")), api.OK)
	wantOpen(t, "behind a Save", d, 4, said{1, "a"})
	wantSector(t, d, 4, 2, rightSector(said{1000, "x"}))
	wantSector(t, d, 4, 3, rightSector(said{1001, "x"}))
	wantOpen(t, "another area", d, 5, said{1000, "x"})
}

// P4.1: a dead disk, whatever is on it.
func TestOpenDead(t *testing.T) {
	for _, saves := range []int{0, 1, 2} {
		d := disk.New(9)
		s := open(t, d, 4)
		for range saves {
			want(t, "Save", s.Save([]byte("a")), api.OK)
		}
		d.Arm(0)
		want(t, "Sync", d.Sync(1), api.ErrDiskDead)
		if u, e := Open(d, 4); u != nil || e != api.ErrDiskDead {
			t.Errorf("Open of a dead disk: %v, %d", u, e)
		}
	}
}

// P4.1: Open is no step, so that it neither lets a disk die nor makes anything last.
func TestOpenIsNoStep(t *testing.T) {
	d := disk.New(9)
	want(t, "Save", open(t, d, 4).Save([]byte("a")), api.OK)
	want(t, "Write", d.Write(4, 0, rightSector(said{2, "b"})), api.OK)
	steps, room := d.Steps(), d.Room()
	d.Arm(0)
	for range 3 {
		wantOpen(t, "Open", d, 4, said{2, "b"})
	}
	if d.Steps() != steps || d.Room() != room || d.Dead() {
		t.Errorf("Steps %d, Room %d, Dead %v", d.Steps(), d.Room(), d.Dead())
	}
	wantOpen(t, "what lasts", d.Crash(nil), 4, said{1, "a"})
}

// P4.2: values of each length, of all bytes, one behind the other.
func TestSave(t *testing.T) {
	d := disk.New(2)
	s := open(t, d, 7)
	n := uint64(0)
	for round := range 6 {
		for size := range api.MaxSlot + 1 {
			v := make([]byte, size)
			for i := range v {
				v[i] = byte(255 - i*size - round*43)
			}
			old := tells(s)
			want(t, "Save", s.Save(v), api.OK)
			n++
			x := said{n, string(v)}
			wantTells(t, "the slot", s, x)
			wantSector(t, d, 7, int(n%2), rightSector(x))
			if n > 1 {
				wantSector(t, d, 7, int((n+1)%2), rightSector(old))
			}
			wantOpen(t, "opened again", d, 7, x)
			// It lasts: no version beside it is found.
			wantOpen(t, "behind a crash", d.Crash(nil), 7, x)
			wantOpen(t, "behind a crash", d.Crash([]int{1, 1, 1}), 7, x)
		}
	}
	if d.Sectors(7) != 2 || !slices.Equal(d.Areas(), []uint64{7}) || d.Room() != 0 {
		t.Errorf("Sectors %d, Areas %d, Room %d", d.Sectors(7), d.Areas(), d.Room())
	}
}

// P4.2: bytes 0 at the end of a value are its own; what a longer value left is gone.
func TestSaveBytesOfZero(t *testing.T) {
	d := disk.New(2)
	s := open(t, d, 7)
	values := []string{strings.Repeat("\xff", 48), strings.Repeat("\xff", 48), "", "\x00", "a\x00", "\x00a", strings.Repeat("\x00", 48), "\x00\x00"}
	for i, v := range values {
		want(t, "Save", s.Save([]byte(v)), api.OK)
		wantTells(t, "the slot", s, said{uint64(i + 1), v})
		wantOpen(t, "opened again", d, 7, said{uint64(i + 1), v})
	}
	want(t, "Save(nil)", s.Save(nil), api.OK)
	wantOpen(t, "none", d, 7, said{9, ""})
	wantSector(t, d, 7, 1, rightSector(said{9, ""}))
}

// P4.2: one Write and one Sync, and nothing else.
func TestSaveIsTwoSteps(t *testing.T) {
	d := disk.New(9)
	want(t, "Write", d.Write(8, 0, []byte("not synced")), api.OK)
	s := open(t, d, 7)
	for i := range 5 {
		want(t, "Save", s.Save([]byte("a")), api.OK)
		if d.Steps() != 1+2*(i+1) {
			t.Errorf("%d Saves: %d steps", i+1, d.Steps())
		}
	}
	// Its own area alone is synced.
	wantNoSector(t, d.Crash(nil), 8, 0)
	wantOpen(t, "behind a crash", d.Crash(nil), 7, said{5, "a"})
	// The area is synced, with all of its sectors.
	want(t, "Write", d.Write(7, 5, nil), api.OK)
	want(t, "Save", s.Save([]byte("b")), api.OK)
	wantSector(t, d.Crash(nil), 7, 5, make([]byte, 64))
}

// P4.2
func TestSaveLong(t *testing.T) {
	for _, size := range []int{49, 50, 51, 52, 55, 56, 64, 65, 255, 256, 256 + 48, 70000} {
		d := disk.New(9)
		s := open(t, d, 7)
		for i, x := range []said{{0, ""}, {1, "a"}, {2, "b"}} {
			if i > 0 {
				want(t, "Save", s.Save([]byte(x.value)), api.OK)
			}
			steps := d.Steps()
			want(t, "Save of too many bytes", s.Save(make([]byte, size)), api.ErrSlotLong)
			wantTells(t, "the slot", s, x)
			wantOpen(t, "opened again", d, 7, x)
			if d.Steps() != steps {
				t.Errorf("%d bytes: a step was made", size)
			}
		}
	}
}

// P4.2: the greatest number is the last one.
func TestSaveLastNumber(t *testing.T) {
	d := disk.New(9)
	put(t, d, 7, 0, rightSector(said{most - 1, "y"}))
	s := open(t, d, 7)
	wantTells(t, "the last but one", s, said{most - 1, "y"})
	want(t, "Save", s.Save([]byte("z")), api.OK)
	wantTells(t, "the last one", s, said{most, "z"})
	wantSector(t, d, 7, 1, rightSector(said{most, "z"}))
	for _, v := range []string{"", "a", "z", strings.Repeat("x", 48), strings.Repeat("x", 49)} {
		steps := d.Steps()
		want(t, "Save", s.Save([]byte(v)), api.ErrSlotLong)
		wantTells(t, "refused", s, said{most, "z"})
		u := open(t, d, 7)
		want(t, "Save of one opened again", u.Save([]byte(v)), api.ErrSlotLong)
		wantTells(t, "opened again, refused", u, said{most, "z"})
		if d.Steps() != steps {
			t.Error("a step was made")
		}
	}
	wantSector(t, d, 7, 0, rightSector(said{most - 1, "y"}))
}

// P4.2, R1: what is long is said ahead of what is dead or full.
func TestSaveWhichError(t *testing.T) {
	full := disk.New(0)
	s := open(t, full, 7)
	want(t, "long, on a full disk", s.Save(make([]byte, 49)), api.ErrSlotLong)
	want(t, "on a full disk", s.Save(nil), api.ErrDiskFull)
	full.Arm(0)
	// What the disk refuses is no step of it: it does not die by that.
	want(t, "on a full disk that is armed", s.Save(nil), api.ErrDiskFull)
	want(t, "Sync", full.Sync(7), api.ErrDiskDead)
	want(t, "long, on a dead disk", s.Save(make([]byte, 49)), api.ErrSlotLong)
	want(t, "on a dead disk that is full", s.Save(nil), api.ErrDiskDead)
	wantTells(t, "the slot", s, said{})

	d := disk.New(9)
	put(t, d, 7, 1, rightSector(said{most, "z"}))
	s = open(t, d, 7)
	d.Arm(0)
	want(t, "Sync", d.Sync(7), api.ErrDiskDead)
	want(t, "no number left, on a dead disk", s.Save(nil), api.ErrSlotLong)
	wantTells(t, "the slot", s, said{most, "z"})
}

// P4.2: a disk that is full, ahead of the first value, and of the second.
func TestSaveFull(t *testing.T) {
	for _, room := range []int{0, 1} {
		d := disk.New(2)
		for i := range 2 - room {
			want(t, "Write", d.Write(1, i, nil), api.OK)
		}
		s := open(t, d, 7)
		x := said{}
		if room == 1 {
			x = said{1, "a"}
			want(t, "Save", s.Save([]byte("a")), api.OK)
		}
		steps := d.Steps()
		for range 3 {
			want(t, "Save", s.Save([]byte("b")), api.ErrDiskFull)
			wantTells(t, "the slot", s, x)
			wantOpen(t, "opened again", d, 7, x)
			wantOpen(t, "behind a crash", d.Crash([]int{1, 1, 1}), 7, x)
		}
		if d.Steps() != steps {
			t.Errorf("room %d: what was refused is %d steps", room, d.Steps()-steps)
		}
		// With room it goes on where it was.
		want(t, "Free", d.Free(1), api.OK)
		want(t, "Save", s.Save([]byte("b")), api.OK)
		wantTells(t, "the slot", s, said{x.number + 1, "b"})
		wantOpen(t, "opened again", d, 7, said{x.number + 1, "b"})
	}
}

// P4.2: from the Save at which the disk dies on each one is refused, and nothing changes.
func TestSaveDead(t *testing.T) {
	for at := range 2 {
		for saves := range 4 {
			d := disk.New(9)
			s := open(t, d, 7)
			x := said{}
			for i := range saves {
				x = said{uint64(i + 1), strings.Repeat("v", i+1)}
				want(t, "Save", s.Save([]byte(x.value)), api.OK)
			}
			d.Arm(at)
			for range 3 {
				want(t, "Save", s.Save([]byte("lost")), api.ErrDiskDead)
				wantTells(t, "the slot", s, x)
			}
			if d.Steps() != 2*saves+at+1 {
				t.Errorf("dead at %d behind %d: %d steps", at, saves, d.Steps())
			}
		}
	}
}

// R5, R6: what is handed in stays as it was, and is not kept; what is told is the caller's own.
func TestNothingIsShared(t *testing.T) {
	d := disk.New(9)
	s := open(t, d, 7)
	v := make([]byte, 3, 60)
	copy(v, "abc")
	want(t, "Save", s.Save(v), api.OK)
	if string(v[:60]) != "abc"+string(make([]byte, 57)) {
		t.Errorf("what was handed in has changed: %q", v[:60])
	}
	v[0] = 'x'
	_ = append(v, 'y')
	wantTells(t, "written into what was handed in", s, said{1, "abc"})
	wantOpen(t, "written into what was handed in", d, 7, said{1, "abc"})
	opened := open(t, d, 7)
	for _, u := range []*Slot{s, opened} {
		got := u.Value()
		other := u.Value()
		got[1] = 'x'
		_ = append(got, 'y', 'y', 'y')
		wantTells(t, "written into what was told", u, said{1, "abc"})
		if string(other) != "abc" {
			t.Errorf("what was told twice is one: %q", other)
		}
	}
	wantOpen(t, "written into what was told", d, 7, said{1, "abc"})
	// What was told stays, whatever is saved then; and what was told may be saved.
	got := s.Value()
	want(t, "Save", s.Save([]byte("d")), api.OK)
	want(t, "Save", s.Save(got), api.OK)
	got[0] = 'z'
	wantTells(t, "saved what was told", s, said{3, "abc"})
	want(t, "Save", s.Save([]byte("efg")), api.OK)
	if string(got) != "zbc" {
		t.Errorf("what was told has changed: %q", got)
	}
	// What a sector of the disk is told as is not the slot's either.
	b, _ := d.Read(7, 0)
	b[9] = 'z'
	wantTells(t, "written into a sector that was read", s, said{4, "efg"})
}

// P4.1: two slots of one disk go their own ways; the disk is kept, so that what one saves is found by it.
func TestTwoSlots(t *testing.T) {
	d := disk.New(9)
	one, two := open(t, d, 1), open(t, d, 2)
	want(t, "Save", one.Save([]byte("a")), api.OK)
	want(t, "Save", two.Save([]byte("b")), api.OK)
	want(t, "Save", one.Save([]byte("c")), api.OK)
	wantTells(t, "one", one, said{2, "c"})
	wantTells(t, "two", two, said{1, "b"})
	wantOpen(t, "one", d, 1, said{2, "c"})
	wantOpen(t, "two", d, 2, said{1, "b"})
	// A clone of the disk is another one.
	c := d.Clone()
	want(t, "Save", one.Save([]byte("d")), api.OK)
	wantOpen(t, "the clone", c, 1, said{2, "c"})
	// A slot tells what it found or saved, not what stands on the disk by now.
	want(t, "Free", d.Free(1), api.OK)
	wantTells(t, "behind a Free", one, said{3, "d"})
	wantOpen(t, "behind a Free", d, 1, said{})
}
