package slot

import (
	"strconv"
	"strings"
	"testing"

	"abecedary/api"
	"abecedary/disk"
)

// laid is a disk with these sectors in the area 7 (nil: it is not there).
func laid(t *testing.T, zero, one []byte) *disk.Disk {
	d := disk.New(9)
	for i, b := range [][]byte{zero, one} {
		if b != nil {
			put(t, d, 7, i, b)
		}
	}
	return d
}

// beginnings are disks that a slot may be opened on.
func beginnings(t *testing.T) map[string]*disk.Disk {
	return map[string]*disk.Disk{
		"nothing":                   laid(t, nil, nil),
		"one sector":                laid(t, nil, rightSector(said{1, "a"})),
		"one sector, the other one": laid(t, rightSector(said{2, "b"}), nil),
		"both":                      laid(t, rightSector(said{2, "b"}), rightSector(said{1, "a"})),
		"both, far apart":           laid(t, rightSector(said{2, "b"}), rightSector(said{1001, "a"})),
		"both wrong":                laid(t, rightSector(said{1, "a"}), rightSector(said{2, "b"})),
		"a wrong one":               laid(t, []byte("wrong"), rightSector(said{5, ""})),
		"great numbers":             laid(t, rightSector(said{most - 21, "b"}), rightSector(said{most - 22, "a"})),
	}
}

// saveAll saves values until one is refused; it tells what was told last, and what the refused one would have come to (if none was: the same).
func saveAll(t *testing.T, s *Slot, values []string) (said, said) {
	t.Helper()
	last := tells(s)
	for _, v := range values {
		next := said{last.number + 1, v}
		e := s.Save([]byte(v))
		if e != api.OK {
			want(t, "Save", e, api.ErrDiskDead)
			wantTells(t, "refused", s, last)
			return last, next
		}
		wantTells(t, "saved", s, next)
		last = next
	}
	return last, last
}

// someValues are of many lengths, and no two are the same.
func someValues(count, mark int) []string {
	values := make([]string, count)
	for i := range values {
		values[i] = strconv.Itoa(mark) + strings.Repeat("v", (i*17+mark*5)%46) + strconv.Itoa(i)
	}
	return values
}

// dieAt opens d, lets it die at a step of Saves, and holds what is found against P4.3; deeper lets that die once more.
func dieAt(t *testing.T, name string, d *disk.Disk, steps, deeper int) {
	const saves = 4
	for at := range steps {
		for _, pick := range []int{-1, 0, 1, 2, 3} {
			c := d.Clone()
			s := open(t, c, 7)
			c.Arm(at)
			last, next := saveAll(t, s, someValues(saves, deeper))
			if c.Dead() != (at < 2*saves) {
				t.Errorf("%s: armed at %d: Dead() = %v", name, at, c.Dead())
			}
			found := c.Crash([]int{pick})
			got := tells(open(t, found, 7))
			checkPicked(t, name, at, pick, got, last, next)
			if deeper > 0 {
				dieAt(t, name+", again", found, 5, deeper-1)
			}
		}
		if t.Failed() {
			return
		}
	}
}

// checkPicked holds what is found against the last value that was saved, and the one that was cut off: which of both it is, the pick says.
func checkPicked(t *testing.T, name string, at, pick int, got, last, next said) {
	t.Helper()
	x := last
	// Of both versions of the sector that was written the odd one is the new one; below 0 counts as 0.
	if pick > 0 && pick%2 == 1 {
		x = next
	}
	if got != x {
		t.Errorf("%s, at %d, pick %d: %d %q, want %d %q", name, at, pick, got.number, got.value, x.number, x.value)
	}
}

// P4.3: at each step of some Saves, with each version, and twice more behind that.
func TestAtOnce(t *testing.T) {
	for name, d := range beginnings(t) {
		dieAt(t, name, d, 9, 2)
	}
}

// P4.3: a sector of the area that is none of the slot's is picked from too, ahead of the first Sync; the slot hangs on it in nothing.
func TestAtOnceBesideAnother(t *testing.T) {
	d := disk.New(9)
	want(t, "Write", d.Write(7, 2, rightSector(said{1000, "beside"})), api.OK)
	for at := range 9 {
		for picks := range 16 {
			c := d.Clone()
			s := open(t, c, 7)
			c.Arm(at)
			last, next := saveAll(t, s, someValues(4, 1))
			got := tells(open(t, c.Crash([]int{picks % 4, picks / 4}), 7))
			checkPicked(t, "beside another", at, picks%4, got, last, next)
		}
	}
}

// P4.3: a Save that was cut off and not found leaves its number to the next one.
func TestNumberAgain(t *testing.T) {
	d := disk.New(9)
	want(t, "Save", open(t, d, 7).Save([]byte("a")), api.OK)
	for i := range 20 {
		d.Arm(i % 2)
		want(t, "Save", open(t, d, 7).Save([]byte("lost")), api.ErrDiskDead)
		d = d.Crash(nil)
		wantOpen(t, "found", d, 7, said{1, "a"})
	}
	want(t, "Save", open(t, d, 7).Save([]byte("b")), api.OK)
	wantOpen(t, "saved", d, 7, said{2, "b"})
	for i := range 20 {
		d.Arm(i % 2)
		want(t, "Save", open(t, d, 7).Save([]byte("found")), api.ErrDiskDead)
		d = d.Crash([]int{1})
		wantOpen(t, "found", d, 7, said{uint64(i + 3), "found"})
	}
}

// P4.3: a full disk takes nothing away, also where it dies then.
func TestFullThenDead(t *testing.T) {
	d := disk.New(1)
	s := open(t, d, 7)
	want(t, "Save", s.Save([]byte("a")), api.OK)
	want(t, "Save", s.Save([]byte("b")), api.ErrDiskFull)
	d.Arm(0)
	want(t, "Save", s.Save([]byte("b")), api.ErrDiskFull)
	want(t, "Sync", d.Sync(7), api.ErrDiskDead)
	for pick := range 3 {
		wantOpen(t, "found", d.Crash([]int{pick, pick}), 7, said{1, "a"})
	}
}

// turnBit is the disk with one bit of the sector turned.
func turnBit(t *testing.T, d *disk.Disk, sector, bit int) *disk.Disk {
	t.Helper()
	c := d.Clone()
	b, ok := c.Read(7, sector)
	if !ok {
		t.Fatalf("no sector %d", sector)
	}
	b[bit/8] ^= 1 << (bit % 8)
	put(t, c, 7, sector, b)
	return c
}

// P4.4: each bit of both sectors, with values of many lengths and numbers that differ by one bit.
func TestTurnedBit(t *testing.T) {
	for _, x := range [][2]said{
		{{2, "bc"}, {1, "a"}},
		{{2, "bc"}, {3, "a"}},
		{{2, ""}, {1, ""}},
		{{2, ""}, {3, ""}},
		{{2, strings.Repeat("\xff", 48)}, {1, strings.Repeat("\x00", 48)}},
		{{2, strings.Repeat("\x00", 47)}, {3, strings.Repeat("q", 16)}},
		{{256, "b"}, {255, "a"}},
		{{1 << 63, "b"}, {1<<63 - 1, "b"}},
		{{most - 1, "b"}, {most, "a"}},
		{{8, "b"}, {1001, "a"}},
	} {
		d := disk.New(9)
		put(t, d, 7, 0, rightSector(x[0]))
		put(t, d, 7, 1, rightSector(x[1]))
		checkTurned(t, d, x)
	}
}

// P4.4, of what Saves have written.
func TestTurnedBitOfSaves(t *testing.T) {
	d := disk.New(9)
	s := open(t, d, 7)
	x := [2]said{}
	for i, v := range someValues(6, 3) {
		want(t, "Save", s.Save([]byte(v)), api.OK)
		x[(i+1)%2] = said{uint64(i + 1), v}
		checkTurned(t, d, x)
	}
}

// checkTurned turns each bit of the sectors that are there. If it is one of the newer sector the other one's value is found; if it is one of the older one, what was found ahead of it, which is the other one's too.
func checkTurned(t *testing.T, d *disk.Disk, x [2]said) {
	t.Helper()
	newer := x[0]
	if x[1].number > newer.number {
		newer = x[1]
	}
	wantOpen(t, "no bit turned", d, 7, newer)
	for i := range 2 {
		if x[i].number == 0 {
			continue
		}
		for bit := range 8 * api.Sector {
			what := "sector " + strconv.Itoa(i) + ", bit " + strconv.Itoa(bit)
			wantOpen(t, what, turnBit(t, d, i, bit), 7, x[1-i])
		}
	}
}
