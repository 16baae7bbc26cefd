package disk

import (
	"math"
	"math/rand"
	"slices"
	"strings"
	"testing"

	"abecedary/api"
)

// want holds an answer against the one that it has to be.
func want(t *testing.T, what string, got, e api.Errno) {
	t.Helper()
	if got != e {
		t.Errorf("%s: %d, want %d", what, got, e)
	}
}

// wantRead holds what is read against s and bytes 0 behind it.
func wantRead(t *testing.T, d *Disk, area uint64, sector int, s string) {
	t.Helper()
	if b, ok := d.Read(area, sector); !ok || string(b) != padded(s) {
		t.Errorf("Read(%d, %d) = %q, %v, want %q", area, sector, b, ok, s)
	}
}

func wantNone(t *testing.T, d *Disk, area uint64, sector int) {
	t.Helper()
	if b, ok := d.Read(area, sector); ok || len(b) != 0 {
		t.Errorf("Read(%d, %d) = %q, %v, want none", area, sector, b, ok)
	}
}

// wantAll holds the numbers that d tells against those that they have to be.
func wantAll(t *testing.T, d *Disk, room, steps int, dead bool, areas ...uint64) {
	t.Helper()
	if d.Room() != room || d.Steps() != steps || d.Dead() != dead || !slices.Equal(d.Areas(), areas) {
		t.Errorf("Room %d, Steps %d, Dead %v, Areas %d, want %d, %d, %v, %d", d.Room(), d.Steps(), d.Dead(), d.Areas(), room, steps, dead, areas)
	}
}

// The chapter's examples.
func TestExamples(t *testing.T) {
	d := New(2)
	want(t, "Write", d.Write(5, 3, []byte("ab")), api.OK)
	wantRead(t, d, 5, 3, "ab")
	want(t, "Write", d.Write(5, 0, []byte("cd")), api.OK)
	want(t, "Write", d.Write(6, 0, nil), api.ErrDiskFull)
	c := d.Crash([]int{0, 1})
	wantAll(t, c, 1, 0, false, 5)
	wantNone(t, c, 5, 0)
	wantRead(t, c, 5, 3, "ab")
	d.Arm(1)
	want(t, "Sync", d.Sync(5), api.OK)
	want(t, "Write", d.Write(5, 0, []byte("x")), api.ErrDiskDead)
	wantAll(t, d, 0, 4, true, 5)
}

// P3.1
func TestNew(t *testing.T) {
	for _, x := range []struct{ room, want int }{
		{math.MinInt, 0}, {-1, 0}, {0, 0}, {1, 1}, {2, 2}, {1 << 24, 1 << 24}, {math.MaxInt, math.MaxInt},
	} {
		d := New(x.room)
		wantAll(t, d, x.want, 0, false)
		for n := range min(x.want, 3) {
			want(t, "Write", d.Write(uint64(n), n, nil), api.OK)
			if d.Room() != x.want-n-1 {
				t.Errorf("of %d: Room() = %d behind %d sectors", x.room, d.Room(), n+1)
			}
		}
		if x.want < 3 {
			want(t, "Write", d.Write(9, 9, nil), api.ErrDiskFull)
			wantAll(t, d, 0, x.want, false, d.Areas()...)
		}
		// A new disk is not armed.
		for range 5 {
			want(t, "Sync", d.Sync(1), api.OK)
		}
	}
}

// P3.2
func TestWriteForm(t *testing.T) {
	d := New(9)
	for _, x := range []struct {
		sector, size int
		e            api.Errno
	}{
		{math.MinInt, 0, api.ErrDiskForm},
		{-1, 1, api.ErrDiskForm},
		{0, 0, api.OK},
		{0, 64, api.OK},
		{0, 65, api.ErrDiskForm},
		{1, 10000, api.ErrDiskForm},
		{api.MaxArea - 1, 64, api.OK},
		{api.MaxArea - 1, 65, api.ErrDiskForm},
		{api.MaxArea, 1, api.ErrDiskForm},
		{math.MaxInt, 1, api.ErrDiskForm},
	} {
		steps := d.Steps()
		s := strings.Repeat("z", x.size)
		want(t, "Write", d.Write(7, x.sector, []byte(s)), x.e)
		if x.e == api.OK {
			wantRead(t, d, 7, x.sector, s)
			steps++
		}
		if d.Steps() != steps {
			t.Errorf("sector %d, %d bytes: %d steps, want %d", x.sector, x.size, d.Steps(), steps)
		}
	}
	wantAll(t, d, 7, 3, false, 7)
	wantNone(t, d, 7, 1)
	if d.Sectors(7) != api.MaxArea {
		t.Errorf("Sectors(7) = %d", d.Sectors(7))
	}
}

// P3.2: what was there goes, also behind the end of shorter bytes.
func TestWriteOver(t *testing.T) {
	d := New(1)
	for _, s := range []string{strings.Repeat("x", 64), "ab", "", "a\x00b", strings.Repeat("y", 63)} {
		want(t, "Write", d.Write(0, 0, []byte(s)), api.OK)
		wantRead(t, d, 0, 0, s)
	}
	wantAll(t, d, 0, 5, false, 0)
}

// P3.2
func TestFull(t *testing.T) {
	d := New(2)
	want(t, "Write", d.Write(1, 0, []byte("a")), api.OK)
	want(t, "Write", d.Write(2, 0, []byte("b")), api.OK)
	want(t, "Write of a third", d.Write(2, 1, nil), api.ErrDiskFull)
	want(t, "Write of a third, wrong", d.Write(2, -1, nil), api.ErrDiskForm)
	want(t, "Write of a third, long", d.Write(3, 0, make([]byte, 65)), api.ErrDiskForm)
	wantAll(t, d, 0, 2, false, 1, 2)
	// What is there can be written to, be it synced or not.
	want(t, "Sync", d.Sync(1), api.OK)
	want(t, "Write", d.Write(1, 0, []byte("c")), api.OK)
	want(t, "Write", d.Write(2, 0, []byte("d")), api.OK)
	want(t, "Free", d.Free(1), api.OK)
	want(t, "Write", d.Write(2, 1, []byte("e")), api.OK)
	want(t, "Write", d.Write(1, 0, []byte("f")), api.ErrDiskFull)
	wantRead(t, d, 2, 0, "d")
	wantRead(t, d, 2, 1, "e")
	wantNone(t, d, 1, 0)
}

// P3.2, P3.4: what is refused is no step, and no disk dies at it.
func TestRefusedIsNoStep(t *testing.T) {
	d := New(1)
	want(t, "Write", d.Write(1, 0, nil), api.OK)
	d.Arm(0)
	want(t, "Write", d.Write(1, -1, nil), api.ErrDiskForm)
	want(t, "Write", d.Write(1, 0, make([]byte, 65)), api.ErrDiskForm)
	want(t, "Write", d.Write(1, 1, nil), api.ErrDiskFull)
	wantAll(t, d, 0, 1, false, 1)
	want(t, "Sync", d.Sync(1), api.ErrDiskDead)
	wantAll(t, d, 0, 2, true, 1)
	// A dead disk is dead first of all.
	want(t, "Write", d.Write(1, -1, nil), api.ErrDiskDead)
	want(t, "Write", d.Write(1, 0, make([]byte, 65)), api.ErrDiskDead)
	want(t, "Write", d.Write(1, 1, nil), api.ErrDiskDead)
	wantAll(t, d, 0, 2, true, 1)
}

// P3.2
func TestSync(t *testing.T) {
	d := New(9)
	d.Write(1, 0, []byte("a"))
	d.Write(1, 0, []byte("b"))
	d.Write(1, 4, []byte("c"))
	d.Write(2, 0, []byte("d"))
	want(t, "Sync", d.Sync(1), api.OK)
	wantRead(t, d, 1, 0, "b")
	wantRead(t, d, 1, 4, "c")
	wantRead(t, d, 2, 0, "d")
	wantAll(t, d, 6, 5, false, 1, 2)
	// Only what was not synced takes a number.
	for p := range 4 {
		c := d.Crash([]int{p, 9, 9})
		wantRead(t, c, 1, 0, "b")
		wantRead(t, c, 1, 4, "c")
		if p%2 == 1 {
			wantRead(t, c, 2, 0, "d")
			wantAll(t, c, 6, 0, false, 1, 2)
		} else {
			wantNone(t, c, 2, 0)
			wantAll(t, c, 7, 0, false, 1)
		}
	}
}

// P3.2
func TestFree(t *testing.T) {
	d := New(4)
	d.Write(1, 0, []byte("a"))
	d.Sync(1)
	d.Write(1, 0, []byte("b"))
	d.Write(1, 7, []byte("c"))
	d.Write(2, 0, []byte("d"))
	want(t, "Free", d.Free(1), api.OK)
	wantAll(t, d, 3, 6, false, 2)
	wantNone(t, d, 1, 0)
	wantNone(t, d, 1, 7)
	wantRead(t, d, 2, 0, "d")
	if d.Sectors(1) != 0 || d.Sectors(2) != 1 {
		t.Errorf("Sectors: %d, %d", d.Sectors(1), d.Sectors(2))
	}
	// It lasts at once: no crash finds what was there, and none of it takes a number.
	c := d.Crash([]int{1, 1, 1})
	wantAll(t, c, 3, 0, false, 2)
	// What is written to it then was never synced.
	d.Write(1, 0, []byte("e"))
	wantNone(t, d.Crash(nil), 1, 0)
	wantRead(t, d.Crash([]int{1}), 1, 0, "e")
	wantNone(t, d.Crash([]int{2}), 1, 0)
}

// P3.2: an area that has no sectors.
func TestStepsThatDoNothing(t *testing.T) {
	d := New(2)
	d.Write(1, 0, []byte("a"))
	for i, area := range []uint64{0, 2, math.MaxUint64} {
		want(t, "Sync", d.Sync(area), api.OK)
		want(t, "Free", d.Free(area), api.OK)
		wantAll(t, d, 1, 3+2*i, false, 1)
	}
	wantNone(t, d.Crash(nil), 1, 0)
	wantRead(t, d.Crash([]int{1}), 1, 0, "a")
	d.Arm(1)
	want(t, "Sync", d.Sync(9), api.OK)
	want(t, "Free", d.Free(9), api.ErrDiskDead)
	wantAll(t, d, 1, 9, true, 1)
}

// P3.2: at the step at which the disk dies.
func TestDies(t *testing.T) {
	made := func() *Disk {
		d := New(2)
		d.Write(1, 0, []byte("a"))
		d.Sync(1)
		d.Write(1, 0, []byte("b"))
		d.Arm(0)
		return d
	}
	d := made()
	want(t, "Sync", d.Sync(1), api.ErrDiskDead)
	wantAll(t, d, 1, 4, true, 1)
	wantRead(t, d, 1, 0, "b")
	wantRead(t, d.Crash(nil), 1, 0, "a")

	d = made()
	want(t, "Free", d.Free(1), api.ErrDiskDead)
	wantAll(t, d, 1, 4, true, 1)
	wantRead(t, d, 1, 0, "b")
	wantRead(t, d.Crash(nil), 1, 0, "a")
	wantRead(t, d.Crash([]int{1}), 1, 0, "b")

	// A Write is done likewise, over what is there and where nothing is.
	d = made()
	want(t, "Write", d.Write(1, 0, []byte("c")), api.ErrDiskDead)
	wantAll(t, d, 1, 4, true, 1)
	wantRead(t, d, 1, 0, "c")
	for p, s := range []string{"a", "b", "c", "a"} {
		wantRead(t, d.Crash([]int{p}), 1, 0, s)
	}
	d = made()
	want(t, "Write", d.Write(8, 3, []byte("c")), api.ErrDiskDead)
	wantAll(t, d, 0, 4, true, 1, 8)
	wantRead(t, d, 8, 3, "c")
	wantNone(t, d.Crash([]int{1, 0}), 8, 3)
	wantRead(t, d.Crash([]int{0, 1}), 8, 3, "c")
}

// P3.2, P3.3: a dead disk does nothing any more, and tells what it told.
func TestDead(t *testing.T) {
	d := New(5)
	d.Write(3, 2, []byte("a"))
	d.Arm(0)
	d.Sync(3)
	for range 2 {
		want(t, "Write", d.Write(3, 2, []byte("b")), api.ErrDiskDead)
		want(t, "Write", d.Write(4, 0, []byte("b")), api.ErrDiskDead)
		want(t, "Sync", d.Sync(3), api.ErrDiskDead)
		want(t, "Free", d.Free(3), api.ErrDiskDead)
		wantAll(t, d, 4, 2, true, 3)
		wantRead(t, d, 3, 2, "a")
		wantNone(t, d, 4, 0)
		if d.Sectors(3) != 3 || d.Sectors(4) != 0 {
			t.Errorf("Sectors: %d, %d", d.Sectors(3), d.Sectors(4))
		}
		wantNone(t, d.Crash(nil), 3, 2)
		wantRead(t, d.Crash([]int{1}), 3, 2, "a")
		// It stays dead, whatever it is told.
		d.Arm(-1)
		d.Arm(4)
	}
}

// P3.3
func TestAreasRise(t *testing.T) {
	d := New(100)
	areas := []uint64{math.MaxUint64, 7, 0, 1 << 63, 9, 8, 10, 1 << 32, 1<<63 - 1, 100}
	for i, area := range areas {
		d.Write(area, 50-i, nil)
		d.Write(area, i, nil)
		// Some last, some do not, some do both.
		if i%3 > 0 {
			d.Sync(area)
		}
		if i%3 > 1 {
			d.Write(area, i, nil)
		}
	}
	for i, area := range areas {
		if d.Sectors(area) != 51-i {
			t.Errorf("Sectors(%d) = %d, want %d", area, d.Sectors(area), 51-i)
		}
	}
	slices.Sort(areas)
	for range 3 {
		if !slices.Equal(d.Areas(), areas) {
			t.Errorf("Areas() = %d, want %d", d.Areas(), areas)
		}
	}
	if d.Sectors(11) != 0 || d.Room() != 80 {
		t.Errorf("Sectors(11) = %d, Room() = %d", d.Sectors(11), d.Room())
	}
}

// P3.3: the sector with the greatest number may last, or not.
func TestSectors(t *testing.T) {
	d := New(9)
	d.Write(1, 4, nil)
	d.Sync(1)
	d.Write(1, 2, nil)
	if d.Sectors(1) != 5 {
		t.Errorf("Sectors(1) = %d, want 5", d.Sectors(1))
	}
	d.Write(1, api.MaxArea-1, nil)
	if d.Sectors(1) != api.MaxArea || d.Crash(nil).Sectors(1) != 5 {
		t.Errorf("Sectors(1) = %d, and %d behind a crash", d.Sectors(1), d.Crash(nil).Sectors(1))
	}
	wantNone(t, d, 1, 3)
	wantNone(t, d, 1, -1)
	wantNone(t, d, 1, api.MaxArea)
	wantNone(t, d, 0, 4)
}

// P3.4
func TestArm(t *testing.T) {
	for at := range 6 {
		for ahead := range 3 {
			d := New(9)
			for range ahead {
				d.Sync(0)
			}
			d.Arm(at)
			for n := range at {
				want(t, "a step ahead of it", d.Write(1, n, nil), api.OK)
			}
			want(t, "the step", d.Sync(1), api.ErrDiskDead)
			if !d.Dead() || d.Steps() != ahead+at+1 {
				t.Errorf("Arm(%d) behind %d: Dead %v, Steps %d", at, ahead, d.Dead(), d.Steps())
			}
		}
	}
}

// P3.4
func TestArmAgain(t *testing.T) {
	// A later one counts from then on, and below 0 it is not armed any more.
	for _, at := range []int{-1, -7, math.MinInt, math.MaxInt, math.MaxInt - 1} {
		d := New(9)
		d.Sync(0)
		d.Arm(1)
		d.Sync(0)
		d.Arm(at)
		for range 20 {
			want(t, "Sync", d.Sync(0), api.OK)
		}
		d.Arm(1)
		want(t, "Sync", d.Sync(0), api.OK)
		d.Arm(2)
		want(t, "Sync", d.Sync(0), api.OK)
		want(t, "Sync", d.Sync(0), api.OK)
		if d.Dead() {
			t.Errorf("dead ahead of the step")
		}
		want(t, "Sync", d.Sync(0), api.ErrDiskDead)
		wantAll(t, d, 9, 26, true)
	}
}

// P3.5
func TestCrashPicks(t *testing.T) {
	d := New(9)
	d.Write(1, 0, []byte("a"))
	d.Sync(1)
	d.Write(1, 0, []byte("b"))
	d.Write(1, 0, []byte("c"))
	for _, x := range []struct {
		p int
		s string
	}{
		{0, "a"}, {1, "b"}, {2, "c"}, {3, "a"}, {4, "b"}, {5, "c"}, {3000000, "a"}, {3000001, "b"},
		{math.MaxInt, string(rune('a' + math.MaxInt%3))},
		{-1, "a"}, {-2, "a"}, {-4, "a"}, {math.MinInt, "a"},
	} {
		c := d.Crash([]int{x.p})
		wantRead(t, c, 1, 0, x.s)
		// It lasts, and is the only one.
		wantRead(t, c.Crash([]int{1}), 1, 0, x.s)
		wantAll(t, c, 8, 0, false, 1)
	}
	wantRead(t, d.Crash(nil), 1, 0, "a")
	wantRead(t, d.Crash([]int{}), 1, 0, "a")
}

// P3.5: a version counts where its bytes are those of another one, too.
func TestCrashLikeVersions(t *testing.T) {
	d := New(9)
	d.Write(1, 0, []byte("a"))
	d.Sync(1)
	d.Write(1, 0, []byte("a"))
	d.Write(1, 0, []byte("b"))
	for p, s := range []string{"a", "a", "b", "a", "a", "b"} {
		wantRead(t, d.Crash([]int{p}), 1, 0, s)
	}
	// Written and yet nothing but 0: there, or not there.
	d = New(9)
	d.Write(1, 0, nil)
	wantNone(t, d.Crash([]int{0}), 1, 0)
	wantRead(t, d.Crash([]int{1}), 1, 0, "")
	wantNone(t, d.Crash([]int{2}), 1, 0)
}

// P3.5: areas rising, then sectors rising, whatever the order in which they were written; what is as it was takes no number.
func TestCrashOrder(t *testing.T) {
	type place struct {
		area   uint64
		sector int
	}
	rise := []place{{0, 2}, {0, 10}, {3, 0}, {3, 9}, {20, 1}, {math.MaxUint64, 0}}
	orders := [][]int{{0, 1, 2, 3, 4, 5}, {5, 4, 3, 2, 1, 0}, {3, 0, 5, 1, 4, 2}}
	for _, order := range orders {
		d := New(20)
		// These last, and stand between the others.
		for _, p := range []place{{0, 5}, {3, 4}, {10, 0}} {
			d.Write(p.area, p.sector, []byte("s"))
			d.Sync(p.area)
		}
		for _, i := range order {
			d.Write(rise[i].area, rise[i].sector, []byte("x"))
		}
		for set := range 1 << len(rise) {
			var picks []int
			for i := range rise {
				picks = append(picks, set>>i&1)
			}
			// At the end none is as good as 0.
			if set%2 == 0 {
				picks = picks[:len(rise)-1]
				set &= 1<<(len(rise)-1) - 1
			}
			c := d.Crash(picks)
			there := 3
			for i, p := range rise {
				if set>>i&1 == 0 {
					wantNone(t, c, p.area, p.sector)
					continue
				}
				wantRead(t, c, p.area, p.sector, "x")
				there++
			}
			wantRead(t, c, 0, 5, "s")
			wantRead(t, c, 3, 4, "s")
			wantRead(t, c, 10, 0, "s")
			if c.Room() != 20-there {
				t.Errorf("Room() = %d with %d sectors", c.Room(), there)
			}
		}
	}
}

// P3.5: the disk that is found is new, and the one that was there is as it was.
func TestCrashIsNew(t *testing.T) {
	d := New(3)
	d.Write(1, 0, []byte("a"))
	d.Sync(1)
	d.Write(1, 0, []byte("b"))
	d.Write(2, 0, []byte("c"))
	d.Arm(1)
	c := d.Crash([]int{1, 1})
	wantAll(t, c, 1, 0, false, 1, 2)
	// Not armed; it has the same room in all.
	for n := range 3 {
		want(t, "Write", c.Write(5, n%2, []byte("z")), []api.Errno{api.OK, api.ErrDiskFull, api.OK}[n])
	}
	want(t, "Free", c.Free(1), api.OK)
	want(t, "Write", c.Write(2, 0, []byte("y")), api.OK)
	want(t, "Sync", c.Sync(2), api.OK)
	wantAll(t, c, 1, 5, false, 2, 5)
	wantAll(t, d, 1, 4, false, 1, 2)
	wantRead(t, d, 1, 0, "b")
	wantRead(t, d, 2, 0, "c")
	wantRead(t, d.Crash(nil), 1, 0, "a")
	wantNone(t, d.Crash(nil), 2, 0)
	// It is armed as ahead of it.
	want(t, "Sync", d.Sync(2), api.OK)
	want(t, "Sync", d.Sync(1), api.ErrDiskDead)
	// Of a dead disk the one that is found is not dead, and its steps begin anew.
	c = d.Crash([]int{1})
	wantAll(t, c, 1, 0, false, 1, 2)
	wantRead(t, c, 1, 0, "b")
	want(t, "Write", c.Write(1, 0, []byte("d")), api.OK)
	wantAll(t, c, 1, 1, false, 1, 2)
	wantAll(t, d, 1, 6, true, 1, 2)
}

// P3.5
func TestClone(t *testing.T) {
	d := New(5)
	d.Write(1, 0, []byte("a"))
	d.Sync(1)
	for _, s := range []string{"b", "c", "d"} {
		d.Write(1, 0, []byte(s))
	}
	d.Write(2, 3, []byte("e"))
	d.Arm(2)
	c := d.Clone()
	for _, x := range []*Disk{d, c} {
		wantAll(t, x, 3, 6, false, 1, 2)
		for p, s := range []string{"a", "b", "c", "d"} {
			wantRead(t, x.Crash([]int{p}), 1, 0, s)
		}
		wantNone(t, x.Crash(nil), 2, 3)
	}
	// Each goes its own way: neither sees the other one's versions.
	want(t, "Write", d.Write(1, 0, []byte("D")), api.OK)
	want(t, "Write", c.Write(1, 0, []byte("C")), api.OK)
	wantRead(t, d.Crash([]int{4}), 1, 0, "D")
	wantRead(t, c.Crash([]int{4}), 1, 0, "C")
	want(t, "Sync", d.Sync(2), api.OK)
	wantNone(t, c.Crash(nil), 2, 3)
	wantRead(t, d.Crash(nil), 2, 3, "e")
	want(t, "Free", c.Free(1), api.OK)
	wantAll(t, c, 4, 8, false, 2)
	wantAll(t, d, 3, 8, false, 1, 2)
	// Both are armed alike, and one dies alone.
	want(t, "Free", d.Free(9), api.ErrDiskDead)
	wantAll(t, c, 4, 8, false, 2)
	c.Arm(-1)
	want(t, "Sync", c.Sync(2), api.OK)
	wantAll(t, d.Clone(), 3, 9, true, 1, 2)
	want(t, "Sync", d.Clone().Sync(2), api.ErrDiskDead)
}

// P3.5: a clone is armed as the disk was.
func TestCloneIsArmed(t *testing.T) {
	d := New(1)
	d.Arm(1)
	c := d.Clone()
	d.Arm(-1)
	for _, e := range []api.Errno{api.OK, api.ErrDiskDead, api.ErrDiskDead} {
		want(t, "Sync of the clone", c.Sync(1), e)
		want(t, "Sync", d.Sync(1), api.OK)
	}
	wantAll(t, d, 1, 3, false)
	wantAll(t, c, 1, 2, true)
}

// R5, R6: neither what is handed in nor what is told is shared.
func TestNothingIsShared(t *testing.T) {
	d := New(9)
	whole := []byte("abcdef")
	b := whole[1:3]
	d.Write(1, 0, b)
	if string(whole) != "abcdef" {
		t.Errorf("what was handed in has changed: %q", whole)
	}
	b[0] = 'z'
	wantRead(t, d, 1, 0, "bc")
	full := []byte(strings.Repeat("q", 64))
	d.Write(1, 1, full)
	full[63] = 'z'
	wantRead(t, d, 1, 1, strings.Repeat("q", 64))
	for range 2 {
		got, _ := d.Read(1, 0)
		other, _ := d.Read(1, 0)
		got[0] = 'y'
		_ = append(got[:1], "yyyy"...)
		wantRead(t, d, 1, 0, "bc")
		if other[0] != 'b' {
			t.Errorf("what was told has changed: %q", other)
		}
		// What lasts is not shared either.
		d.Sync(1)
	}
	d.Write(2, 0, nil)
	d.Write(3, 0, nil)
	d.Free(3)
	areas := d.Areas()
	areas[0] = 77
	_ = append(areas[:1], 78)
	wantAll(t, d, 6, 7, false, 1, 2)
	d.Write(1, 0, []byte("new"))
	picks := []int{1, 1, 1}
	c := d.Crash(picks)
	if !slices.Equal(picks, []int{1, 1, 1}) {
		t.Errorf("what was handed in has changed: %d", picks)
	}
	clear(picks)
	wantRead(t, c, 1, 0, "new")
	got, _ := c.Read(1, 0)
	got[0] = 'N'
	wantRead(t, c, 1, 0, "new")
	wantRead(t, d, 1, 0, "new")
}

// deed is one call of a script.
type deed struct {
	kind   int // 0: Write, 1: Sync, 2: Free
	area   uint64
	sector int
	b      string
}

func (x deed) do(d *Disk) api.Errno {
	switch x.kind {
	case 0:
		return d.Write(x.area, x.sector, []byte(x.b))
	case 1:
		return d.Sync(x.area)
	}
	return d.Free(x.area)
}

// someDeeds is a script in which each Write has bytes of its own, some too many.
func someDeeds(r *rand.Rand, count int) []deed {
	var script []deed
	for n := range count {
		size := oneOf(r, []int{1, 2, 63, 64, 64, 64, 65})
		script = append(script, deed{
			kind:   oneOf(r, []int{0, 0, 0, 0, 0, 1, 1, 2}),
			area:   uint64(r.Intn(2)),
			sector: r.Intn(3) - r.Intn(20)/19,
			b:      strings.Repeat(string([]byte{byte(n + 1)}), size),
		})
	}
	return script
}

// place is where a sector is.
type place struct {
	area   uint64
	sector int
}

// track is what may be found of a sector: what was synced (synced, if it was), and what was written since.
type track struct {
	synced bool
	last   string
	since  []string
}

// note says in tracks what a step of a script that was done has come to.
func note(tracks map[place]track, x deed) {
	if x.kind == 0 {
		p := place{x.area, x.sector}
		k := tracks[p]
		k.since = append(slices.Clone(k.since), padded(x.b))
		tracks[p] = k
		return
	}
	for p, k := range tracks {
		if p.area == x.area && x.kind == 2 {
			delete(tracks, p)
		} else if n := len(k.since); p.area == x.area && n > 0 {
			tracks[p] = track{synced: true, last: k.since[n-1]}
		}
	}
}

// P3.6: scripts that die at each step, with all versions picked.
func TestWhatIsFound(t *testing.T) {
	for seed := range 60 {
		r := rand.New(rand.NewSource(int64(seed)))
		script := someDeeds(r, 14)
		for at := range script {
			d := New(5)
			d.Arm(at)
			tracks := map[place]track{}
			for _, x := range script {
				// A Write at which the disk dies is done likewise, the others are not.
				if e := x.do(d); e == api.OK || e == api.ErrDiskDead && x.kind == 0 {
					note(tracks, x)
				}
				if d.Dead() {
					break
				}
			}
			checkFound(t, d, tracks)
			if t.Failed() {
				return
			}
		}
	}
}

// checkFound crashes d in many ways: what was synced, and not written since, is there, and all else is a version as a whole.
func checkFound(t *testing.T, d *Disk, tracks map[place]track) {
	t.Helper()
	for n := range 200 {
		picks := []int{n % 3, n / 3 % 3, n / 9 % 3, n / 27 % 3, n % 7}
		c := d.Crash(picks)
		for area := range uint64(2) {
			for sector := range 4 {
				k := tracks[place{area, sector}]
				b, ok := c.Read(area, sector)
				switch {
				case ok && !slices.Contains(k.since, string(b)) && !(k.synced && string(b) == k.last):
					t.Errorf("%d, %d: %q is no version", area, sector, b)
				case !ok && k.synced:
					t.Errorf("%d, %d: %q was synced, and is not there", area, sector, k.last)
				}
			}
		}
		if c.Dead() || c.Steps() != 0 {
			t.Errorf("what is found is dead, or has steps")
		}
	}
}

// P3.7: up to the step at which it dies an armed disk does what one does that is not.
func TestArmedDoesTheSame(t *testing.T) {
	for seed := range 100 {
		r := rand.New(rand.NewSource(int64(seed)))
		script := someDeeds(r, 20)
		for at := range len(script) + 2 {
			armed, plain := New(4), New(4)
			armed.Arm(at)
			for _, x := range script {
				ahead := plain.Clone()
				e := x.do(plain)
				got := x.do(armed)
				if !armed.Dead() {
					want(t, "armed", got, e)
					wantSame(t, armed, plain)
					continue
				}
				// It is the step, and of the others only a Write is done.
				want(t, "the step", got, api.ErrDiskDead)
				if plain.Steps() != at+1 {
					t.Errorf("Arm(%d): dead at step %d", at, plain.Steps()-1)
				}
				if x.kind != 0 {
					plain = ahead
				}
				wantSame(t, armed, plain)
				break
			}
			if t.Failed() {
				return
			}
		}
	}
}

// wantSame holds the sectors of two disks, and what crashes find of them, against each other.
func wantSame(t *testing.T, a, b *Disk) {
	t.Helper()
	for _, picks := range [][]int{nil, {1, 0, 1, 0}, {0, 1, 0, 1}, {1, 1, 1, 1}, {2, 2, 2, 2}, {3, 2, 1, 0}} {
		wantSameSectors(t, a.Crash(picks), b.Crash(picks))
	}
	wantSameSectors(t, a, b)
}

func wantSameSectors(t *testing.T, a, b *Disk) {
	t.Helper()
	if !slices.Equal(a.Areas(), b.Areas()) || a.Room() != b.Room() {
		t.Errorf("areas %d, %d, room %d, %d", a.Areas(), b.Areas(), a.Room(), b.Room())
	}
	for area := range uint64(3) {
		if a.Sectors(area) != b.Sectors(area) {
			t.Errorf("sectors of %d: %d, %d", area, a.Sectors(area), b.Sectors(area))
		}
		for sector := range 4 {
			x, there := a.Read(area, sector)
			y, ok := b.Read(area, sector)
			if there != ok || !slices.Equal(x, y) {
				t.Errorf("%d, %d: %q, %q", area, sector, x, y)
			}
		}
	}
}
