package disk

import (
	"bytes"
	"cmp"
	"math"
	"math/rand"
	"slices"
	"testing"

	"abecedary/api"
)

// model is a disk as the chapter tells it, in the plainest way: a list of sectors, each with its versions. It is what the disk is held against.
type model struct {
	room, steps, diesAt int // diesAt is -1 while it is not armed
	dead                bool
	cells               []cell // by rising areas, then sectors
}

// cell has its versions in order; the first one lasts, and is "" if the sector was never synced.
type cell struct {
	area     uint64
	sector   int
	versions []string
}

func newModel(room int) *model {
	return &model{room: max(0, room), diesAt: -1}
}

func (m *model) find(area uint64, sector int) (int, bool) {
	return slices.BinarySearchFunc(m.cells, cell{area: area, sector: sector}, func(a, b cell) int {
		return cmp.Or(cmp.Compare(a.area, b.area), cmp.Compare(a.sector, b.sector))
	})
}

func (m *model) step() bool {
	m.steps++
	m.dead = m.diesAt == m.steps-1
	return !m.dead
}

func (m *model) write(area uint64, sector int, b []byte) api.Errno {
	i, there := m.find(area, sector)
	switch {
	case m.dead:
		return api.ErrDiskDead
	case sector < 0 || sector > 65535 || len(b) > 64:
		return api.ErrDiskForm
	case !there && len(m.cells) == m.room:
		return api.ErrDiskFull
	}
	if !there {
		m.cells = slices.Insert(m.cells, i, cell{area, sector, []string{""}})
	}
	m.cells[i].versions = append(m.cells[i].versions, padded(string(b)))
	if !m.step() {
		return api.ErrDiskDead
	}
	return api.OK
}

func (m *model) sync(area uint64) api.Errno {
	if m.dead || !m.step() {
		return api.ErrDiskDead
	}
	for i, c := range m.cells {
		if c.area == area {
			m.cells[i].versions = []string{c.versions[len(c.versions)-1]}
		}
	}
	return api.OK
}

func (m *model) free(area uint64) api.Errno {
	if m.dead || !m.step() {
		return api.ErrDiskDead
	}
	m.cells = slices.DeleteFunc(m.cells, func(c cell) bool { return c.area == area })
	return api.OK
}

func (m *model) arm(at int) {
	switch {
	case m.dead:
	case at < 0 || at > math.MaxInt-m.steps:
		m.diesAt = -1
	default:
		m.diesAt = m.steps + at
	}
}

func (m *model) crash(picks []int) *model {
	n := newModel(m.room)
	for _, c := range m.cells {
		found := c.versions[0]
		if len(c.versions) > 1 && len(picks) > 0 {
			if picks[0] > 0 {
				found = c.versions[picks[0]%len(c.versions)]
			}
			picks = picks[1:]
		}
		if found != "" {
			n.cells = append(n.cells, cell{c.area, c.sector, []string{found}})
		}
	}
	return n
}

func (m *model) clone() *model {
	n := *m
	n.cells = nil
	for _, c := range m.cells {
		n.cells = append(n.cells, cell{c.area, c.sector, slices.Clone(c.versions)})
	}
	return &n
}

// padded is s with bytes 0 behind it, 64 in all.
func padded(s string) string {
	return s + string(make([]byte, 64-len(s)))
}

// checkModel holds all that d tells against m.
func checkModel(t *testing.T, d *Disk, m *model) {
	t.Helper()
	var areas []uint64
	ends := map[uint64]int{}
	for _, c := range m.cells {
		if !slices.Contains(areas, c.area) {
			areas = append(areas, c.area)
		}
		ends[c.area] = c.sector + 1
	}
	if got := d.Areas(); !slices.Equal(got, areas) {
		t.Errorf("Areas() = %d, want %d", got, areas)
	}
	if d.Room() != m.room-len(m.cells) || d.Steps() != m.steps || d.Dead() != m.dead {
		t.Errorf("Room %d, Steps %d, Dead %v, want %d, %d, %v", d.Room(), d.Steps(), d.Dead(), m.room-len(m.cells), m.steps, m.dead)
	}
	for _, area := range someAreas {
		if got := d.Sectors(area); got != ends[area] {
			t.Errorf("Sectors(%d) = %d, want %d", area, got, ends[area])
		}
		for _, sector := range someSectors {
			got, ok := d.Read(area, sector)
			i, there := m.find(area, sector)
			if !there {
				if ok || len(got) != 0 {
					t.Errorf("Read(%d, %d) = %q, %v, want none", area, sector, got, ok)
				}
				continue
			}
			versions := m.cells[i].versions
			if want := versions[len(versions)-1]; !ok || string(got) != want {
				t.Errorf("Read(%d, %d) = %q, %v, want %q", area, sector, got, ok, want)
			}
			// It is the caller's own: the next time it is read as it was.
			clear(got)
		}
	}
}

var (
	someAreas   = []uint64{0, 1, 5, math.MaxUint64}
	someSectors = []int{math.MinInt, -1, 0, 1, 2, api.MaxArea - 1, api.MaxArea, math.MaxInt}
	someSizes   = []int{0, 1, 2, 63, 64, 65, 200}
	someTimes   = []int{math.MinInt, -1, 0, 1, 2, 3, 5, math.MaxInt}
)

func oneOf[T any](r *rand.Rand, l []T) T {
	return l[r.Intn(len(l))]
}

func somePicks(r *rand.Rand) []int {
	picks := make([]int, r.Intn(12))
	for i := range picks {
		picks[i] = oneOf(r, []int{math.MinInt, -1, 0, 1, 2, 3, 4, 5, 1000, math.MaxInt})
	}
	return picks
}

// doOne does the same to both, and holds their answers against each other; it tells with which ones to go on.
func doOne(t *testing.T, r *rand.Rand, d *Disk, m *model) (*Disk, *model) {
	t.Helper()
	area, sector := oneOf(r, someAreas), oneOf(r, someSectors)
	var got, want api.Errno
	switch n := r.Intn(40); {
	case n < 22:
		b := make([]byte, oneOf(r, someSizes))
		for i := range b {
			b[i] = byte(r.Intn(256))
		}
		same := bytes.Clone(b)
		got, want = d.Write(area, sector, b), m.write(area, sector, b)
		if !bytes.Equal(b, same) {
			t.Errorf("Write has changed what it was given")
		}
		clear(b)
	case n < 28:
		got, want = d.Sync(area), m.sync(area)
	case n < 31:
		got, want = d.Free(area), m.free(area)
	case n < 34:
		at := oneOf(r, someTimes)
		d.Arm(at)
		m.arm(at)
	case n < 36:
		c, k := d.Clone(), m.clone()
		if r.Intn(2) == 0 {
			doSome(t, r, c, k, 4)
			break
		}
		doSome(t, r, d, m, 4)
		return c, k
	default:
		picks := somePicks(r)
		same := slices.Clone(picks)
		c, k := d.Crash(picks), m.crash(picks)
		if !slices.Equal(picks, same) {
			t.Errorf("Crash has changed what it was given")
		}
		clear(picks)
		if r.Intn(3) == 0 {
			doSome(t, r, c, k, 4)
			break
		}
		doSome(t, r, d, m, 4)
		return c, k
	}
	if got != want {
		t.Errorf("at area %d, sector %d: %d, want %d", area, sector, got, want)
	}
	return d, m
}

func doSome(t *testing.T, r *rand.Rand, d *Disk, m *model, calls int) {
	t.Helper()
	for range calls {
		d, m = doOne(t, r, d, m)
		checkModel(t, d, m)
		if t.Failed() {
			t.FailNow()
		}
	}
}

// P3.1 to P3.5, R5, R6: scripts of all calls, with disks that crash and are cloned, and go on.
func TestAgainstModel(t *testing.T) {
	for seed := range 1000 {
		r := rand.New(rand.NewSource(int64(seed)))
		room := r.Intn(14) - 1
		doSome(t, r, New(room), newModel(room), 40)
	}
}
