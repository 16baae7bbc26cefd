package wal

import (
	"bytes"
	"fmt"
	"math/rand"
	"slices"
	"strings"
	"testing"

	"abecedary/api"
	"abecedary/disk"
)

// op is one call of a script: 'a' appends a record of n bytes; 's' syncs; 't' takes away the last n records; 'c' takes away the first n; 'C' takes away all from the front; 'r' resets to n.
type op struct {
	kind byte
	n    int
}

// play is a log that a script is played on, beside what it should tell.
type play struct {
	d       *disk.Disk
	w       *Wal
	now     state
	moments []state // since the last Sync that answered OK, or since it was opened
	mark    string  // no two plays of a test append the same
	count   int
}

// begin plays on w, which has just been opened.
func begin(t *testing.T, d *disk.Disk, w *Wal, mark string) *play {
	t.Helper()
	now := tells(t, w)
	return &play{d: d, w: w, now: now, moments: []state{now}, mark: mark}
}

// do makes one call, and tells what it answered.
func (p *play) do(o op) api.Errno {
	next := state{p.now.first, slices.Clone(p.now.records)}
	n := min(o.n, len(next.records))
	var e api.Errno
	switch o.kind {
	case 'a':
		p.count++
		r := (fmt.Sprint(p.mark, p.count, ".") + strings.Repeat(string(rune('a'+p.count%26)), 600))[:o.n]
		e = p.w.Append([]byte(r))
		next.records = append(next.records, r)
	case 's':
		e = p.w.Sync()
		if e == api.OK {
			p.moments = nil
		}
	case 't':
		e = p.w.Truncate(next.end() - uint64(n))
		next.records = next.records[:len(next.records)-n]
	case 'c', 'C':
		if o.kind == 'C' {
			n = len(next.records)
		}
		next = state{next.first + uint64(n), next.records[n:]}
		e = p.w.Compact(next.first)
	case 'r':
		next = state{uint64(o.n), nil}
		e = p.w.Reset(next.first)
	}
	// What is cut off may be found as done.
	p.moments = append(p.moments, next)
	if e == api.OK {
		p.now = next
	}
	return e
}

// all plays a script until a call is refused, and holds what the log tells against what it should.
func (p *play) all(t *testing.T, script []op) {
	t.Helper()
	for _, o := range script {
		e := p.do(o)
		if e != api.OK {
			want(t, "a call on a disk that dies", e, api.ErrDiskDead)
			break
		}
	}
	wantTells(t, "played", p.w, p.now)
}

// fits tells whether what w tells is what a log may be found as that was x.
func fits(w *Wal, x state) bool {
	if w.Last() != x.end()-1 || w.First() > x.first {
		return false
	}
	for i, r := range x.records {
		b, ok := w.Get(x.first + uint64(i))
		if !ok || string(b) != r {
			return false
		}
	}
	return true
}

// checkFound holds a disk that was found against P5.4.
func checkFound(t *testing.T, what string, d *disk.Disk, from, first uint64, moments []state) {
	t.Helper()
	w, e := Open(d.Clone(), from, first)
	if e != api.OK || w == nil {
		t.Fatalf("%s: Open of what is found: %d", what, e)
	}
	if !slices.ContainsFunc(moments, func(x state) bool { return fits(w, x) }) {
		t.Fatalf("%s: %d to %d is found, and was never there", what, w.First(), w.Last())
	}
}

// eachPick are the picks of so many sectors with so many versions, all of them.
func eachPick(sectors, versions int) [][]int {
	all := [][]int{nil}
	for range sectors {
		var more [][]int
		for _, p := range all {
			for v := range versions {
				more = append(more, append(slices.Clone(p), v))
			}
		}
		all = more
	}
	return all
}

// somePicks are picks of many sectors: none, all, one, all but one, the first ones, the last ones, and some by lot.
func somePicks(r *rand.Rand, sectors int) [][]int {
	all := [][]int{nil}
	add := func(f func(i int) int) {
		p := make([]int, sectors)
		for i := range p {
			p[i] = f(i)
		}
		all = append(all, p)
	}
	pick := func(ok bool) int {
		if ok {
			return 1
		}
		return 0
	}
	for v := range 4 {
		add(func(int) int { return v })
	}
	for k := range sectors {
		add(func(i int) int { return pick(i == k) })
		add(func(i int) int { return pick(i != k) })
		add(func(i int) int { return pick(i < k) })
		add(func(i int) int { return pick(i > k) })
		add(func(int) int { return r.Intn(4) })
	}
	return all
}

// lots are some picks of those.
func lots(r *rand.Rand, count int) [][]int {
	all := somePicks(r, 20)
	r.Shuffle(len(all), func(i, j int) { all[i], all[j] = all[j], all[i] })
	return all[:count]
}

// foundOn are the disks that may be found, each once.
func foundOn(d *disk.Disk, picks [][]int) []*disk.Disk {
	seen := map[string]bool{}
	var all []*disk.Disk
	for _, p := range picks {
		c := d.Crash(p)
		if s := image(c); !seen[s] {
			seen[s] = true
			all = append(all, c)
		}
	}
	return all
}

// trial is a script, on a disk, and what is played on what is found, if that is to die too.
type trial struct {
	name         string
	d            *disk.Disk
	from, first  uint64
	script       []op
	picks        [][]int
	again        []op
	picksOfAgain [][]int
}

// die lets the disk die at each step of Open and the script; of each disk that is found, again at each step.
func (x trial) die(t *testing.T) {
	t.Helper()
	for at := 0; ; at++ {
		c := x.d.Clone()
		c.Arm(at)
		moments, ok := x.play(t, c, x.script, fmt.Sprint("m", at))
		for i, f := range foundOn(c, x.picks) {
			what := fmt.Sprintf("%s, dead at %d, found %d", x.name, at, i)
			checkFound(t, what, f, x.from, x.first, moments)
			if x.again != nil {
				y := trial{what, f, x.from, x.first, x.again, x.picksOfAgain, nil, nil}
				y.die(t)
			}
		}
		if ok {
			return
		}
	}
}

// play plays a script on a disk that may die, at Open too; it tells the moments, and whether it went to the end.
func (x trial) play(t *testing.T, d *disk.Disk, script []op, mark string) ([]state, bool) {
	t.Helper()
	// If it dies at Open: the log is what it would have told.
	c := d.Clone()
	c.Arm(-1)
	ahead := tells(t, open(t, c, x.from, x.first))
	w, e := Open(d, x.from, x.first)
	if e != api.OK {
		want(t, "Open", e, api.ErrDiskDead)
		return []state{ahead}, false
	}
	p := begin(t, d, w, mark)
	p.all(t, script)
	return p.moments, !d.Dead()
}

// A script by its text: each call is its letter and its number.
func scripted(text string) []op {
	var ops []op
	for _, word := range strings.Fields(text) {
		o := op{kind: word[0]}
		fmt.Sscan(word[1:], &o.n)
		ops = append(ops, o)
	}
	return ops
}

// P5.4: short scripts, with each version of each sector, and once more behind that.
func TestCrashEachVersion(t *testing.T) {
	again := scripted("a9 a70 s t1 a9 c2 a9")
	for _, text := range []string{
		"a5 a5 s a5 a5",
		"a5 s a5 t1 a5 s",
		"a5 a5 a5 t2 a5 t1 a5",
		"a5 a5 t2 a5 c1 a5 s",
		"a5 a5 a5 c2 a5 c1 t1 a5",
		"a5 a5 s t1 t1 a5 s a5 C a5",
		"a5 s a5 a5 t1 c2 a5 s t1 a5 s",
		"a60 a60 s a60 a5",
		"a61 a1 a63 s a62",
		"a60 t1 a60 c1 a60 s C",
	} {
		x := trial{text, disk.New(999), 0, 1, scripted(text), eachPick(4, 4), again, eachPick(3, 4)}
		x.die(t)
	}
}

// P5.4: from disks on which something was.
func TestCrashOnOtherDisks(t *testing.T) {
	again := scripted("a9 s t3 a9")
	for name, x := range map[string]struct {
		from  uint64
		texts [][]byte
	}{
		"records":           {0, [][]byte{written(5, "a", "b"), written(7, "c")}},
		"torn":              {0, [][]byte{append(written(5, "a", "b"), 9, 'x')}},
		"void":              {0, [][]byte{nil, written(5, "a"), nil, nil, written(6, "b"), nil}},
		"falling":           {0, [][]byte{written(9, "a", "b"), written(7, "c", "d", "e"), written(5, "f", "g", "h"), written(7, "i")}},
		"cut":               {0, [][]byte{written(5, "a", "b", "c"), written(6, "d", "e"), written(6), written(6), written(6, "f")}},
		"below from":        {2, [][]byte{written(5, "a"), written(9, "b"), written(7, "c"), written(8, "d")}},
		"all below from":    {5, [][]byte{written(5, "a"), written(9, "b"), nil}},
		"not one record":    {0, [][]byte{written(5), written(5), written(5)}},
		"the index 0":       {0, [][]byte{written(0), written(0, "a")}},
		"the last index":    {0, [][]byte{written(two62-7, "a"), written(two62 - 6)}},
		"sectors of no use": {0, [][]byte{written(5, "a"), append([]byte{5, 1, 'a'}, bytes.Repeat([]byte{'x'}, 200)...)}},
	} {
		d := disk.New(999)
		for n, text := range x.texts {
			lay(t, d, uint64(n), text)
		}
		for _, text := range []string{"a5 s a5 a5 s", "t1 a5 s C", "t2 t1 a5 a5 s", "c1 a5 c1 a5 s", "C a5 s a5", "a5 t3 a5 c1 s"} {
			x := trial{name + ": " + text, d, x.from, 3, scripted(text), eachPick(3, 3), again, eachPick(2, 3)}
			x.die(t)
		}
	}
}

// P5.4: long records over many sectors and segments.
func TestCrashLongRecords(t *testing.T) {
	r := rand.New(rand.NewSource(54))
	for _, text := range []string{
		"a512 a300 s a512 a512 a512 s a512",
		"a500 a500 a500 a500 t3 a500 s t1 a500",
		"a500 a500 a500 a500 a500 c3 a500 a500 C a500",
		"a500 a500 s a500 a500 s a500 a500 s t5 a9 s",
	} {
		x := trial{text, disk.New(9999), 0, 1, scripted(text), somePicks(r, 20), nil, nil}
		x.die(t)
		x.picks, x.again, x.picksOfAgain = lots(r, 3), scripted("a200 t2 a9 s c1"), lots(r, 3)
		x.die(t)
	}
}

// someScript is a script by lot.
func someScript(r *rand.Rand, calls int) []op {
	most := []int{10, 100, 512}[r.Intn(3)]
	var ops []op
	for range calls {
		switch r.Intn(16) {
		case 0, 1, 2:
			ops = append(ops, op{'s', 0})
		case 3, 4:
			ops = append(ops, op{'t', r.Intn(5)})
		case 5:
			ops = append(ops, op{'t', r.Intn(50)})
		case 6, 7:
			ops = append(ops, op{'c', r.Intn(4)})
		case 8:
			ops = append(ops, op{'C', 0})
		default:
			ops = append(ops, op{'a', r.Intn(most + 1)})
		}
	}
	return ops
}

// P5.4: scripts by lot, that die by lot, many times one behind the other.
func TestCrashByLot(t *testing.T) {
	r := rand.New(rand.NewSource(540))
	for i := range 2000 {
		d := disk.New(99999)
		x := trial{name: fmt.Sprint("by lot, ", i), first: uint64(r.Intn(3)), from: uint64(r.Intn(3))}
		for life := range 6 {
			d.Arm(r.Intn(60))
			moments, _ := x.play(t, d, someScript(r, 40), fmt.Sprint("l", life, "."))
			d = d.Crash(lots(r, 1)[0])
			checkFound(t, x.name, d, x.from, x.first, moments)
		}
	}
}

// P5.5: scripts by lot: behind each Sync the log is opened anew, and found as it is, also by what the test looks for itself.
func TestScriptsByLot(t *testing.T) {
	r := rand.New(rand.NewSource(55))
	for range 300 {
		d := disk.New(99999)
		from, first := uint64(r.Intn(3)), uint64(r.Intn(4))
		p := begin(t, d, open(t, d, from, first), "s")
		for _, o := range someScript(r, 60) {
			had := len(p.now.records)
			if r.Intn(20) == 0 {
				o = op{'r', r.Intn(300)}
			}
			want(t, "a call", p.do(o), api.OK)
			wantTells(t, "a call", p.w, p.now)
			if o.kind == 'C' && had > 0 && len(segmentsOn(d)) > 2 {
				t.Errorf("%d segments behind Compact", len(segmentsOn(d)))
			}
			if o.kind != 's' {
				continue
			}
			wantFound(t, "synced", d, from, first, p.now)
			wantFound(t, "synced, and found", d.Crash([]int{1, 1, 1}), from, first, p.now)
			if f := look(d, from, first); f.e != api.OK || f.next != p.w.Next() && len(f.kept) > 0 || f.state.end() != p.now.end() {
				t.Errorf("the test looks for %v", f)
			}
			if r.Intn(4) == 0 {
				p = begin(t, d, open(t, d, from, first), p.mark+"s")
			}
		}
		if t.Failed() {
			return
		}
	}
}

// P5.3: a Reset that is cut off at each step. Whoever says from, as Next() had been, finds nothing of what was there.
func TestResetCutOff(t *testing.T) {
	r := rand.New(rand.NewSource(53))
	for at := 0; ; at++ {
		d := disk.New(9999)
		lay(t, d, 3, written(7, "old"))
		p := begin(t, d, open(t, d, 0, 1), "r")
		p.all(t, scripted("a500 a500 a500 a500 a500 s t2 a9 a500 a500"))
		x, next := p.now, p.w.Next()
		d.Arm(at)
		e := p.w.Reset(40)
		if e == api.OK {
			wantTells(t, "Reset", p.w, state{40, nil})
			x = state{40, nil}
		} else {
			want(t, "Reset", e, api.ErrDiskDead)
			wantStuck(t, "Reset", p.w, d, api.ErrDiskDead)
		}
		wantTells(t, "Reset", p.w, x)
		wantNext(t, "Reset", p.w, next)
		for _, f := range foundOn(d, somePicks(r, 9)) {
			// It can be opened without that, too, and be reset then.
			v := open(t, f.Clone(), 0, 1)
			want(t, "Reset again", v.Reset(41), api.OK)
			wantTells(t, "Reset again", v, state{41, nil})

			w := open(t, f, next, 40)
			wantTells(t, "from", w, state{40, nil})
			wantNext(t, "from", w, next)
			if len(f.Areas()) != 0 {
				t.Errorf("cut off at %d: areas %d", at, f.Areas())
			}
			y := trial{"behind Reset", f, next, 40, scripted("a5 s t1 a70"), eachPick(3, 3), nil, nil}
			y.die(t)
		}
		if e == api.OK {
			break
		}
	}
}
