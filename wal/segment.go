package wal

import (
	"slices"

	"abecedary/api"
	"abecedary/codec"
	"abecedary/disk"
)

const (
	// Of each row of so many areas one is a segment, the one at this place: the others are somebody else's.
	areaRow   = 4
	areaPlace = 1

	// The first byte of a sector says how many of the others are used.
	used = api.Sector - 1
)

func areaOf(number uint64) uint64 {
	return areaRow*number + areaPlace
}

// numbersOn are the numbers of the segments on d, rising.
func numbersOn(d *disk.Disk) []uint64 {
	var numbers []uint64
	for _, area := range d.Areas() {
		if area%areaRow == areaPlace {
			numbers = append(numbers, area/areaRow)
		}
	}
	return numbers
}

// textOf is what the sectors of an area say.
func textOf(d *disk.Disk, area uint64) []byte {
	var text []byte
	for sector := range api.MaxArea {
		b, ok := d.Read(area, sector)
		if !ok {
			break
		}
		n := min(int(b[0]), used)
		text = append(text, b[1:1+n]...)
		if n < used {
			break
		}
	}
	return text
}

// ask tells the index of a segment, and whom to ask for its records, one by one, until there is none; false if it is void.
func ask(d *disk.Disk, number uint64) (uint64, func() ([]byte, bool), bool) {
	r := codec.Read(textOf(d, areaOf(number)))
	index := r.Uint(indexEnd)
	if r.Err() != api.OK {
		return 0, nil, false
	}
	next := func() ([]byte, bool) {
		b := r.Bytes(api.MaxRecord)
		return b, r.Err() == api.OK
	}
	return index, next, true
}

// segment is one that is written. Its text only grows: so it is, whatever versions of its sectors are found, a beginning of what was laid.
type segment struct {
	area   uint64
	sector int    // the one that is written next
	tail   []byte // what that says already
}

// wants tells whether the next record wants another segment: this one was not begun, or is long enough.
func (s *segment) wants() bool {
	begun := s.sector > 0 || len(s.tail) > 0
	return !begun || s.sector >= api.Segment
}

// fits tells what d would refuse of n bytes more. It is asked ahead of the first step, since else half of them would stay there.
func (s *segment) fits(d *disk.Disk, n int) api.Errno {
	more := sectors(len(s.tail)+n) - sectors(len(s.tail))
	switch {
	case d.Dead():
		return api.ErrDiskDead
	case more > d.Room():
		return api.ErrDiskFull
	}
	return api.OK
}

// lay writes x behind the text.
func (s *segment) lay(d *disk.Disk, x []byte) api.Errno {
	left := slices.Concat(s.tail, x)
	for len(left) >= used {
		if e := s.write(d, left[:used]); e != api.OK {
			return e
		}
		s.sector++
		left = left[used:]
	}
	s.tail = left
	if len(left) == 0 {
		return api.OK
	}
	return s.write(d, left)
}

func (s *segment) write(d *disk.Disk, b []byte) api.Errno {
	return d.Write(s.area, s.sector, append([]byte{byte(len(b))}, b...))
}

// sectors is how many n bytes of a text take.
func sectors(n int) int {
	return (n + used - 1) / used
}
