package pack

import (
	"bytes"
	"slices"
	"testing"

	"abecedary/api"
)

// handed are machines to hand in: right ones, and such as are refused at each of the steps.
func handed() []api.Machine {
	return append(rightOnes(),
		machine(1),
		machine(0, end()),
		machine(1, end(), inner(arc('b', 0, 0), arc('a', 0, 0))),
		machine(1, end(), inner(arc('a', 1, 0))),
		machine(1, end(), inner(arc('a', 0, 7))),
		machine(1, end(), inner(arc('y', 0, 0)), inner(arc('x', 0, 0)), inner(arc('a', 0, 2), arc('b', 0, 1))),
		machine(1, end(), inner(arc('z', 0, 0)), inner(arc('y', 0, 0)), inner(arc('z', 0, 0)), inner(arc('a', 0, 1), arc('b', 0, 2), arc('c', 0, 3))),
		chain(api.MaxRunes+1),
		ladder(13, 2),
	)
}

// roomy is m with something behind the ends of all of its lists.
func roomy(m api.Machine) (api.Machine, api.Machine) {
	whole := cloned(m)
	for i, s := range whole.States {
		whole.States[i].Arcs = append(s.Arcs, arc('#', 6, 6))
	}
	whole.States = append(whole.States, final(6, arc('#', 6, 6)))
	part := whole
	part.States = slices.Clone(whole.States)
	for i := range m.States {
		part.States[i].Arcs = part.States[i].Arcs[:len(m.States[i].Arcs)]
	}
	return part, whole
}

// R5: what is handed in stays as it was, and so does what lies behind its ends.
func TestWhatIsHandedInStays(t *testing.T) {
	for i, m := range handed() {
		part, whole := roomy(m)
		room := cloned(part)
		wasWhole := cloned(whole)
		short := part
		short.States = part.States[:len(m.States)]
		Right(short)
		Pack(short)
		if !sameMachine(part, room) || !sameMachine(whole, wasWhole) {
			t.Errorf("the machine %d, or what lies behind its lists, has changed", i)
		}
		b := append(written(numbersOf(m)...), 7, 7, 7)
		was := bytes.Clone(b)
		Unpack(b[:len(b)-3])
		Unpack(b)
		if !bytes.Equal(b, was) {
			t.Errorf("the bytes of the machine %d have changed", i)
		}
	}
}

// R6: bytes are bound neither to the machine that was handed in, nor to those that are told later.
func TestBytesAreTheCallersOwn(t *testing.T) {
	for i, m := range rightOnes() {
		b, _ := Pack(m)
		was := bytes.Clone(b)
		again, _ := Pack(m)
		again = again[:cap(again)]
		for k := range again {
			again[k] = 0xee
		}
		if third, e := Pack(m); e != api.OK || !bytes.Equal(b, was) || !bytes.Equal(third, was) {
			t.Errorf("to write into bytes of the machine %d changes others", i)
		}
		spoil(m)
		if !bytes.Equal(b, was) {
			t.Errorf("to write into the machine %d changes its bytes", i)
		}
	}
}

func spoil(m api.Machine) {
	for i, s := range m.States {
		for k := range s.Arcs {
			s.Arcs[k] = arc('x', -9, -9)
		}
		m.States[i] = final(-9)
	}
}

// R6: machines are bound neither to the bytes, nor to machines that are told later.
func TestMachinesAreTheCallersOwn(t *testing.T) {
	for i, m := range rightOnes() {
		b := written(numbersOf(m)...)
		got, _ := Unpack(b)
		again, _ := Unpack(b)
		spoil(again)
		if third, e := Unpack(b); e != api.OK || !sameMachine(got, m) || !sameMachine(third, m) {
			t.Errorf("to write into a machine read from the bytes %d changes another one", i)
		}
		for k := range b {
			b[k] = 0xee
		}
		if !sameMachine(got, m) {
			t.Errorf("to write into the bytes %d changes their machine", i)
		}
	}
}

// R6: no two lists of one machine share memory, not even behind their ends.
func TestListsLieApart(t *testing.T) {
	for i, want := range rightOnes() {
		m, _ := Unpack(written(numbersOf(want)...))
		for j := range m.States {
			want := cloned(m)
			arcs := m.States[j].Arcs
			room := arcs[:cap(arcs)]
			for k := range room {
				room[k] = arc('x', -9, -9)
			}
			want.States[j], m.States[j] = api.State{}, api.State{}
			if !sameMachine(m, want) {
				t.Errorf("to write into the arcs of the state %d of the machine %d changes another state", j, i)
			}
		}
	}
}

// R7
func TestTheSameIsToldAlways(t *testing.T) {
	for i, m := range handed() {
		right := Right(m)
		b, e := Pack(m)
		read, f := Unpack(written(numbersOf(m)...))
		for range 10 {
			if Right(m) != right {
				t.Errorf("Right tells other things of the machine %d", i)
			}
			if again, g := Pack(m); g != e || !bytes.Equal(again, b) {
				t.Errorf("Pack tells other things of the machine %d", i)
			}
			if again, g := Unpack(written(numbersOf(m)...)); g != f || !sameMachine(again, read) {
				t.Errorf("Unpack tells other things of the machine %d", i)
			}
		}
	}
}
