// Package machine: runs of programs.
package machine

import (
	"prowl/api"
	"prowl/program"
)

// machine is what a run has at one time.
type machine struct {
	stack   []uint16
	cells   [program.Cells]uint16
	input   string // what is left of it
	out     []byte
	next    int // where the next instruction begins
	outcome api.Outcome
	ended   bool
}

// Run lets code run, which must be a program or a probed one, with entries as program.Entries tells them.
func Run(code []byte, entries []int, input string, fuel int) (api.Outcome, []byte) {
	m := machine{input: input}
	var seen trail
	for !m.ended {
		at := m.next
		m.outcome.At = at
		if entries[at] != program.NoBlock {
			seen.come(entries[at])
		}
		m.advance(code[at:], fuel)
	}
	m.outcome.Out = string(m.out)
	return m.outcome, seen.cover()
}

// advance does the instruction at the beginning of rest, if there is fuel for it.
func (m *machine) advance(rest []byte, fuel int) {
	op := rest[0]
	if op != program.Probe {
		if m.outcome.Steps == fuel {
			m.end(api.Hang, 0)
			return
		}
		m.outcome.Steps++
	}
	shape := program.ShapeOf(op)
	m.next += shape.Size
	if fault := misfit(len(m.stack), shape); fault != 0 {
		m.end(api.Fault, fault)
		return
	}
	var n uint16
	if shape.Size > 1 {
		n = uint16(rest[1])
	}
	m.do(op, n)
}

// misfit tells the fault of an instruction of this shape on a stack of this depth; 0, if it is none.
func misfit(depth int, shape program.Shape) int {
	left := depth - shape.Takes
	if left < 0 {
		return api.Under
	}
	if left+shape.Lays > api.MaxStack {
		return api.Over
	}
	return 0
}

// do does an instruction for which the stack is fit; n is its second byte.
func (m *machine) do(op byte, n uint16) {
	a, b := m.take(program.ShapeOf(op).Takes)
	switch op {
	case program.Stop:
		m.end(api.Done, 0)
	case program.Fail:
		m.end(api.Fault, api.User+int(n))
	case program.Read:
		n = m.read()
		fallthrough
	case program.Push:
		m.lay(n)
	case program.Dup:
		b = a
		fallthrough
	case program.Swap:
		m.lay(b, a)
	case program.Sub:
		b = -b
		fallthrough
	case program.Add:
		m.lay(a + b)
	case program.Mul:
		m.lay(a * b)
	case program.And:
		m.lay(a & b)
	case program.Equal:
		// They are equal just if no bit of them differs: if what differs is less than 1.
		a, b = a^b, 1
		fallthrough
	case program.Less:
		m.lay(truth(a < b))
	case program.Xor:
		m.lay(a ^ b)
	case program.Div:
		if b == 0 {
			m.end(api.Fault, api.Zero)
			break
		}
		m.lay(a / b)
	case program.JumpZero:
		if a != 0 {
			break
		}
		fallthrough
	case program.Jump:
		m.next = int(n)
	case program.Load:
		m.lay(m.cells[n])
	case program.Store:
		m.cells[n] = a
	case program.Put:
		m.put(byte(a))
	case program.Drop, program.Probe:
		// What Drop takes is taken by now, and a Probe counts where it is come to.
	}
}

// end makes this the last instruction of the run.
func (m *machine) end(kind, fault int) {
	m.outcome.Kind, m.outcome.Fault, m.ended = kind, fault, true
}

// take takes so many numbers (2 at most) from the stack: a, or a and b.
func (m *machine) take(count int) (uint16, uint16) {
	left := len(m.stack) - count
	var taken [2]uint16
	copy(taken[:], m.stack[left:])
	m.stack = m.stack[:left]
	return taken[0], taken[1]
}

// lay lays numbers on the stack, the last one topmost.
func (m *machine) lay(numbers ...uint16) {
	m.stack = append(m.stack, numbers...)
}

// read tells the next byte of the input, and moves on; 256, if there is none left.
func (m *machine) read() uint16 {
	if m.input == "" {
		return 256
	}
	first := m.input[0]
	m.input = m.input[1:]
	return uint16(first)
}

// put puts a byte out, if there is room.
func (m *machine) put(b byte) {
	if len(m.out) == api.MaxOut {
		m.end(api.Fault, api.Full)
		return
	}
	m.out = append(m.out, b)
}

func truth(holds bool) uint16 {
	if holds {
		return 1
	}
	return 0
}
