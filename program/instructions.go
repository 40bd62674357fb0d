// Package program: which bytes are a program of the machine, and where its blocks begin.
package program

// The instructions, by their first byte.
const (
	Stop byte = iota
	Push
	Read
	Dup
	Drop
	Swap
	Add
	Sub
	Mul
	And
	Xor
	Div
	Equal
	Less
	Jump
	JumpZero
	Load
	Store
	Put
	Fail
	Probe
)

// Cells is how many cells the machine has.
const Cells = 16

// Shape is what an instruction is from without: its bytes, and the numbers that it takes from the stack and lays on it.
type Shape struct {
	Size, Takes, Lays int
}

var shapes = [...]Shape{
	Stop:     {1, 0, 0},
	Push:     {2, 0, 1},
	Read:     {1, 0, 1},
	Dup:      {1, 1, 2},
	Drop:     {1, 1, 0},
	Swap:     {1, 2, 2},
	Add:      {1, 2, 1},
	Sub:      {1, 2, 1},
	Mul:      {1, 2, 1},
	And:      {1, 2, 1},
	Xor:      {1, 2, 1},
	Div:      {1, 2, 1},
	Equal:    {1, 2, 1},
	Less:     {1, 2, 1},
	Jump:     {2, 0, 0},
	JumpZero: {2, 1, 0},
	Load:     {2, 0, 1},
	Store:    {2, 1, 0},
	Put:      {1, 1, 0},
	Fail:     {2, 0, 0},
	Probe:    {2, 0, 0},
}

// ShapeOf tells the shape of an instruction (one of those above).
func ShapeOf(op byte) Shape { return shapes[op] }

// ends tells whether a run never goes on to the instruction behind op.
func ends(op byte) bool { return op == Stop || op == Jump || op == Fail }

// leads tells whether op's second byte is a target.
func leads(op byte) bool { return op == Jump || op == JumpZero }

// holds tells whether op's second byte is a cell.
func holds(op byte) bool { return op == Load || op == Store }
