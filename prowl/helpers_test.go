package prowl_test

import (
	"bytes"
	"math/rand"
	"testing"

	"prowl/api"
	"prowl/prowl"
)

// The document's numbers of the instructions, written out here once more, so that a wrong one in the program shows.
const (
	stop     = 0
	push     = 1
	read     = 2
	dup      = 3
	drop     = 4
	swap     = 5
	add      = 6
	sub      = 7
	mul      = 8
	and      = 9
	xor      = 10
	div      = 11
	equal    = 12
	less     = 13
	jump     = 14
	jumpZero = 15
	load     = 16
	store    = 17
	put      = 18
	fail     = 19
	probe    = 20
)

// example is the document's.
var example = []byte{read, push, 97, equal, jumpZero, 9, fail, 7, stop, stop}

// join lays pieces of code one behind the other.
func join(pieces ...[]byte) []byte { return bytes.Join(pieces, nil) }

func repeat(n int, code ...byte) []byte { return bytes.Repeat(code, n) }

// number lays any number on the stack.
func number(n uint16) []byte {
	return []byte{push, byte(n >> 8), push, 255, push, 1, add, mul, push, byte(n), add}
}

// tell takes the topmost number and puts it out, in two bytes.
func tell() []byte { return []byte{dup, push, 255, push, 1, add, div, put, put} }

// wantRun runs code and holds the outcome, and all that is not 0 in the cover, against what is wanted.
func wantRun(t *testing.T, code []byte, input string, fuel int, want api.Outcome, cover map[int]byte) {
	t.Helper()
	outcome, seen, err := prowl.Run(code, input, fuel)
	if err != api.OK || outcome != want {
		t.Errorf("Run(%v, %q, %d) = %#v, %d, want %#v", code, input, fuel, outcome, err, want)
	}
	if len(seen) != api.MapSize {
		t.Errorf("Run(%v, %q, %d): a cover of %d bytes", code, input, fuel, len(seen))
	}
	for place, class := range seen {
		if class != cover[place] {
			t.Errorf("Run(%v, %q, %d): the cover has %d at %d, want %d", code, input, fuel, class, place, cover[place])
		}
	}
}

// wantOutcome is wantRun for those who don't ask for the cover.
func wantOutcome(t *testing.T, code []byte, input string, fuel int, want api.Outcome) {
	t.Helper()
	outcome, _, err := prowl.Run(code, input, fuel)
	if err != api.OK || outcome != want {
		t.Errorf("Run(%v, %q, %d) = %#v, %d, want %#v", code, input, fuel, outcome, err, want)
	}
}

// wantRefused runs code and asks for an error, and for nothing beside it.
func wantRefused(t *testing.T, code []byte, input string, fuel int, want api.Errno) {
	t.Helper()
	outcome, seen, err := prowl.Run(code, input, fuel)
	if err != want || outcome != (api.Outcome{}) || len(seen) != 0 {
		t.Errorf("Run(%.60v, %.60q, %d) = %#v, %d bytes, %d, want nothing and %d", code, input, fuel, outcome, len(seen), err, want)
	}
}

// long tells whether an instruction has a second byte.
func long(op byte) bool {
	return bytes.IndexByte([]byte{push, jump, jumpZero, load, store, fail, probe}, op) >= 0
}

// places tells where the instructions of sound code begin.
func places(code []byte) []int {
	var at []int
	for i := 0; i < len(code); i++ {
		at = append(at, i)
		if long(code[i]) {
			i++
		}
	}
	return at
}

// chanceProgram makes a program (without Probes) that runs for a while more often than not.
func chanceProgram(chance *rand.Rand) []byte {
	var code []byte
	for range 4 + chance.Intn(25) {
		op := byte(chance.Intn(probe))
		if chance.Intn(3) == 0 {
			op = push
		}
		code = append(code, op)
		if long(op) {
			code = append(code, byte(chance.Intn(16)))
		}
	}
	code = append(code, stop)
	at := places(code)
	for _, i := range at {
		if code[i] == jump || code[i] == jumpZero {
			code[i+1] = byte(at[chance.Intn(len(at))])
		}
	}
	return code
}

func chanceInput(chance *rand.Rand) string {
	input := make([]byte, chance.Intn(api.MaxInput+1))
	for i := range input {
		input[i] = byte(chance.Intn(256))
	}
	return string(input)
}
