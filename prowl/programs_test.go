package prowl_test

import (
	"math/rand"

	"prowl/api"
)

// whileZero reads bytes as long as they are 0. Blocks: 0, at 0, and 1, at 3; the place 7 counts the bytes that are 0.
var whileZero = []byte{read, jumpZero, 0, stop}

// zeroOrUnder divides, at 7: by 0, if the first byte is not 0, else what is not there.
var zeroOrUnder = []byte{read, jumpZero, 7, push, 1, push, 0, div, stop}

// twoFails comes to one fault, at 3 or at 5.
var twoFails = []byte{read, jumpZero, 5, fail, 7, fail, 7}

// hangOrDone tells by its first byte which way it goes, by its second one whether it hangs then (if that is 0).
var hangOrDone = []byte{read, jumpZero, 5, jump, 5, read, jumpZero, 9, stop, jump, 9}

// below16 goes a way of its own if the first byte is below 16.
var below16 = []byte{read, push, 16, less, jumpZero, 8, jump, 8, stop}

// word fails, with 7, on texts that begin so; each letter is a block of its own.
func word(letters string) []byte {
	var code []byte
	for i := range len(letters) {
		code = append(code, read, push, letters[i], equal, jumpZero, byte(6*len(letters)+2))
	}
	return append(code, fail, 7, stop)
}

// lock fails on one text alone (of at most 13 bytes), and goes the same way on all others.
func lock(text string) []byte {
	code := []byte{push, 0}
	for i := range len(text) {
		code = append(code, read, push, text[i], xor, add)
	}
	code = append(code, read, push, 255, push, 1, add, xor, add)
	return append(code, jumpZero, byte(len(code)+3), stop, fail, 7)
}

// often goes two ways, that count at one place, 47, each once less often than the first byte says: of 65 they count 128.
func often() []byte {
	code := join([]byte{read, push, 1, sub, dup, push, 1, less, jumpZero, 41}, repeat(31, stop))
	return append(code, jump, 1)
}

// hashed fails on texts of one hash alone; on others its cover hangs on how long they are.
func hashed(hash uint16) []byte {
	code := []byte{read, dup, push, 255, push, 1, add, xor, jumpZero, 0, load, 0, push, 31, mul, add, push, 1, add, store, 0}
	code[9] = byte(len(code) + 2)
	code = append(code, jump, 0, load, 0)
	code = append(code, number(hash)...)
	code = append(code, xor)
	return append(code, jumpZero, byte(len(code)+3), stop, fail, 7)
}

func hashOf(text string) uint16 {
	hash := uint16(0)
	for i := range len(text) {
		hash = hash*31 + uint16(text[i]) + 1
	}
	return hash
}

// switches has a way for each of the three lowest bits of the first byte: at the places 8 and 16, if the bit 0 is set,
// at 9, if it is not; at 24 and 32, or at 25, by the bit 1; at 40 and 48, or at 41, by the bit 2.
func switches() []byte {
	code := []byte{read, store, 0}
	for bit := range 3 {
		code = append(code, load, 0, push, 1<<bit, and, jumpZero, byte(len(code)+10), load, 0, drop)
	}
	return append(code, stop)
}

// countdowns has five loops, each of as many rounds as a byte of the input says, modulo 64: it can show more than MaxKept new things.
func countdowns() []byte {
	var code []byte
	for range 5 {
		at := byte(len(code) + 4)
		code = append(code, read, push, 63, and, dup, jumpZero, at+8, push, 1, sub, jump, at, drop)
	}
	return append(code, stop)
}

// faulty comes to a fault by its first byte: 0 to Zero, 1 to Under, 2 to Over, 3 to Full, 4 and 5 to User and User + 255.
func faulty() []byte {
	code := []byte{read, store, 0}
	on := func(n byte, body ...byte) {
		code = append(code, load, 0, push, n, equal, jumpZero, byte(len(code)+7+len(body)))
		code = append(code, body...)
	}
	on(0, push, 0, dup, div)
	on(1, drop)
	on(2, load, 0, jump, byte(len(code)+7))
	on(3, load, 0, put, jump, byte(len(code)+7))
	on(4, fail, 0)
	on(5, fail, 255)
	return append(code, stop)
}

// chanceMaze makes a program in which each byte of the input says which way to go.
func chanceMaze(chance *rand.Rand) []byte {
	var code []byte
	pieces := 2 + chance.Intn(11)
	for range pieces {
		asks := []byte{and, less, equal, div, sub}[chance.Intn(5)]
		code = append(code, read, push, byte(chance.Intn(256)>>chance.Intn(8)), asks, jumpZero, byte(6*chance.Intn(pieces+1)))
	}
	return append(code, stop)
}

// allPrograms are those that the tests of whole prowls go through.
func allPrograms() [][]byte {
	return [][]byte{
		example, whileZero, zeroOrUnder, twoFails, hangOrDone, word("abc"), word("qrstuvw"), lock("bb"), hashed(7), switches(), countdowns(), faulty(), often(),
		{stop}, {jump, 0}, {fail, 0}, {read, put, jump, 0}, {read, drop, jump, 0}, repeat(api.MaxCode, stop),
	}
}
