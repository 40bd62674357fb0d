// Package changes: texts that differ a little from a text. Texts have at most api.MaxInput bytes.
package changes

import (
	"slices"

	"prowl/api"
)

// marked are the numbers at whose sides programs tend to part.
var marked = [...]byte{0, 1, 127, 128, 255}

// steps is by how much a byte is raised or lowered at most.
const steps = 4

// kind is a kind of change: how many there are of it, and how the n-th is made, of a text that may be written to.
type kind struct {
	many   int
	change func(text []byte, n int) []byte
}

// Mutant tells the n-th of all small changes of a text, and false, if there is none.
func Mutant(text string, n int) (string, bool) {
	if n < 0 {
		return "", false
	}
	for _, k := range kinds(len(text)) {
		if n < k.many {
			return string(k.change([]byte(text), n)), true
		}
		n -= k.many
	}
	return "", false
}

// Mutants tells how many small changes a text has.
func Mutants(text string) int {
	many := 0
	for _, k := range kinds(len(text)) {
		many += k.many
	}
	return many
}

// kinds tells the kinds of change of a text of so many bytes, in their order.
func kinds(length int) []kind {
	doubled := length
	if length >= api.MaxInput {
		doubled = 0
	}
	return []kind{
		{8 * length, invertBit},
		{max(8*length-1, 0), invertTwoBits},
		{length, invertByte},
		{steps * length, raise},
		{steps * length, lower},
		{len(marked) * length, mark},
		{length, takeOut},
		{doubled, double},
	}
}

func invertBit(text []byte, n int) []byte {
	text[n/8] ^= 128 >> (n % 8)
	return text
}

func invertTwoBits(text []byte, n int) []byte {
	return invertBit(invertBit(text, n), n+1)
}

func invertByte(text []byte, n int) []byte {
	text[n] ^= 255
	return text
}

func raise(text []byte, n int) []byte {
	text[n/steps] += byte(n%steps + 1)
	return text
}

func lower(text []byte, n int) []byte {
	text[n/steps] -= byte(n%steps + 1)
	return text
}

func mark(text []byte, n int) []byte {
	text[n/len(marked)] = marked[n%len(marked)]
	return text
}

func takeOut(text []byte, n int) []byte {
	return slices.Delete(text, n, n+1)
}

func double(text []byte, n int) []byte {
	return slices.Insert(text, n, text[n])
}
