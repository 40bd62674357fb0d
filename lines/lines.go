// Package lines: the lines of a log.
package lines

import (
	"strings"

	"prowl/api"
)

// The letters with which lines begin: what came of the input.
const (
	Kept  = 'q'
	Found = 'c'
)

const digits = "0123456789abcdef"

// Write tells the line of an input, with its end.
func Write(letter byte, input string) string {
	line := []byte{letter, ' '}
	for i := range len(input) {
		line = append(line, digits[input[i]>>4], digits[input[i]&15])
	}
	return string(append(line, '\n'))
}

// Read tells letter and input of a line without its end, and false, if Write makes no such line of an input that may be.
func Read(line string) (byte, string, bool) {
	if len(line) < 2 || line[0] != Kept && line[0] != Found || line[1] != ' ' {
		return 0, "", false
	}
	input, ok := decode(line[2:])
	return line[0], input, ok
}

// decode tells the bytes of which these are the digits. Length goes first, so that a line without end costs nothing.
func decode(coded string) (string, bool) {
	if len(coded) > 2*api.MaxInput || len(coded)%2 != 0 {
		return "", false
	}
	var input []byte
	for at := 0; at < len(coded); at += 2 {
		high := strings.IndexByte(digits, coded[at])
		low := strings.IndexByte(digits, coded[at+1])
		if high < 0 || low < 0 {
			return "", false
		}
		input = append(input, byte(high<<4|low))
	}
	return string(input), true
}
