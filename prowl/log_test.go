package prowl_test

import (
	"strings"
	"testing"
)

// P12: lines of both letters, in the order in which they came.
func TestLog(t *testing.T) {
	p := begin(t, example, 1, 100, "b", "c", "a", "aa")
	wantLog(t, p, "q 62\nc 61\n")
	p = begin(t, example, 1, 100, "aa", "a", "c", "b")
	wantLog(t, p, "c 6161\nq 63\n")
	p = begin(t, faulty(), 1, 500, "\x04z", "\x09z", "\x00", "\x04", "\x02a", "\xff", "\x05")
	wantLog(t, p, "c 047a\nq 097a\nc 00\nc 0261\nc 05\n")
	p = begin(t, word("ab"), 1, 500, "x", "abz", "az", "ab")
	wantLog(t, p, "q 78\nc 61627a\nq 617a\n")
}

// P12: a prowl that has nothing has no line.
func TestLogOfNothing(t *testing.T) {
	wantLog(t, begin(t, example, 1, 100), "")
	wantLog(t, begin(t, []byte{jump, 0}, 1, 100, "a", "b"), "")
	wantLog(t, resume(t, example, "", 1, 100), "")
}

// P12: inputs without bytes, of both letters.
func TestLogOfNoBytes(t *testing.T) {
	wantLog(t, begin(t, example, 1, 100, ""), "q \n")
	wantLog(t, begin(t, []byte{fail, 0}, 1, 100, ""), "c \n")
	wantLog(t, begin(t, twoFails, 1, 100, "", "\x00"), "c \nc 00\n")
	wantLog(t, begin(t, whileZero, 1, 100, "", "\x00"), "q \nq 00\n")
}

// P12: all sixteen digits, at both places.
func TestLogDigits(t *testing.T) {
	wantLog(t, begin(t, []byte{stop}, 1, 100, "\x01\x23\x45\x67\x89\xab\xcd\xef"), "q 0123456789abcdef\n")
	wantLog(t, begin(t, []byte{stop}, 1, 100, "\x10\x32\x54\x76\x98\xba\xdc\xfe"), "q 1032547698badcfe\n")
	wantLog(t, begin(t, []byte{fail, 0}, 1, 100, "\xfe\xdc\xba\x98\x76\x54\x32\x10"), "c fedcba9876543210\n")
	wantLog(t, begin(t, []byte{stop}, 1, 100, "\n q\xff\x00"), "q 0a2071ff00\n")
	wantLog(t, begin(t, []byte{stop}, 1, 100, strings.Repeat("\xff", 24)), "q "+strings.Repeat("ff", 24)+"\n")
}

// P12: the lines of what Go keeps and finds stand behind those of New, and only what is new has one.
func TestLogBehindGo(t *testing.T) {
	p := begin(t, example, 1, 100, "b")
	wantLog(t, p, "q 62\n")
	goOn(t, p, 14)
	wantLog(t, p, "q 62\n")
	goOn(t, p, 1)
	wantLog(t, p, "q 62\nc 61\n")
	goOn(t, p, 2000)
	wantLog(t, p, "q 62\nc 61\n")
	p = begin(t, word("abc"), 1, 200, "ccc")
	goOn(t, p, 7)
	wantLog(t, p, "q 636363\nq 616363\n")
}

// P12: a line for each input and each crash.
func TestLogHasAll(t *testing.T) {
	for _, code := range allPrograms() {
		p := begin(t, code, 2, 400, "", "ab", "\x00\x01")
		if len(p.Kept()) > 0 {
			goOn(t, p, 1500)
		}
		log := p.Log()
		kept, found := p.Kept(), p.Crashes()
		for line := range strings.Lines(log) {
			input := ""
			switch line[0] {
			case 'q':
				input, kept = kept[0], kept[1:]
			case 'c':
				input, found = found[0].Input, found[1:]
			}
			if line != hexLine(line[0], input) {
				t.Errorf("the line %q is of the input %q", line, input)
			}
		}
		if len(kept) > 0 || len(found) > 0 {
			t.Errorf("%q has no line of %q, %v", log, kept, found)
		}
	}
}

// hexLine tells the line of an input by the document's words.
func hexLine(letter byte, input string) string {
	line := string(letter) + " "
	for i := range len(input) {
		line += string("0123456789abcdef"[input[i]/16]) + string("0123456789abcdef"[input[i]%16])
	}
	return line + "\n"
}
