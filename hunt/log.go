package hunt

import (
	"strings"

	"prowl/lines"
)

// Log tells a line for each input that was kept or found, in the order in which they came.
func (h *Hunt) Log() string {
	var log strings.Builder
	kept, found := 0, 0
	for _, letter := range h.came {
		if letter == lines.Kept {
			log.WriteString(lines.Write(letter, h.kept.At(kept).text))
			kept++
		} else {
			log.WriteString(lines.Write(letter, h.found.At(found).Input))
			found++
		}
	}
	return log.String()
}

// Follow tries the inputs of a log's lines. It tells the number of the first line, from 1 on, that the log would not
// have then, and false; true, if there is none. A line without an end is none yet.
func (h *Hunt) Follow(log string) (int, bool) {
	line, rest, whole := strings.Cut(log, "\n")
	for number := 1; whole; number++ {
		letter, text, ok := lines.Read(line)
		if !ok || h.Try(text) != letter {
			return number, false
		}
		line, rest, whole = strings.Cut(rest, "\n")
	}
	return 0, true
}
