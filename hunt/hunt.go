// Package hunt: inputs that are tried on a program, what is kept and found by them, and which ones are tried next.
package hunt

import (
	"bytes"

	"prowl/api"
	"prowl/chance"
	"prowl/lines"
	"prowl/list"
	"prowl/machine"
	"prowl/program"
)

// nothing is what Try tells of an input that shows nothing new.
const nothing = 0

// input is one that is kept, with what it saw.
type input struct {
	text  string
	cover []byte
}

// has tells whether the input saw this bit at this place.
func (i input) has(place int, bit byte) bool {
	return i.cover[place]&bit != 0
}

// Hunt is what a prowl has at one time. What was seen is what the kept inputs saw, so it needs no room of its own.
type Hunt struct {
	code   []byte
	fuel   int
	seed   chance.Seed
	status api.Status
	kept   list.List[input]
	found  list.List[api.Crash]
	came   []byte            // the letters of the log's lines
	worked [api.MaxKept]bool // which of the kept inputs were at work before
}

// New begins a hunt for the faults of a program, which program.Check has found to be one.
func New(code []byte, seed uint64, fuel int) Hunt {
	return Hunt{code: bytes.Clone(code), seed: chance.Seed(seed), fuel: fuel}
}

// Try runs an input, and tells the letter of the line that the log has of it then, or nothing.
func (h *Hunt) Try(text string) byte {
	outcome, cover := machine.Run(h.code, program.Entries(h.code), text, h.fuel)
	h.status.Tries++
	switch outcome.Kind {
	case api.Fault:
		return h.find(api.Crash{Input: text, Fault: outcome.Fault, At: outcome.At})
	case api.Hang:
		h.status.Hangs++
		return nothing
	}
	return h.keep(input{text, cover})
}

func (h *Hunt) find(crash api.Crash) byte {
	same := func(other api.Crash) bool {
		return other.Fault == crash.Fault && other.At == crash.At
	}
	if h.found.Has(same) {
		return nothing
	}
	h.found.Add(crash)
	h.came = append(h.came, lines.Found)
	return lines.Found
}

func (h *Hunt) keep(done input) byte {
	if h.kept.Len() >= api.MaxKept || !h.isNew(done.cover) {
		return nothing
	}
	h.kept.Add(done)
	h.came = append(h.came, lines.Kept)
	return lines.Kept
}

// isNew tells whether a cover has what no kept input has. A cover has one bit at a place at most.
func (h *Hunt) isNew(cover []byte) bool {
	for place, bit := range cover {
		has := func(other input) bool { return other.has(place, bit) }
		if bit != 0 && !h.kept.Has(has) {
			return true
		}
	}
	return false
}
