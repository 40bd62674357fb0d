package hunt

import (
	"prowl/api"
	"prowl/changes"
)

// CanGo tells whether there is an input of which changes can be tried.
func (h *Hunt) CanGo() bool {
	return h.kept.Len() > 0
}

// Go tries so many changes; it must be that it CanGo.
func (h *Hunt) Go(tries int) {
	for range tries {
		h.Try(h.change())
		h.status.Changes++
		if h.status.Changes == h.planned() {
			h.moveOn()
		}
	}
}

// change makes the next change of the input that is at work.
func (h *Hunt) change() string {
	text := h.kept.At(h.status.Entry).text
	if h.status.Changes < h.small() {
		mutant, _ := changes.Mutant(text, h.status.Changes)
		return mutant
	}
	other := h.kept.At(h.seed.Below(h.kept.Len())).text
	return changes.Wild(text, other, &h.seed)
}

// small tells how many small changes are tried of the input that is at work: none, if they were tried before.
func (h *Hunt) small() int {
	if h.worked[h.status.Entry] {
		return 0
	}
	return changes.Mutants(h.kept.At(h.status.Entry).text)
}

// planned tells after how many changes another input is at work.
func (h *Hunt) planned() int {
	return h.small() + api.Rounds
}

// moveOn makes the next favoured input the one that is at work.
func (h *Hunt) moveOn() {
	h.worked[h.status.Entry] = true
	h.status.Entry = behind(h.status.Entry, h.Favoured())
	h.status.Changes = 0
}

// behind tells which of the rising numbers, of which there is one at least, is the next above n; the first, if none is.
func behind(n int, numbers []int) int {
	for _, number := range numbers {
		if number > n {
			return number
		}
	}
	return numbers[0]
}
