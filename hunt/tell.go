package hunt

import (
	"slices"

	"prowl/api"
	"prowl/list"
)

// Status tells how far the hunt is.
func (h *Hunt) Status() api.Status {
	return h.status
}

// Kept tells the kept inputs, in the order in which they came.
func (h *Hunt) Kept() []string {
	texts := make([]string, h.kept.Len())
	for n := range texts {
		texts[n] = h.kept.At(n).text
	}
	return texts
}

// Crashes tells the crashes, in the order in which they came.
func (h *Hunt) Crashes() []api.Crash {
	return h.found.All()
}

// Seen tells what all kept inputs saw together.
func (h *Hunt) Seen() []byte {
	seen := make([]byte, api.MapSize)
	for n := range h.kept.Len() {
		for place, bit := range h.kept.At(n).cover {
			seen[place] |= bit
		}
	}
	return seen
}

// Favoured tells the numbers of kept inputs that together saw all, rising.
func (h *Hunt) Favoured() []int {
	var favoured list.List[int]
	for place := range api.MapSize {
		for bit := byte(1); bit != 0; bit <<= 1 {
			has := func(n int) bool { return h.kept.At(n).has(place, bit) }
			if favoured.Has(has) {
				continue
			}
			if n, ok := h.shortest(has); ok {
				favoured.Add(n)
			}
		}
	}
	numbers := favoured.All()
	slices.Sort(numbers)
	return numbers
}

// shortest tells the number of the shortest kept input that fits, of several the first, and false, if none fits.
func (h *Hunt) shortest(fits func(int) bool) (int, bool) {
	best, ok := 0, false
	for n := range h.kept.Len() {
		if fits(n) && (!ok || len(h.kept.At(n).text) < len(h.kept.At(best).text)) {
			best, ok = n, true
		}
	}
	return best, ok
}
