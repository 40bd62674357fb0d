package machine

import "prowl/api"

// maxCount is where a count stays.
const maxCount = 255

// trail counts the ways that a run takes from block to block.
type trail struct {
	counts [api.MapSize]int
	ahead  int // the number of the block ahead, plus 1; 0, if there was none
}

// come notes that a run is at the beginning of a block.
func (t *trail) come(block int) {
	place := (7*t.ahead + block) % api.MapSize
	if t.counts[place] < maxCount {
		t.counts[place]++
	}
	t.ahead = block + 1
}

// cover tells the classes of the counts.
func (t *trail) cover() []byte {
	classes := make([]byte, api.MapSize)
	for place, count := range t.counts {
		classes[place] = class(count)
	}
	return classes
}

func class(count int) byte {
	switch {
	case count >= 128:
		return 128
	case count >= 32:
		return 64
	case count >= 16:
		return 32
	case count >= 8:
		return 16
	case count >= 4:
		return 8
	case count == 3:
		return 4
	}
	return byte(count)
}
