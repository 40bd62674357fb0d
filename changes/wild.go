package changes

import (
	"slices"

	"prowl/api"
	"prowl/chance"
)

// The wild ways to change a text, by the numbers that are drawn for them.
const (
	wildBit = iota
	wildByte
	wildTakeOut
	wildPutIn
	wildCross
	wildCopy
	wildWays
)

// most is how many wild changes are made one upon the other.
const most = 4

// Wild changes a text by chance, once or a few times; other is what a part may come from.
func Wild(text string, other string, seed *chance.Seed) string {
	changed := []byte(text)
	for range 1 + seed.Below(most) {
		changed = wildOnce(changed, other, seed)
	}
	return string(changed)
}

// wildOnce makes one wild change. Where two numbers are drawn, each has a variable, so that their order is sure.
func wildOnce(text []byte, other string, seed *chance.Seed) []byte {
	way := seed.Below(wildWays)
	if len(text) == 0 && way != wildPutIn && way != wildCross {
		return text
	}
	switch way {
	case wildBit:
		return invertBit(text, seed.Below(8*len(text)))
	case wildByte:
		at := seed.Below(len(text))
		value := seed.Below(256)
		text[at] = byte(value)
	case wildTakeOut:
		return takeOut(text, seed.Below(len(text)))
	case wildPutIn:
		return putIn(text, seed)
	case wildCross:
		return cross(text, other, seed)
	case wildCopy:
		to := seed.Below(len(text))
		from := seed.Below(len(text))
		text[to] = text[from]
	}
	return text
}

func putIn(text []byte, seed *chance.Seed) []byte {
	if len(text) >= api.MaxInput {
		return text
	}
	at := seed.Below(len(text) + 1)
	value := seed.Below(256)
	return slices.Insert(text, at, byte(value))
}

func cross(text []byte, other string, seed *chance.Seed) []byte {
	ahead := seed.Below(len(text) + 1)
	from := seed.Below(len(other) + 1)
	crossed := append(text[:ahead], other[from:]...)
	return crossed[:min(len(crossed), api.MaxInput)]
}
