package program

// NoBlock stands at a byte at which no block begins.
const NoBlock = -1

// Entries tells for each byte of code, which CanRun, the block that counts as begun when a run comes there, or NoBlock.
// In a probed program the Probes alone say so.
func Entries(code []byte) []int {
	if hasProbe(code) {
		return probeEntries(code)
	}
	return blockEntries(code)
}

func probeEntries(code []byte) []int {
	entries := make([]int, len(code))
	for at := range entries {
		entries[at] = NoBlock
	}
	for at := 0; at < len(code); at += ShapeOf(code[at]).Size {
		if code[at] == Probe {
			entries[at] = int(code[at+1])
		}
	}
	return entries
}

func blockEntries(code []byte) []int {
	entries := make([]int, len(code))
	block := 0
	for at, begins := range beginnings(code) {
		entries[at] = NoBlock
		if begins {
			entries[at] = block
			block++
		}
	}
	return entries
}

// beginnings tells for each byte of a program whether a block begins there.
func beginnings(code []byte) []bool {
	begins := make([]bool, len(code))
	behind := true
	for at := 0; at < len(code); at += ShapeOf(code[at]).Size {
		op := code[at]
		if behind {
			begins[at] = true
		}
		if leads(op) {
			begins[code[at+1]] = true
		}
		behind = ends(op) || leads(op)
	}
	return begins
}

func number(marks []bool) int {
	n := 0
	for _, mark := range marks {
		if mark {
			n++
		}
	}
	return n
}
