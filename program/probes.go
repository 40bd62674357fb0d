package program

// NoPlace stands for a byte that comes from nowhere in the program.
const NoPlace = -1

// writer is code that is being written, and the place from which each of its bytes comes.
type writer struct {
	code []byte
	from []int
}

// add writes bytes that are new.
func (w *writer) add(written ...byte) {
	for _, b := range written {
		w.code = append(w.code, b)
		w.from = append(w.from, NoPlace)
	}
}

// bring writes bytes that stand in for those of the program from a place on.
func (w *writer) bring(place int, written ...byte) {
	for i, b := range written {
		w.code = append(w.code, b)
		w.from = append(w.from, place+i)
	}
}

// WithProbes tells a program with a Probe ahead of each block, and the place from which each byte comes.
func WithProbes(code []byte) ([]byte, []int) {
	entries := blockEntries(code)
	var w writer
	size := 0
	for at := 0; at < len(code); at += size {
		if block := entries[at]; block != NoBlock {
			w.add(Probe, byte(block))
		}
		op := code[at]
		size = ShapeOf(op).Size
		if leads(op) {
			w.bring(at, op, moved(code[at+1], entries))
			continue
		}
		w.bring(at, code[at:at+size]...)
	}
	return w.code, w.from
}

// moved tells where the Probe stands of the block that begins at target.
// As many Probes stand ahead of it as blocks do, which is the block's number.
// A byte is enough: target and number are below MaxCode, and three times that is no more than MaxProbe.
func moved(target byte, entries []int) byte {
	return target + byte(entries[target]*ShapeOf(Probe).Size)
}
