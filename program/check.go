package program

import "prowl/api"

// Check tells the number of blocks, and true, if code is a program; else the number that P3 asks for, and false.
func Check(code []byte) (int, bool) {
	if at, flawed := flaw(code, api.MaxCode, Fail); flawed {
		return at, false
	}
	return number(beginnings(code)), true
}

// CanRun tells whether code is a program or a probed one.
func CanRun(code []byte) bool {
	if _, flawed := flaw(code, api.MaxCode, Fail); !flawed {
		return true
	}
	_, flawed := flaw(code, api.MaxProbe, Probe)
	return !flawed && hasProbe(code)
}

// flaw tells how many bytes stand ahead of what is wrong with code, and true; false, if nothing is.
// It may have most bytes, and the instructions up to last.
func flaw(code []byte, most int, last byte) (int, bool) {
	if len(code) > most {
		return most, true
	}
	if at := soundBytes(code, last); at < len(code) {
		return at, true
	}
	if !endsWell(code) {
		return len(code), true
	}
	return wrongTarget(code)
}

// soundBytes tells how many bytes stand ahead of the first instruction that is wrong in itself.
func soundBytes(code []byte, last byte) int {
	at := 0
	for at < len(code) && sound(code[at:], last) {
		at += ShapeOf(code[at]).Size
	}
	return at
}

// sound tells whether rest, which is not empty, begins with a whole instruction.
func sound(rest []byte, last byte) bool {
	op := rest[0]
	if op > last || len(rest) < ShapeOf(op).Size {
		return false
	}
	return !holds(op) || rest[1] < Cells
}

// endsWell tells whether code has a last instruction that may be the last one.
func endsWell(code []byte) bool {
	well := false
	for at := 0; at < len(code); at += ShapeOf(code[at]).Size {
		well = ends(code[at])
	}
	return well
}

// wrongTarget tells where the first instruction stands whose target is none, and true; false, if there is no such one.
func wrongTarget(code []byte) (int, bool) {
	begins := make([]bool, len(code))
	for at := 0; at < len(code); at += ShapeOf(code[at]).Size {
		begins[at] = true
	}
	for at := 0; at < len(code); at += ShapeOf(code[at]).Size {
		if !leads(code[at]) {
			continue
		}
		if target := int(code[at+1]); target >= len(code) || !begins[target] {
			return at, true
		}
	}
	return 0, false
}

// hasProbe tells whether a Probe is among code's instructions.
func hasProbe(code []byte) bool {
	for at := 0; at < len(code); at += ShapeOf(code[at]).Size {
		if code[at] == Probe {
			return true
		}
	}
	return false
}
