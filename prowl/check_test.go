package prowl_test

import (
	"slices"
	"testing"

	"prowl/api"
	"prowl/prowl"
)

// P3: the number of blocks.
func TestCheckBlocks(t *testing.T) {
	for _, c := range []struct {
		name   string
		code   []byte
		blocks int
	}{
		{"the document's example", example, 4},
		{"a Stop", []byte{stop}, 1},
		{"a Jump to itself", []byte{jump, 0}, 1},
		{"a Fail", []byte{fail, 255}, 1},
		{"behind a Stop", []byte{stop, stop, stop}, 3},
		{"behind a Fail", []byte{fail, 0, stop}, 2},
		{"behind a Jump", []byte{jump, 0, stop}, 2},
		{"behind a JumpZero", []byte{read, jumpZero, 0, stop}, 2},
		{"a target amid what would be one block", []byte{read, read, jump, 1}, 2},
		{"a target that lies ahead", []byte{jump, 3, read, read, stop}, 3},
		{"a target where a block begins anyway", []byte{read, jumpZero, 3, stop}, 2},
		{"one target, three times", []byte{read, read, jumpZero, 1, jumpZero, 1, jump, 1}, 4},
		{"all the others begin none", []byte{push, 1, read, dup, drop, swap, add, sub, mul, and, xor, div, equal, less, load, 0, store, 0, put, stop}, 1},
		{"second bytes that look like instructions", []byte{push, jump, push, stop, push, probe, push, 255, fail, stop}, 1},
		{"the highest cell", []byte{load, 15, store, 15, stop}, 1},
		{"as long as may be", repeat(api.MaxCode, stop), api.MaxCode},
		{"a target at the last instruction", join([]byte{jump, api.MaxCode - 1}, repeat(api.MaxCode-3, read), []byte{stop}), 3},
	} {
		if blocks, err := prowl.Check(c.code); blocks != c.blocks || err != api.OK {
			t.Errorf("%s: Check(%v) = %d, %d, want %d", c.name, c.code, blocks, err, c.blocks)
		}
	}
}

// P3: the number for bytes that are no program.
func TestCheckFlaws(t *testing.T) {
	for _, c := range []struct {
		name string
		code []byte
		at   int
	}{
		{"too long", repeat(api.MaxCode+1, stop), api.MaxCode},
		{"much too long", repeat(1<<20, stop), api.MaxCode},
		{"too long, and no instruction", repeat(api.MaxCode+1, 21), api.MaxCode},
		{"no instruction", []byte{read, 21, stop}, 1},
		{"the highest byte", []byte{255}, 0},
		{"a Probe", []byte{read, probe, 0, stop}, 1},
		{"a Push without its second byte", []byte{read, push}, 1},
		{"a Jump without its second byte", []byte{stop, jump}, 1},
		{"a JumpZero without its second byte", []byte{stop, jumpZero}, 1},
		{"a Load without its second byte", []byte{stop, load}, 1},
		{"a Store without its second byte", []byte{stop, store}, 1},
		{"a Fail without its second byte", []byte{stop, fail}, 1},
		{"a Load of no cell", []byte{read, load, 16, stop}, 1},
		{"a Store to no cell", []byte{read, store, 16, stop}, 1},
		{"the first of several", []byte{load, 15, store, 255, 21, push}, 2},
		{"an instruction that is none, ahead of a wrong target and a wrong end", []byte{jump, 99, 21, read}, 2},
		{"nothing", nil, 0},
		{"nothing, of no nil", []byte{}, 0},
		{"a Read at the end", []byte{stop, read}, 2},
		{"a Push at the end", []byte{push, stop}, 2},
		{"a JumpZero at the end", []byte{read, jumpZero, 0}, 3},
		{"a wrong end, ahead of a wrong target", []byte{jump, 99, drop}, 3},
		{"a target behind the end", []byte{read, jump, 3}, 1},
		{"a target far behind the end", []byte{read, jumpZero, 255, stop}, 1},
		{"a target amid an instruction", []byte{push, 0, jump, 1}, 2},
		{"a target amid itself", []byte{read, jump, 2}, 1},
		{"the second target", []byte{jump, 2, jump, 1, jump, 1}, 2},
	} {
		if at, err := prowl.Check(c.code); at != c.at || err != api.ErrCode {
			t.Errorf("%s: Check(%.60v) = %d, %d, want %d, %d", c.name, c.code, at, err, c.at, api.ErrCode)
		}
	}
}

// plainCheck is P3, read off the document word by word.
func plainCheck(code []byte) (int, api.Errno) {
	if len(code) > 80 {
		return 80, api.ErrCode
	}
	var at []int
	for i := 0; i < len(code); {
		op := code[i]
		if op >= probe || long(op) && i+1 == len(code) || (op == load || op == store) && code[i+1] > 15 {
			return i, api.ErrCode
		}
		at = append(at, i)
		i++
		if long(op) {
			i++
		}
	}
	if len(at) == 0 || !slices.Contains([]byte{stop, jump, fail}, code[at[len(at)-1]]) {
		return len(code), api.ErrCode
	}
	blocks := map[int]int{0: 1}
	for k, i := range at {
		op := code[i]
		if op == jump || op == jumpZero {
			if !slices.Contains(at, int(code[i+1])) {
				return i, api.ErrCode
			}
			blocks[int(code[i+1])] = 1
		}
		if slices.Contains([]byte{jump, jumpZero, stop, fail}, op) && k+1 < len(at) {
			blocks[at[k+1]] = 1
		}
	}
	return len(blocks), api.OK
}

// P1, P3: all texts of few bytes. Run (P4) takes them as Check does, but for those with Probes.
func TestCheckAllShort(t *testing.T) {
	try := func(code ...byte) {
		n, err := prowl.Check(code)
		if wantN, wantErr := plainCheck(code); n != wantN || err != wantErr {
			t.Fatalf("Check(%v) = %d, %d, want %d, %d", code, n, err, wantN, wantErr)
		}
		outcome, cover, runErr := prowl.Run(code, "", 20)
		if runErr != err && !slices.Contains(code, probe) {
			t.Fatalf("Run(%v): %d, but Check: %d", code, runErr, err)
		}
		if runErr != api.OK && (outcome != (api.Outcome{}) || len(cover) != 0) {
			t.Fatalf("Run(%v) = %#v, %v with the error %d", code, outcome, cover, runErr)
		}
	}
	for a := range 256 {
		try(byte(a))
		for b := range 256 {
			try(byte(a), byte(b))
		}
	}
	for a := range byte(23) {
		for b := range byte(23) {
			for c := range byte(23) {
				try(a, b, c)
				for d := range byte(23) {
					try(a, b, c, d)
				}
			}
		}
	}
}
