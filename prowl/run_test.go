package prowl_test

import (
	"strings"
	"testing"

	"prowl/api"
)

// P4: the document's example.
func TestRunExample(t *testing.T) {
	wantRun(t, example, "a", 100, api.Outcome{Kind: api.Fault, Fault: 23, At: 6, Steps: 5}, map[int]byte{0: 1, 8: 1})
	wantRun(t, example, "b", 100, api.Outcome{Kind: api.Done, At: 9, Steps: 5}, map[int]byte{0: 1, 10: 1})
}

// P4: what the instructions with two numbers make of them.
func TestRunTwoNumbers(t *testing.T) {
	for _, c := range []struct {
		name       string
		op         byte
		a, b, want uint16
	}{
		{"Add", add, 3, 4, 7}, {"Add", add, 65535, 1, 0}, {"Add", add, 40000, 40000, 14464},
		{"Sub", sub, 7, 4, 3}, {"Sub", sub, 4, 7, 65533}, {"Sub", sub, 0, 65535, 1}, {"Sub", sub, 9, 0, 9},
		{"Mul", mul, 12, 12, 144}, {"Mul", mul, 256, 256, 0}, {"Mul", mul, 65535, 65535, 1}, {"Mul", mul, 300, 300, 24464},
		{"And", and, 0xf0f3, 0x3c3d, 0x3031}, {"Xor", xor, 0xf0f3, 0x3c3d, 0xccce}, {"Xor", xor, 0xabcd, 0xabcd, 0},
		{"Div", div, 1000, 7, 142}, {"Div", div, 7, 1000, 0}, {"Div", div, 65535, 2, 32767}, {"Div", div, 0, 5, 0}, {"Div", div, 65535, 65535, 1},
		{"Equal", equal, 500, 500, 1}, {"Equal", equal, 500, 501, 0}, {"Equal", equal, 501, 500, 0}, {"Equal", equal, 0, 0, 1}, {"Equal", equal, 1, 257, 0}, {"Equal", equal, 0, 65535, 0},
		{"Less", less, 4, 5, 1}, {"Less", less, 5, 4, 0}, {"Less", less, 5, 5, 0}, {"Less", less, 0, 65535, 1}, {"Less", less, 32768, 32767, 0}, {"Less", less, 255, 256, 1},
	} {
		code := join(number(c.a), number(c.b), []byte{c.op}, tell(), []byte{stop})
		out := string([]byte{byte(c.want), byte(c.want >> 8)})
		want := api.Outcome{At: len(code) - 1, Out: out[1:] + out[:1], Steps: 23}
		t.Run(c.name, func(t *testing.T) { wantOutcome(t, code, "", 500, want) })
	}
}

// P4: the other instructions.
func TestRunInstructions(t *testing.T) {
	for _, c := range []struct {
		name  string
		code  []byte
		input string
		want  api.Outcome
	}{
		{"Stop", []byte{stop, stop}, "", api.Outcome{At: 0, Steps: 1}},
		{"Push", []byte{push, 0, put, push, 255, put, stop}, "", api.Outcome{At: 6, Out: "\x00\xff", Steps: 5}},
		{"Read goes through the input", []byte{read, put, read, put, read, put, stop}, "x\x00\xff", api.Outcome{At: 6, Out: "x\x00\xff", Steps: 7}},
		{"Read behind the end is 256", join([]byte{read, drop, read}, tell(), []byte{read}, tell(), []byte{stop}), "x", api.Outcome{At: 22, Out: "\x01\x00\x01\x00", Steps: 19}},
		{"Dup", []byte{push, 8, push, 9, dup, put, put, put, stop}, "", api.Outcome{At: 8, Out: "\x09\x09\x08", Steps: 7}},
		{"Drop", []byte{push, 8, push, 9, drop, put, stop}, "", api.Outcome{At: 6, Out: "\x08", Steps: 5}},
		{"Swap", []byte{push, 7, push, 8, push, 9, swap, put, put, put, stop}, "", api.Outcome{At: 10, Out: "\x08\x09\x07", Steps: 8}},
		{"what lies below stays", []byte{push, 7, push, 8, push, 9, sub, put, put, stop}, "", api.Outcome{At: 9, Out: "\xff\x07", Steps: 7}},
		{"Jump", []byte{jump, 4, push, 7, push, 8, put, stop}, "", api.Outcome{At: 7, Out: "\x08", Steps: 4}},
		{"JumpZero of 0", []byte{push, 0, jumpZero, 6, push, 7, stop}, "", api.Outcome{At: 6, Steps: 3}},
		{"JumpZero of 1", []byte{push, 1, jumpZero, 6, push, 7, stop}, "", api.Outcome{At: 6, Steps: 4}},
		{"JumpZero of 256", []byte{read, jumpZero, 5, push, 7, stop}, "", api.Outcome{At: 5, Steps: 4}},
		{"JumpZero takes", []byte{push, 5, push, 1, jumpZero, 6, put, stop}, "", api.Outcome{At: 7, Out: "\x05", Steps: 5}},
		{"a cell is 0 at first", []byte{load, 0, put, load, 15, put, stop}, "", api.Outcome{At: 6, Out: "\x00\x00", Steps: 5}},
		{"Store and Load", []byte{push, 5, store, 0, push, 6, store, 15, load, 0, put, load, 15, put, load, 15, put, load, 1, put, stop}, "", api.Outcome{At: 20, Out: "\x05\x06\x06\x00", Steps: 13}},
		{"Store takes", []byte{push, 5, push, 6, store, 3, put, stop}, "", api.Outcome{At: 7, Out: "\x05", Steps: 5}},
		{"a cell has a whole number", join(number(0x1234), []byte{store, 2, load, 2}, tell(), []byte{stop}), "", api.Outcome{At: 24, Out: "\x12\x34", Steps: 17}},
		{"Put takes the lowest 8 bits", join(number(0x1234), []byte{put, stop}), "", api.Outcome{At: 12, Out: "\x34", Steps: 9}},
		{"Fail", []byte{fail, 0}, "", api.Outcome{Kind: api.Fault, Fault: 16, At: 0, Steps: 1}},
		{"Fail 255", []byte{push, 1, put, fail, 255}, "", api.Outcome{Kind: api.Fault, Fault: 271, At: 3, Out: "\x01", Steps: 3}},
	} {
		t.Run(c.name, func(t *testing.T) { wantOutcome(t, c.code, c.input, 100, c.want) })
	}
}

// P4: Under, for each instruction that takes something; one number more, and it is none.
func TestRunUnder(t *testing.T) {
	for op, takes := range map[byte]int{dup: 1, drop: 1, swap: 2, add: 2, sub: 2, mul: 2, and: 2, xor: 2, div: 2, equal: 2, less: 2, jumpZero: 1, store: 1, put: 1} {
		instruction := []byte{op}
		if long(op) {
			instruction = []byte{op, 0}
		}
		for have := range takes {
			code := join(repeat(have, push, 1), instruction, []byte{stop})
			wantOutcome(t, code, "", 100, api.Outcome{Kind: api.Fault, Fault: api.Under, At: 2 * have, Steps: have + 1})
		}
		code := join(repeat(takes, push, 1), instruction, []byte{stop})
		want := api.Outcome{At: len(code) - 1, Steps: takes + 2}
		if op == put {
			want.Out = "\x01"
		}
		wantOutcome(t, code, "", 100, want)
	}
}

// P4: Over, for each instruction that lays more than it takes; with one number less there it is none.
func TestRunOver(t *testing.T) {
	for _, instruction := range [][]byte{{push, 9}, {read}, {dup}, {load, 3}} {
		full := join(repeat(api.MaxStack, push, 1), instruction, []byte{stop})
		wantOutcome(t, full, "z", 100, api.Outcome{Kind: api.Fault, Fault: api.Over, At: 64, Steps: 33})
		fits := full[2:]
		wantOutcome(t, fits, "z", 100, api.Outcome{At: len(fits) - 1, Steps: 33})
	}
	for _, instruction := range [][]byte{{drop}, {swap}, {add}, {less}, {div}, {store, 3}, {put}, {jump, 66}, {jumpZero, 66}, {probe, 3}} {
		code := join(repeat(api.MaxStack, push, 1), instruction, []byte{fail, 1})
		outcome := api.Outcome{Kind: api.Fault, Fault: api.User + 1, At: 64 + len(instruction), Steps: 34}
		switch instruction[0] {
		case put:
			outcome.Out = "\x01"
		case probe:
			outcome.Steps--
		}
		wantOutcome(t, code, "", 100, outcome)
	}
}

// P4: Zero and Full, and that Under is ahead of them.
func TestRunZeroAndFull(t *testing.T) {
	wantOutcome(t, []byte{push, 5, push, 0, div, stop}, "", 100, api.Outcome{Kind: api.Fault, Fault: api.Zero, At: 4, Steps: 3})
	wantOutcome(t, []byte{push, 0, push, 0, div, stop}, "", 100, api.Outcome{Kind: api.Fault, Fault: api.Zero, At: 4, Steps: 3})
	wantOutcome(t, []byte{push, 0, push, 5, div, put, stop}, "", 100, api.Outcome{At: 6, Out: "\x00", Steps: 5})
	wantOutcome(t, []byte{push, 0, div, stop}, "", 100, api.Outcome{Kind: api.Fault, Fault: api.Under, At: 2, Steps: 2})
	sixteen := repeat(api.MaxOut, read, put)
	input := "0123456789abcdefg"
	wantOutcome(t, join(sixteen, []byte{stop}), input, 100, api.Outcome{At: 32, Out: input[:16], Steps: 33})
	wantOutcome(t, join(sixteen, []byte{read, put, stop}), input, 100, api.Outcome{Kind: api.Fault, Fault: api.Full, At: 33, Out: input[:16], Steps: 34})
	wantOutcome(t, join(sixteen, []byte{put, stop}), input, 100, api.Outcome{Kind: api.Fault, Fault: api.Under, At: 32, Out: input[:16], Steps: 33})
}

// P4: with how much fuel a run hangs, and where.
func TestRunFuel(t *testing.T) {
	code := []byte{push, 7, dup, put, read, drop, drop, fail, 3}
	places := []int{0, 2, 3, 4, 5, 6, 7}
	for fuel, at := range places {
		want := api.Outcome{Kind: api.Hang, At: at, Steps: fuel}
		if fuel > 2 {
			want.Out = "\x07"
		}
		wantOutcome(t, code, "", fuel, want)
	}
	wantOutcome(t, code, "", len(places), api.Outcome{Kind: api.Fault, Fault: api.User + 3, At: 7, Out: "\x07", Steps: 7})
	wantOutcome(t, []byte{stop}, "", 0, api.Outcome{Kind: api.Hang})
	wantOutcome(t, []byte{stop}, "", 1, api.Outcome{Steps: 1})
	wantOutcome(t, []byte{dup, stop}, "", 0, api.Outcome{Kind: api.Hang})
	wantOutcome(t, []byte{read, drop, jump, 0}, "", api.MaxFuel, api.Outcome{Kind: api.Hang, At: 2, Steps: 500})
}

// P4: the cover: where a run counts.
func TestRunCover(t *testing.T) {
	// The run comes to block 1 from above, and to block 1 again from block 2.
	wantRun(t, []byte{push, 3, dup, jumpZero, 10, push, 1, sub, jump, 2, stop}, "", 100, api.Outcome{At: 10, Steps: 19}, map[int]byte{0: 1, 8: 1, 16: 4, 22: 4, 17: 1})
	// Two blocks that no run comes to: behind the Jump, and behind the Stop.
	wantRun(t, []byte{jump, 3, stop, stop, fail, 1}, "", 100, api.Outcome{At: 3, Steps: 2}, map[int]byte{0: 1, 9: 1})
	// It hangs where a block begins: that counts; ahead of it: that does not.
	wantRun(t, []byte{read, jumpZero, 4, read, stop}, "a", 2, api.Outcome{Kind: api.Hang, At: 3, Steps: 2}, map[int]byte{0: 1, 8: 1})
	wantRun(t, []byte{read, jumpZero, 4, read, stop}, "a", 1, api.Outcome{Kind: api.Hang, At: 1, Steps: 1}, map[int]byte{0: 1})
	wantRun(t, []byte{read, jumpZero, 4, read, stop}, "a", 0, api.Outcome{Kind: api.Hang}, map[int]byte{0: 1})
	// It faults in a block: that counts.
	wantRun(t, []byte{jump, 2, drop, stop}, "", 9, api.Outcome{Kind: api.Fault, Fault: api.Under, At: 2, Steps: 2}, map[int]byte{0: 1, 8: 1})
	// From block 0 to 38, to 39, and to itself, past the map's end: 7 times 39 and 39 is 4 times 64 and 56; 7 times 40 and 39 is 4 times 64 and 63.
	far := join([]byte{jump, 76}, repeat(37, jump, 0), []byte{jump, 78, jump, 78})
	wantRun(t, far, "", 5, api.Outcome{Kind: api.Hang, At: 78, Steps: 5}, map[int]byte{0: 1, 45: 1, 56: 1, 63: 4})
}

// P4: the classes of the counts, and that counts stay at 255.
func TestRunClasses(t *testing.T) {
	classes := map[int]byte{0: 0, 1: 1, 2: 2, 3: 4, 4: 8, 7: 8, 8: 16, 15: 16, 16: 32, 31: 32, 32: 64, 127: 64, 128: 128, 255: 128, 256: 128, 257: 128, 260: 128, 288: 128, 500: 128}
	for fuel, class := range classes {
		wantRun(t, []byte{jump, 0}, "", fuel, api.Outcome{Kind: api.Hang, Steps: fuel}, map[int]byte{0: 1, 7: class})
		wantRun(t, []byte{probe, 0, jump, 0}, "", fuel, api.Outcome{Kind: api.Hang, At: 2, Steps: fuel}, map[int]byte{0: 1, 7: class})
	}
}

// P4: which errors there are, and which is named first.
func TestRunErrors(t *testing.T) {
	longest := strings.Repeat("a", api.MaxInput)
	for _, fuel := range []int{0, 1, api.MaxFuel} {
		for _, input := range []string{"", longest} {
			outcome := api.Outcome{At: 0, Steps: 1}
			if fuel == 0 {
				outcome = api.Outcome{Kind: api.Hang}
			}
			wantRun(t, []byte{stop}, input, fuel, outcome, map[int]byte{0: 1})
		}
	}
	wantRefused(t, []byte{stop}, longest+"a", 1, api.ErrArg)
	wantRefused(t, []byte{stop}, "", -1, api.ErrArg)
	wantRefused(t, []byte{stop}, "", api.MaxFuel+1, api.ErrArg)
	wantRefused(t, []byte{probe, 0, stop}, "", -1, api.ErrArg)
	for _, code := range [][]byte{nil, {21}, {push}, {read}, {load, 16, stop}, {jump, 1}, repeat(api.MaxCode+1, stop)} {
		wantRefused(t, code, "", 1, api.ErrCode)
		wantRefused(t, code, "", -1, api.ErrCode)
		wantRefused(t, code, longest+"a", 1, api.ErrCode)
	}
}
