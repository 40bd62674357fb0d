package prowl_test

import (
	"bytes"
	"math/rand"
	"testing"

	"prowl/api"
	"prowl/prowl"
)

// P4: which bytes are a probed program.
func TestRunTakesProbed(t *testing.T) {
	for _, code := range [][]byte{
		{probe, 0, stop}, {stop, probe, 255, stop}, {probe, 16, probe, 16, jump, 0}, {probe, 1, jump, 4, fail, 20}, {jump, 2, probe, 9, stop},
		join(repeat(api.MaxProbe-3, stop), []byte{probe, 0, stop}),
		join(repeat(api.MaxProbe/2-1, probe, 7), []byte{jump, 238}),
	} {
		if _, cover, err := prowl.Run(code, "", 10); err != api.OK || len(cover) != api.MapSize {
			t.Errorf("Run(%v): %d bytes, %d", code, len(cover), err)
		}
		if _, err := prowl.Check(code); err != api.ErrCode {
			t.Errorf("Check(%v): %d", code, err)
		}
	}
	for _, code := range [][]byte{
		{probe}, {stop, probe}, {probe, 0}, {stop, probe, 0}, {probe, 0, 21}, {probe, 0, load, 16, stop}, {probe, 0, push}, {probe, 0, read}, {probe, 0, jump, 1}, {probe, 0, jump, 4}, {probe, 0, jump, 255},
		join(repeat(api.MaxProbe-2, stop), []byte{probe, 0, stop}),
		repeat(api.MaxCode+1, stop),
		repeat(api.MaxCode, push, probe, stop),
		join([]byte{push, probe}, repeat(api.MaxCode, stop)),
	} {
		wantRefused(t, code, "", 10, api.ErrCode)
	}
}

// P4: Probes count, blocks do not, nor is a Probe a step.
func TestRunProbed(t *testing.T) {
	probed := []byte{probe, 0, read, push, 97, equal, jumpZero, 15, probe, 1, fail, 7, probe, 2, stop, probe, 3, stop}
	wantRun(t, probed, "a", 100, api.Outcome{Kind: api.Fault, Fault: 23, At: 10, Steps: 5}, map[int]byte{0: 1, 8: 1})
	wantRun(t, probed, "b", 100, api.Outcome{At: 17, Steps: 5}, map[int]byte{0: 1, 10: 1})
	// It hangs behind the Probe, which has counted.
	wantRun(t, probed, "b", 4, api.Outcome{Kind: api.Hang, At: 17, Steps: 4}, map[int]byte{0: 1, 10: 1})
	wantRun(t, probed, "b", 3, api.Outcome{Kind: api.Hang, At: 6, Steps: 3}, map[int]byte{0: 1})
	wantRun(t, probed, "b", 0, api.Outcome{Kind: api.Hang, At: 2}, map[int]byte{0: 1})
	// No Probe is come to; the blocks that are don't count.
	wantRun(t, []byte{read, jumpZero, 5, jump, 7, probe, 1, stop}, "a", 9, api.Outcome{At: 7, Steps: 4}, nil)
	// A Probe amid a block, one behind another, and one with the highest number: 255 is 3 times 64 and 63; 7 times 256 is 28 times 64.
	wantRun(t, []byte{read, probe, 255, probe, 5, drop, stop}, "", 9, api.Outcome{At: 6, Steps: 3}, map[int]byte{63: 1, 5: 1})
	// A target behind a Probe passes it by.
	wantRun(t, []byte{jump, 4, probe, 1, stop}, "", 9, api.Outcome{At: 4, Steps: 2}, nil)
	// Probes alone use no fuel, however many there are.
	wantRun(t, join(repeat(119, probe, 0), []byte{stop}), "", 0, api.Outcome{Kind: api.Hang, At: 238}, map[int]byte{0: 1, 7: 64})
}

// withProbes puts Probes ahead of all blocks, and tells from which place each byte comes.
func withProbes(code []byte) ([]byte, []int) {
	blocks := map[int]bool{0: true}
	at := places(code)
	for k, i := range at {
		switch code[i] {
		case jump, jumpZero:
			blocks[int(code[i+1])] = true
			fallthrough
		case stop, fail:
			if k+1 < len(at) {
				blocks[at[k+1]] = true
			}
		}
	}
	var probed []byte
	var from []int
	moved := map[int]byte{}
	for i, b := range code {
		if blocks[i] {
			moved[i] = byte(len(probed))
			probed = append(probed, probe, byte(len(moved)-1))
			from = append(from, -1, -1)
		}
		probed = append(probed, b)
		from = append(from, i)
	}
	for _, i := range places(probed) {
		if probed[i] == jump || probed[i] == jumpZero {
			probed[i+1] = moved[int(probed[i+1])]
		}
	}
	return probed, from
}

// P4: with a Probe ahead of each block, a program runs as it does without.
func TestRunProbedAlike(t *testing.T) {
	chance := rand.New(rand.NewSource(3))
	ends := map[int]int{}
	for range 20000 {
		code, input, fuel := chanceProgram(chance), chanceInput(chance), chance.Intn(60)
		if len(code) > api.MaxCode {
			continue
		}
		want, wantCover, err := prowl.Run(code, input, fuel)
		if err != api.OK {
			t.Fatalf("Run(%v): %d", code, err)
		}
		ends[want.Kind]++
		probed, from := withProbes(code)
		got, cover, err := prowl.Run(probed, input, fuel)
		if err != api.OK {
			t.Fatalf("Run(%v): %d", probed, err)
		}
		got.At = from[got.At]
		if got != want || !bytes.Equal(cover, wantCover) {
			t.Fatalf("Run(%v, %q, %d) = %#v, %v, probed %#v, %v", code, input, fuel, want, wantCover, got, cover)
		}
	}
	for _, kind := range []int{api.Done, api.Fault, api.Hang} {
		if ends[kind] < 500 {
			t.Errorf("only %d runs ended by %d", ends[kind], kind)
		}
	}
}
