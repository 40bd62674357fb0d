package prowl_test

import (
	"bytes"
	"math/rand"
	"slices"
	"testing"

	"prowl/api"
	"prowl/prowl"
)

// wantProbed puts probes into code and holds both lists against what is wanted.
func wantProbed(t *testing.T, code, want []byte, places []int) {
	t.Helper()
	probed, from, err := prowl.Probe(code)
	if err != api.OK || !bytes.Equal(probed, want) || !slices.Equal(from, places) {
		t.Errorf("Probe(%v) = %v, %v, %d, want %v, %v", code, probed, from, err, want, places)
	}
}

// P5: the document's example.
func TestProbeExample(t *testing.T) {
	wantProbed(t, example,
		[]byte{20, 0, 2, 1, 97, 12, 15, 15, 20, 1, 19, 7, 20, 2, 0, 20, 3, 0},
		[]int{-1, -1, 0, 1, 2, 3, 4, 5, -1, -1, 6, 7, -1, -1, 8, -1, -1, 9})
}

// P5: one block has one Probe, also if it is a target of its own.
func TestProbeOneBlock(t *testing.T) {
	wantProbed(t, []byte{stop}, []byte{probe, 0, stop}, []int{-1, -1, 0})
	wantProbed(t, []byte{fail, 3}, []byte{probe, 0, fail, 3}, []int{-1, -1, 0, 1})
	wantProbed(t, []byte{jump, 0}, []byte{probe, 0, jump, 0}, []int{-1, -1, 0, 1})
	wantProbed(t, []byte{read, push, 5, add, put, stop}, []byte{probe, 0, read, push, 5, add, put, stop}, []int{-1, -1, 0, 1, 2, 3, 4, 5})
	longest := join(repeat(api.MaxCode-1, read), []byte{stop})
	places := []int{-1, -1}
	for i := range longest {
		places = append(places, i)
	}
	wantProbed(t, longest, join([]byte{probe, 0}, longest), places)
}

// P5: each byte a block: the probed program is as long as one may be, and can run.
func TestProbeAllBlocks(t *testing.T) {
	code := repeat(api.MaxCode, stop)
	var want []byte
	var places []int
	for i := range code {
		want = append(want, probe, byte(i), stop)
		places = append(places, -1, -1, i)
	}
	wantProbed(t, code, want, places)
	probed, _, _ := prowl.Probe(code)
	if len(probed) != api.MaxProbe {
		t.Errorf("%d bytes", len(probed))
	}
	wantRun(t, probed, "", 5, api.Outcome{At: 2, Steps: 1}, map[int]byte{0: 1})
}

// P5: behind what blocks begin, and that two reasons for a block make no two Probes.
func TestProbeBehind(t *testing.T) {
	for _, c := range []struct {
		name       string
		code, want []byte
		places     []int
	}{
		{"Jump", []byte{jump, 0, read, stop}, []byte{probe, 0, jump, 0, probe, 1, read, stop}, []int{-1, -1, 0, 1, -1, -1, 2, 3}},
		{"JumpZero", []byte{read, jumpZero, 0, read, stop}, []byte{probe, 0, read, jumpZero, 0, probe, 1, read, stop}, []int{-1, -1, 0, 1, 2, -1, -1, 3, 4}},
		{"Stop", []byte{stop, read, stop}, []byte{probe, 0, stop, probe, 1, read, stop}, []int{-1, -1, 0, -1, -1, 1, 2}},
		{"Fail", []byte{fail, 9, read, stop}, []byte{probe, 0, fail, 9, probe, 1, read, stop}, []int{-1, -1, 0, 1, -1, -1, 2, 3}},
		{"a target", []byte{read, read, jump, 1}, []byte{probe, 0, read, probe, 1, read, jump, 3}, []int{-1, -1, 0, -1, -1, 1, 2, 3}},
		{"Jump and a target", []byte{jump, 2, stop}, []byte{probe, 0, jump, 4, probe, 1, stop}, []int{-1, -1, 0, 1, -1, -1, 2}},
		{"two Jumps to one", []byte{read, jumpZero, 6, read, jump, 6, stop}, []byte{probe, 0, read, jumpZero, 10, probe, 1, read, jump, 10, probe, 2, stop}, []int{-1, -1, 0, 1, 2, -1, -1, 3, 4, 5, -1, -1, 6}},
	} {
		t.Run(c.name, func(t *testing.T) { wantProbed(t, c.code, c.want, c.places) })
	}
}

// P5: targets lead to Probes, wherever they stand.
func TestProbeTargets(t *testing.T) {
	// To itself, ahead over a block that begins later on, and back over one.
	wantProbed(t, []byte{read, jump, 1, stop}, []byte{probe, 0, read, probe, 1, jump, 3, probe, 2, stop}, []int{-1, -1, 0, -1, -1, 1, 2, -1, -1, 3})
	wantProbed(t, []byte{jump, 4, read, drop, read, jump, 3}, []byte{probe, 0, jump, 10, probe, 1, read, probe, 2, drop, probe, 3, read, jump, 7}, []int{-1, -1, 0, 1, -1, -1, 2, -1, -1, 3, -1, -1, 4, 5, 6})
	// The farthest one: 78 blocks stand ahead of the last byte.
	far := join([]byte{jump, 79}, repeat(78, stop))
	probed, from, err := prowl.Probe(far)
	if err != api.OK || len(probed) != 80+2*79 || probed[3] != 235 || probed[235] != probe || probed[236] != 78 || from[237] != 79 {
		t.Errorf("Probe(%v) = %v, %v, %d", far, probed, from, err)
	}
	wantRun(t, probed, "", 5, api.Outcome{At: 237, Steps: 2}, map[int]byte{0: 1, 7 + 78 - 64: 1})
	// The last instruction leads to itself, and to the first one.
	back := join(repeat(78, stop), []byte{jump, 78})
	if probed, _, _ = prowl.Probe(back); len(probed) != 80+2*79 || probed[237] != 234 {
		t.Errorf("Probe(%v) = %v", back, probed)
	}
	back[79] = 0
	if probed, _, _ = prowl.Probe(back); len(probed) != 80+2*79 || probed[237] != 0 {
		t.Errorf("Probe(%v) = %v", back, probed)
	}
}

// P5: second bytes are no instructions: none begins or ends a block, is a target or a Probe.
func TestProbeSecondBytes(t *testing.T) {
	for _, second := range []byte{stop, push, jump, jumpZero, fail, probe, 15, 21, 255} {
		wantProbed(t, []byte{push, second, read, stop}, []byte{probe, 0, push, second, read, stop}, []int{-1, -1, 0, 1, 2, 3})
		wantProbed(t, []byte{fail, second, stop}, []byte{probe, 0, fail, second, probe, 1, stop}, []int{-1, -1, 0, 1, -1, -1, 2})
	}
	for _, cell := range []byte{stop, jump, jumpZero} {
		wantProbed(t, []byte{load, cell, store, cell, stop}, []byte{probe, 0, load, cell, store, cell, stop}, []int{-1, -1, 0, 1, 2, 3, 4})
	}
	// A target that looks like an instruction: a Jump to the byte 14, one to 20.
	code := join([]byte{jump, 14}, repeat(12, read), []byte{jump, 20}, repeat(4, read), []byte{stop})
	wantProbed(t, code,
		join([]byte{probe, 0, jump, 18, probe, 1}, repeat(12, read), []byte{probe, 2, jump, 28, probe, 3}, repeat(4, read), []byte{probe, 4, stop}),
		[]int{-1, -1, 0, 1, -1, -1, 2, 3, 4, 5, 6, 7, 8, 9, 10, 11, 12, 13, -1, -1, 14, 15, -1, -1, 16, 17, 18, 19, -1, -1, 20})
}

// P1, P5: what is no program has no probed one.
func TestProbeRefuses(t *testing.T) {
	for _, code := range [][]byte{
		nil, {}, {probe, 0, stop}, {stop, probe, 0, stop}, {probe}, {21}, {255, stop}, {push}, {stop, fail}, {read}, {read, jumpZero, 0}, {load, 16, stop}, {store, 255, stop},
		{jump, 1}, {jump, 2}, {jump, 255}, {push, 0, jumpZero, 1, stop}, {jump, 3, push, 0, stop}, {push, 0}, repeat(api.MaxCode/2, push, 0),
		repeat(api.MaxCode+1, stop), repeat(api.MaxProbe, stop), repeat(1<<16, stop), join([]byte{probe, 0}, repeat(api.MaxProbe-2, stop)),
	} {
		if probed, from, err := prowl.Probe(code); err != api.ErrCode || len(probed) > 0 || len(from) > 0 {
			t.Errorf("Probe(%.60v) = %v, %v, %d", code, probed, from, err)
		}
	}
	for _, code := range [][]byte{example, {stop}, repeat(api.MaxCode, stop)} {
		probed, _, _ := prowl.Probe(code)
		if twice, from, err := prowl.Probe(probed); err != api.ErrCode || len(twice) > 0 || len(from) > 0 {
			t.Errorf("Probe(%v), which is probed: %v, %v, %d", probed, twice, from, err)
		}
	}
}

// P1, P5: of bytes of all kinds it takes those which Check takes.
func TestProbeTakesPrograms(t *testing.T) {
	chance := rand.New(rand.NewSource(4))
	taken := 0
	for range 30000 {
		code := make([]byte, chance.Intn(api.MaxCode+4))
		top := 6 + chance.Intn(20)
		for i := range code {
			code[i] = byte(chance.Intn(top))
		}
		blocks, want := prowl.Check(code)
		probed, from, err := prowl.Probe(code)
		length := 0
		if want == api.OK {
			taken++
			length = len(code) + 2*blocks
		}
		if err != want || len(probed) != length || len(from) != length {
			t.Fatalf("Probe(%v) = %v, %v, %d, Check says %d, %d", code, probed, from, err, blocks, want)
		}
	}
	if taken < 300 {
		t.Errorf("only %d of them were programs", taken)
	}
}

// P5: drawn programs have the Probes that another way of laying them gives.
func TestProbeDrawn(t *testing.T) {
	chance := rand.New(rand.NewSource(5))
	for range 5000 {
		if code := chanceProgram(chance); len(code) <= api.MaxCode {
			probed, from := withProbes(code)
			wantProbed(t, code, probed, from)
		}
	}
}

// wantAlike runs code and what Probe made of it, and asks for the same, at the place from which it comes.
func wantAlike(t *testing.T, code, probed []byte, from []int, input string, fuel int) api.Outcome {
	t.Helper()
	want, wantCover, wantErr := prowl.Run(code, input, fuel)
	got, cover, err := prowl.Run(probed, input, fuel)
	if wantErr != api.OK || err != api.OK {
		t.Fatalf("Run(%v): %d, Run(%v): %d", code, wantErr, probed, err)
	}
	got.At = from[got.At]
	if got != want || !bytes.Equal(cover, wantCover) {
		t.Fatalf("Run(%v, %q, %d) = %#v, %v, of %v %#v, %v", code, input, fuel, want, wantCover, probed, got, cover)
	}
	return want
}

// P14: a probed program runs like the program.
func TestProbedRunsAlike(t *testing.T) {
	chance := rand.New(rand.NewSource(6))
	ends := map[int]int{}
	for range 10000 {
		code, input := chanceProgram(chance), chanceInput(chance)
		if len(code) > api.MaxCode {
			continue
		}
		probed, from, _ := prowl.Probe(code)
		outcome := wantAlike(t, code, probed, from, input, chance.Intn(60))
		ends[outcome.Kind]++
	}
	for _, kind := range []int{api.Done, api.Fault, api.Hang} {
		if ends[kind] < 250 {
			t.Errorf("only %d runs ended by %d", ends[kind], kind)
		}
	}
}

// P14: it does with any fuel.
func TestProbedRunsAlikeWithAnyFuel(t *testing.T) {
	for _, code := range [][]byte{
		example, {stop}, {fail, 0}, {jump, 0}, {read, jump, 0}, {read, drop, jump, 0}, {drop, stop}, {push, 1, push, 0, div, stop}, {read, put, jump, 0},
		{read, jumpZero, 6, jump, 0, stop, fail, 1},
		{load, 3, push, 1, add, dup, store, 3, push, 200, less, jumpZero, 15, jump, 0, stop},
		join([]byte{jump, 79}, repeat(78, stop)), repeat(api.MaxCode, stop),
		join([]byte{read, drop, jump, 78}, repeat(37, fail, 1), []byte{jump, 0}),
	} {
		if _, err := prowl.Check(code); err != api.OK {
			t.Fatalf("Check(%v): %d", code, err)
		}
		probed, from, _ := prowl.Probe(code)
		for fuel := range api.MaxFuel + 1 {
			wantAlike(t, code, probed, from, "a\x00b", fuel)
			wantAlike(t, code, probed, from, "", fuel)
		}
	}
}
