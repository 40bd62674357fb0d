package prowl_test

import (
	"bytes"
	"math"
	"math/rand"
	"slices"
	"strings"
	"testing"

	"prowl/api"
	"prowl/prowl"
)

// P1: bytes, texts and numbers of all kinds: each call ends, and has nothing beside an error.
func TestCallsEnd(t *testing.T) {
	chance := rand.New(rand.NewSource(1))
	for range 20000 {
		code := make([]byte, chance.Intn(260))
		top := 21 + chance.Intn(3)*117
		for i := range code {
			code[i] = byte(chance.Intn(top))
		}
		n, err := prowl.Check(code)
		if err != api.OK && err != api.ErrCode || n < 0 || n > api.MaxCode {
			t.Fatalf("Check(%v) = %d, %d", code, n, err)
		}
		if outcome, cover, err := prowl.Run(code, chanceInput(chance), chance.Intn(501)); err != api.OK && (outcome != (api.Outcome{}) || len(cover) != 0) {
			t.Fatalf("Run(%v) = %#v, %v with the error %d", code, outcome, cover, err)
		}
		if probed, from, err := prowl.Probe(code); err != api.OK && (err != api.ErrCode || len(probed) != 0 || len(from) != 0) {
			t.Fatalf("Probe(%v) = %v, %v with the error %d", code, probed, from, err)
		}
	}
	for _, fuel := range []int{math.MinInt, -1, api.MaxFuel + 1, math.MaxInt} {
		wantRefused(t, example, "\xff\x00", fuel, api.ErrArg)
	}
	wantRefused(t, example, strings.Repeat("\xff", 1<<20), 1, api.ErrArg)
	wantRefused(t, make([]byte, 1<<20), "", 1, api.ErrCode)
}

// P1: of programs that can go on for ever, and of those that fault in all ways, each run ends.
func TestRunsEnd(t *testing.T) {
	chance := rand.New(rand.NewSource(2))
	for range 20000 {
		code, fuel := chanceProgram(chance), chance.Intn(api.MaxFuel+1)
		outcome, cover, err := prowl.Run(code, chanceInput(chance), fuel)
		wantErr := api.OK
		if len(code) > api.MaxCode {
			wantErr = api.ErrCode
		}
		if err != wantErr || outcome.Steps > fuel || err == api.OK && len(cover) != api.MapSize {
			t.Fatalf("Run(%v, .., %d) = %#v, %v, %d", code, fuel, outcome, cover, err)
		}
		if (outcome.Kind == api.Fault) != (outcome.Fault != 0) {
			t.Fatalf("Run(%v, .., %d) = %#v", code, fuel, outcome)
		}
	}
}

// P1: texts and numbers of all kinds: both changes end, and have nothing beside a refusal.
func TestChangesEnd(t *testing.T) {
	chance := rand.New(rand.NewSource(3))
	for range 20000 {
		input := strings.Repeat(chanceInput(chance), 1+chance.Intn(2))
		other := strings.Repeat(chanceInput(chance), 1+chance.Intn(2))
		for _, n := range []int{chance.Intn(800), int(chance.Uint64()), -chance.Intn(800)} {
			if text, ok := prowl.Mutant(input, n); !ok && text != "" || len(text) > api.MaxInput || ok && n < 0 {
				t.Fatalf("Mutant(%q, %d) = %q, %v", input, n, text, ok)
			}
		}
		seed := chance.Uint64()
		text, next := prowl.Wild(input, other, seed)
		refused := len(input) > api.MaxInput || len(other) > api.MaxInput
		if len(text) > api.MaxInput || refused && text != "" || refused != (next == seed) {
			t.Fatalf("Wild(%q, %q, %d) = %q, %d", input, other, seed, text, next)
		}
	}
}

// P2: what both changes answer hangs on their arguments alone, not on the calls ahead of them.
func TestChangesHangOnArguments(t *testing.T) {
	inputs := []string{"", "a", "abc", strings.Repeat("q", api.MaxInput), strings.Repeat("q", api.MaxInput+1)}
	type answer struct {
		mutant, wild string
		ok           bool
		next         uint64
	}
	ask := func(i int) (a answer) {
		input, other := inputs[i%len(inputs)], inputs[i/len(inputs)%len(inputs)]
		a.mutant, a.ok = prowl.Mutant(input, i)
		a.wild, a.next = prowl.Wild(input, other, uint64(i))
		return a
	}
	var first [1000]answer
	for i := range first {
		first[i] = ask(i)
	}
	for i := len(first) - 1; i >= 0; i-- {
		if again := ask(i); again != first[i] {
			t.Fatalf("the answers of %d are %v, at first %v", i, again, first[i])
		}
	}
}

// P2: what is handed in stays as it is, with its spare room.
func TestNothingChanged(t *testing.T) {
	for _, code := range [][]byte{
		example, {21}, {read}, {jump, 0}, {jump, 9}, {push}, {push, 1}, {probe, 1, stop}, {probe}, {store, 1, stop}, {read, store, 1, load, 1, put, stop}, {}, repeat(api.MaxCode, stop), repeat(api.MaxCode+1, stop),
	} {
		lent := join(code, repeat(300, 7))
		before := bytes.Clone(lent)
		prowl.Check(lent[:len(code)])
		prowl.Run(lent[:len(code)], "xyz", 100)
		prowl.Run(lent[:len(code)], "xyz", -1)
		prowl.Probe(lent[:len(code)])
		if !bytes.Equal(lent, before) {
			t.Errorf("%v: what was handed in is %v then", before[:len(code)], lent)
		}
	}
}

// P2: an answer is the caller's, and changes no later one; nor does another call in between.
func TestAnswersAreNew(t *testing.T) {
	for _, code := range [][]byte{example, {probe, 3, read, drop, jump, 0}, {read, put, jump, 0}} {
		outcome, cover, _ := prowl.Run(code, "b", 50)
		want := bytes.Clone(cover)
		room := cover[:cap(cover)]
		for i := range room {
			room[i] = 99
		}
		other, _, _ := prowl.Run([]byte{push, 7, store, 0, push, 8, put, jump, 0}, "zz", 30)
		if other.Out != "\x08\x08\x08\x08\x08\x08" {
			t.Errorf("another run puts out %q", other.Out)
		}
		again, second, err := prowl.Run(code, "b", 50)
		if again != outcome || !bytes.Equal(second, want) || err != api.OK {
			t.Errorf("Run(%v) = %#v, %v, at first %#v, %v", code, again, second, outcome, want)
		}
		for i := range room {
			if room[i] != 99 {
				t.Errorf("Run(%v) writes to what it answered earlier", code)
			}
		}
	}
}

// P2: both lists of Probe are the caller's, with their spare room: they are no part of the code, nor of a later answer.
func TestProbesAreNew(t *testing.T) {
	for _, code := range [][]byte{example, {stop}, {jump, 0}, repeat(api.MaxCode, stop)} {
		lent := bytes.Clone(code)
		probed, from, _ := prowl.Probe(lent)
		want, places := bytes.Clone(probed), slices.Clone(from)
		room, spare := probed[:cap(probed)], from[:cap(from)]
		for i := range room {
			room[i] = 99
		}
		for i := range spare {
			spare[i] = 99
		}
		if !bytes.Equal(lent, code) {
			t.Errorf("the code is %v then, it was %v", lent, code)
		}
		wantProbed(t, lent, want, places)
		for i := range lent {
			lent[i] = stop
		}
		prowl.Probe(lent)
		for i := range room {
			if room[i] != 99 {
				t.Errorf("Probe(%v) writes to what it answered earlier", code)
			}
		}
		for i := range spare {
			if spare[i] != 99 {
				t.Errorf("Probe(%v) writes to the places that it answered earlier", code)
			}
		}
	}
}

// P2: code is not kept: what the caller makes of it later has no part in what was answered.
func TestCodeIsNotKept(t *testing.T) {
	code := bytes.Clone(example)
	before, cover, _ := prowl.Run(code, "a", 100)
	seen := bytes.Clone(cover)
	for i := range code {
		code[i] = stop
	}
	if before.Fault != api.User+7 || !bytes.Equal(cover, seen) {
		t.Errorf("an answer has changed: %#v, %v", before, cover)
	}
	if blocks, err := prowl.Check(code); blocks != len(code) || err != api.OK {
		t.Errorf("Check(%v) = %d, %d", code, blocks, err)
	}
	wantRun(t, code, "a", 100, api.Outcome{Steps: 1}, map[int]byte{0: 1})
}
