package prowl_test

import (
	"math"
	"slices"
	"strings"
	"testing"

	"prowl/api"
	"prowl/prowl"
)

// noPrograms are bytes of which no prowl can begin.
func noPrograms() [][]byte {
	probed, _, _ := prowl.Probe(example)
	return [][]byte{
		nil, {}, {21}, {255}, {read}, {push}, {push, 1}, {jump, 1}, {jumpZero, 0}, {store, 16, stop}, {probe, 0, stop}, {stop, probe, 0, stop}, probed, repeat(api.MaxCode+1, stop), make([]byte, 1<<20),
	}
}

// wrongFuels are numbers that are no fuel of a prowl.
func wrongFuels() []int {
	return []int{math.MinInt, -500, -1, 0, api.MaxFuel + 1, 1000, math.MaxInt}
}

// wantNotBegun asks for an error, and for no prowl.
func wantNotBegun(t *testing.T, code []byte, first []string, fuel int, want api.Errno) {
	t.Helper()
	if p, err := prowl.New(code, first, 1, fuel); p != nil || err != want {
		t.Errorf("New(%.60v, %.200q, 1, %d) = %v, %d, want nil, %d", code, first, fuel, p, err, want)
	}
}

// P8: what is no program, alone, and with all other errors.
func TestNewErrCode(t *testing.T) {
	over := strings.Repeat("a", api.MaxInput+1)
	for _, code := range noPrograms() {
		wantNotBegun(t, code, nil, 100, api.ErrCode)
		wantNotBegun(t, code, []string{"a"}, 0, api.ErrCode)
		wantNotBegun(t, code, []string{over}, 100, api.ErrCode)
		wantNotBegun(t, code, slices.Repeat([]string{"a"}, 9), 100, api.ErrCode)
		wantNotBegun(t, code, slices.Repeat([]string{over}, 9), 501, api.ErrCode)
	}
}

// P8: too many inputs, alone, and with what is ErrArg.
func TestNewErrMany(t *testing.T) {
	over := strings.Repeat("a", api.MaxInput+1)
	for _, n := range []int{api.MaxFirst + 1, api.MaxFirst + 2, 100, 1 << 16} {
		wantNotBegun(t, example, make([]string, n), 100, api.ErrMany)
		wantNotBegun(t, example, make([]string, n), 0, api.ErrMany)
		wantNotBegun(t, example, slices.Repeat([]string{over}, n), 100, api.ErrMany)
		wantNotBegun(t, example, append(make([]string, n), over), 501, api.ErrMany)
	}
}

// P8: inputs that are too long, wherever they stand, and fuel that may not be, each alone and both at once.
func TestNewErrArg(t *testing.T) {
	over := strings.Repeat("a", api.MaxInput+1)
	wantNotBegun(t, example, []string{strings.Repeat("a", 1<<20)}, 100, api.ErrArg)
	for at := range api.MaxFirst {
		first := make([]string, api.MaxFirst)
		first[at] = over
		wantNotBegun(t, example, first, 100, api.ErrArg)
		wantNotBegun(t, example, first, 0, api.ErrArg)
	}
	for _, fuel := range wrongFuels() {
		wantNotBegun(t, example, nil, fuel, api.ErrArg)
		wantNotBegun(t, example, []string{"a"}, fuel, api.ErrArg)
		wantNotBegun(t, example, []string{over}, fuel, api.ErrArg)
	}
}

// P8: as many inputs as may be, as long as may be; and none.
func TestNewMost(t *testing.T) {
	full := strings.Repeat("b", api.MaxInput)
	p := begin(t, example, 1, 100, slices.Repeat([]string{full}, api.MaxFirst)...)
	wantStatus(t, p, api.MaxFirst, 0, 0, 0)
	wantKept(t, p, full)
	for _, first := range [][]string{nil, {}} {
		p = begin(t, example, 1, 100, first...)
		wantStatus(t, p, 0, 0, 0, 0)
		wantKept(t, p)
		wantCrashes(t, p)
		wantSeen(t, p, nil)
	}
}

// P8: fuel is what a run has: 1 is enough for a Stop, and the document's example takes 5 steps.
func TestNewFuel(t *testing.T) {
	p := begin(t, []byte{stop}, 1, 1, "")
	wantStatus(t, p, 1, 0, 0, 0)
	wantKept(t, p, "")
	for fuel := 1; fuel <= api.MaxFuel; fuel++ {
		p := begin(t, example, 1, fuel, "a", "b")
		if fuel < 5 {
			wantStatus(t, p, 2, 2, 0, 0)
			wantKept(t, p)
			wantCrashes(t, p)
			continue
		}
		wantStatus(t, p, 2, 0, 0, 0)
		wantKept(t, p, "b")
		wantCrashes(t, p, api.Crash{Input: "a", Fault: 23, At: 6})
	}
	// Two steps for each byte that is 0, and three behind them.
	twentyFour := strings.Repeat("\x00", api.MaxInput)
	wantKept(t, begin(t, whileZero, 1, 51, twentyFour), twentyFour)
	wantStatus(t, begin(t, whileZero, 1, 50, twentyFour), 1, 1, 0, 0)
}

// P8: each input is tried, in its order, and what comes of it is told apart: done, a fault, a hang.
func TestNewTries(t *testing.T) {
	p := begin(t, example, 1, 100, "b", "c", "a", "aa")
	wantStatus(t, p, 4, 0, 0, 0)
	wantKept(t, p, "b")
	wantCrashes(t, p, api.Crash{Input: "a", Fault: 23, At: 6})
	p = begin(t, example, 1, 100, "aa", "c", "a", "b")
	wantKept(t, p, "c")
	wantCrashes(t, p, api.Crash{Input: "aa", Fault: 23, At: 6})
	p = begin(t, hangOrDone, 1, 100, "\x00\x00", "\x01\x00", "\x00\x01", "\x01\x00")
	wantStatus(t, p, 4, 3, 0, 0)
	wantKept(t, p, "\x00\x01")
	wantCrashes(t, p)
	p = begin(t, []byte{jump, 0}, 1, 100, "a", "a", "b")
	wantStatus(t, p, 3, 3, 0, 0)
	wantKept(t, p)
}

// P8: a crash is new by its fault or by its place; the first input that comes to it is the one that is told.
func TestNewCrashes(t *testing.T) {
	p := begin(t, twoFails, 1, 100, "a", "b", "\x00", "\x00a", "a")
	wantStatus(t, p, 5, 0, 0, 0)
	wantCrashes(t, p, api.Crash{Input: "a", Fault: 23, At: 3}, api.Crash{Input: "\x00", Fault: 23, At: 5})
	p = begin(t, zeroOrUnder, 1, 100, "\x00", "", "a", "\x00\x00")
	wantCrashes(t, p, api.Crash{Input: "\x00", Fault: api.Under, At: 7}, api.Crash{Input: "", Fault: api.Zero, At: 7})
	p = begin(t, faulty(), 1, 500, "\x05", "\x04", "\x03", "\x02", "\x01", "\x00", "\x06", "\x05\x05")
	wantCrashes(t, p,
		api.Crash{Input: "\x05", Fault: 271, At: 61}, api.Crash{Input: "\x04", Fault: 16, At: 52}, api.Crash{Input: "\x03", Fault: api.Full, At: 42},
		api.Crash{Input: "\x02", Fault: api.Over, At: 29}, api.Crash{Input: "\x01", Fault: api.Under, At: 21}, api.Crash{Input: "\x00", Fault: api.Zero, At: 13})
	wantKept(t, p, "\x06")
}

// P8: an input is kept by a bit of its cover that is new at its place: a way not gone yet, or one gone more often.
func TestNewKeeps(t *testing.T) {
	zeros := func(n int) string { return strings.Repeat("\x00", n) }
	p := begin(t, whileZero, 1, 500, zeros(2), "", zeros(1), zeros(4), zeros(24), zeros(3), zeros(7), "\x00\x00a")
	wantKept(t, p, zeros(2), zeros(1), zeros(4), zeros(24), zeros(3))
	wantSeen(t, p, map[int]byte{0: 1, 7: 1 | 2 | 4 | 8 | 32, 8: 1})
	p = begin(t, switches(), 1, 500, "\x00", "\x00", "\x07", "\x01", "\x06", "\x03")
	wantKept(t, p, "\x00", "\x07")
	p = begin(t, switches(), 1, 500, "\x01", "\x02", "\x03", "\x00", "\x04", "\x07")
	wantKept(t, p, "\x01", "\x02", "\x04")
	wantSeen(t, p, map[int]byte{0: 1, 8: 1, 9: 1, 16: 1, 24: 1, 25: 1, 32: 1, 40: 1, 41: 1, 48: 1})
}

// P8: what a run with a fault or a hang came by is not seen: an input that is done there later is kept.
func TestNewSeesWhatIsDone(t *testing.T) {
	p := begin(t, word("ab"), 1, 100, "zz", "ab", "ax")
	wantKept(t, p, "zz", "ax")
	p = begin(t, word("ab"), 1, 100, "ab", "abc")
	wantSeen(t, p, nil)
	p = begin(t, hangOrDone, 1, 100, "\x00\x01", "\x01\x00")
	wantSeen(t, p, map[int]byte{0: 1, 9: 1, 24: 1})
	p = begin(t, hangOrDone, 1, 100, "\x00\x01", "\x01\x00", "\x01\x01")
	wantKept(t, p, "\x00\x01", "\x01\x01")
}
