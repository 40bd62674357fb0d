package prowl_test

import (
	"math/rand"
	"strings"
	"testing"

	"prowl/api"
	"prowl/prowl"
)

// wantNotResumed asks for an error, for the number beside it, and for no prowl.
func wantNotResumed(t *testing.T, code []byte, log string, fuel int, line int, want api.Errno) {
	t.Helper()
	if p, n, err := prowl.Resume(code, log, 1, fuel); p != nil || n != line || err != want {
		t.Errorf("Resume(%.60v, %.200q, 1, %d) = %v, %d, %d, want nil, %d, %d", code, log, fuel, p, n, err, line, want)
	}
}

// P13: what is no program, and fuel that may not be, alone and at once, ahead of all that is wrong with a log.
func TestResumeRefused(t *testing.T) {
	logs := []string{"", "q 62\n", "x\n", "\n", "q 62\nq 62\n"}
	for _, log := range logs {
		for _, code := range noPrograms() {
			wantNotResumed(t, code, log, 100, 0, api.ErrCode)
			wantNotResumed(t, code, log, 0, 0, api.ErrCode)
			wantNotResumed(t, code, log, 501, 0, api.ErrCode)
		}
		for _, fuel := range wrongFuels() {
			wantNotResumed(t, example, log, fuel, 0, api.ErrArg)
		}
	}
	resume(t, []byte{stop}, "q \n", 1, 1)
	resume(t, []byte{stop}, "q \n", 1, api.MaxFuel)
}

// wrongLines are no lines of any log.
func wrongLines() []string {
	return []string{
		"", " ", "q", "c", "q6", "q61", "c61", "q\t61", "q-61", "q  61", "q 61 ", " q 61", "q 6 1", "q 61 62", "q 61q 62", "q 6", "c 6", "q 616", "c 616",
		"Q 61", "C 61", "x 61", "r 61", "p 61", "b 61", "d 61", "0 61", "61", "\x00 61", "\x00 62", "\x00 63", "qq 61", "qc 61", "cq 61", "q 6A", "q A6", "q 6F", "q 6g", "q g6", "q 6G", "q 6/", "q 6:", "q /6", "q :6", "q 6`", "q `6", "q 6@", "q @6",
		"q 0x61", "q 6\x00", "q \x00\x00", "q 61\r", "\rq 61", "q 61\x00", "\x00q 61", "q é1", "q ١٢", "\xff\xff", "q \xff\xff", "q 61\v", "# 61",
		"q " + strings.Repeat("62", api.MaxInput+1), "c " + strings.Repeat("61", api.MaxInput+1), "q " + strings.Repeat("6", 2*api.MaxInput+1), "q " + strings.Repeat("6", 2*api.MaxInput-1),
		"q " + strings.Repeat("62", 1<<16), strings.Repeat("q ", 1<<16), "q " + strings.Repeat(" ", 1<<16),
	}
}

// P13: each wrong form of a line, at the first place, behind others, and with others behind it.
func TestResumeWrongLines(t *testing.T) {
	for _, line := range wrongLines() {
		wantNotResumed(t, example, line+"\n", 100, 1, api.ErrLog)
		wantNotResumed(t, example, line+"\nq 62\n", 100, 1, api.ErrLog)
		wantNotResumed(t, example, "q 62\n"+line+"\n", 100, 2, api.ErrLog)
		wantNotResumed(t, example, "q 62\n"+line+"\nc 61\n", 100, 2, api.ErrLog)
		wantNotResumed(t, example, "q 62\nc 61\n"+line+"\n"+line+"\nq", 100, 3, api.ErrLog)
	}
}

// P13: an input that is not kept, or not found, though its line is one.
func TestResumeWrongInputs(t *testing.T) {
	for log, line := range map[string]int{
		"q 61\n":                   1, // it fails
		"c 62\n":                   1, // it is done
		"c \n":                     1,
		"q 62\nq 63\n":             2, // nothing new
		"q 62\nq 62\n":             2,
		"q 62\nc 62\n":             2,
		"c 61\nc 61\n":             2, // found already
		"c 61\nc 6161\n":           2,
		"c 61\nq 61\n":             2,
		"c 61\nq 62\nq 63\n":       3,
		"c 61\nq 62\nc 6162\nq\n":  3,
		"q 62\nc 61\nq 6162\nc 61": 3,
	} {
		wantNotResumed(t, example, log, 100, line, api.ErrLog)
	}
	wantNotResumed(t, []byte{jump, 0}, "q 00\n", 100, 1, api.ErrLog)
	wantNotResumed(t, []byte{jump, 0}, "c 00\n", 100, 1, api.ErrLog)
	wantNotResumed(t, example, "q 62\n", 4, 1, api.ErrLog)
	wantNotResumed(t, example, "c 61\n", 4, 1, api.ErrLog)
	wantNotResumed(t, twoFails, "c 61\nc 00\nc 0000\n", 100, 3, api.ErrLog)
	wantNotResumed(t, whileZero, "q \nq 00\nq 0000\nq 000000\nq 00000000\nq 0000000000\n", 100, 6, api.ErrLog)
}

// P13: logs that are right, with all that may stand behind their last byte 10.
func TestResumeTails(t *testing.T) {
	for _, lines := range []string{"", "q \n", "q 62\n", "c 61\n", "q 62\nc 61\n", "c 61\nq 62\n", "c 61ff0a\nq " + strings.Repeat("62", api.MaxInput) + "\n"} {
		tails := append(wrongLines(), "q 62", "c 61", "q 63", "q 61", "q 6262", "q 62\r")
		for _, tail := range tails {
			p := resume(t, example, lines+tail, 1, 100)
			wantLog(t, p, lines)
			wantStatus(t, p, strings.Count(lines, "\n"), 0, 0, 0)
		}
	}
}

// P13: the empty log is one of a prowl that has tried nothing.
func TestResumeOfNothing(t *testing.T) {
	p := resume(t, example, "", 1, 100)
	wantStatus(t, p, 0, 0, 0, 0)
	wantKept(t, p)
	wantCrashes(t, p)
	wantSeen(t, p, nil)
	wantFavoured(t, p)
	wantLog(t, p, "")
}

// P13: all lines are tried, more than New may be given, with what stands in them.
func TestResumeTries(t *testing.T) {
	p := resume(t, faulty(), "c 047a\nq 097a\nc 00\nc 0261\nc 05\n", 1, 500)
	wantStatus(t, p, 5, 0, 0, 0)
	wantKept(t, p, "\x09z")
	wantCrashes(t, p,
		api.Crash{Input: "\x04z", Fault: 16, At: 52}, api.Crash{Input: "\x00", Fault: api.Zero, At: 13},
		api.Crash{Input: "\x02a", Fault: api.Over, At: 29}, api.Crash{Input: "\x05", Fault: 271, At: 61})
	p = resume(t, []byte{stop}, "q 0123456789abcdeffedcba9876543210\n", 1, 1)
	wantKept(t, p, "\x01\x23\x45\x67\x89\xab\xcd\xef\xfe\xdc\xba\x98\x76\x54\x32\x10")
	full := strings.Repeat("\xfa", api.MaxInput)
	wantKept(t, resume(t, []byte{stop}, "q "+strings.Repeat("fa", api.MaxInput)+"\n", 1, 1), full)
	wantCrashes(t, resume(t, []byte{fail, 0}, "c "+strings.Repeat("fa", api.MaxInput)+"\n", 1, 1), api.Crash{Input: full, Fault: 16})
}

// P13: fuel and seed are as New's: from the same lines it goes on as one that New has begun with these inputs.
func TestResumeGoesOn(t *testing.T) {
	for _, seed := range []uint64{0, 1, 2, 1<<64 - 1} {
		for _, fuel := range []int{40, 130, api.MaxFuel} {
			for log, first := range map[string][]string{"q \n": {""}, "q 01\nq 0102\n": {"\x01", "\x01\x02"}, "q 0a0b0c\n": {"\n\v\f"}} {
				for _, code := range [][]byte{countdowns(), hashed(9)} {
					p, err := prowl.New(code, first, seed, fuel)
					if err != api.OK || p.Log() != log {
						continue
					}
					q := resume(t, code, log, seed, fuel)
					for range 10 {
						sameProwl(t, q, p)
						goOn(t, p, 60)
						goOn(t, q, 60)
					}
				}
			}
		}
	}
}

// P13: no seed stands in a log: with another one it goes on in another way.
func TestResumeSeed(t *testing.T) {
	p, q := resume(t, hashed(9), "q \n", 1, 500), resume(t, hashed(9), "q \n", 2, 500)
	goOn(t, p, 200)
	goOn(t, q, 200)
	if p.Log() == q.Log() {
		t.Errorf("two seeds, and one log: %q", p.Log())
	}
}

// P13: MaxKept lines are kept, and one more is not, though it has something new.
func TestResumeMaxKept(t *testing.T) {
	p := begin(t, countdowns(), 3, 500, "")
	for len(p.Kept()) < api.MaxKept {
		goOn(t, p, 500)
	}
	log, seen := p.Log(), p.Seen()
	q := resume(t, countdowns(), log, 1, 500)
	wantStatus(t, q, api.MaxKept, 0, 0, 0)
	asked := 0
	chance := rand.New(rand.NewSource(13))
	for range 5000 {
		input := chanceInput(chance)
		outcome, cover, _ := prowl.Run(countdowns(), input, 500)
		fresh := false
		for place, bit := range cover {
			fresh = fresh || bit&^seen[place] != 0
		}
		if outcome.Kind != api.Done || !fresh {
			continue
		}
		asked++
		wantNotResumed(t, countdowns(), log+hexLine('q', input), 500, api.MaxKept+1, api.ErrLog)
		resume(t, countdowns(), hexLine('q', input), 1, 500)
	}
	if asked == 0 {
		t.Errorf("no input has something new, so nothing is asked here")
	}
}
