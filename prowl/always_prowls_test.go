package prowl_test

import (
	"bytes"
	"math"
	"math/rand"
	"slices"
	"strings"
	"testing"

	"prowl/api"
	"prowl/prowl"
)

// P1: bytes, texts, lists and numbers of all kinds: a prowl, or an error and nothing else.
func TestProwlsEnd(t *testing.T) {
	chance := rand.New(rand.NewSource(4))
	fuels := append(wrongFuels(), 1, 2, 50, api.MaxFuel)
	begun := 0
	for range 4000 {
		code := chanceProgram(chance)
		if chance.Intn(4) == 0 {
			code[chance.Intn(len(code))] = byte(chance.Intn(256))
		}
		var first []string
		for range chance.Intn(api.MaxFirst + 3) {
			first = append(first, strings.Repeat(chanceInput(chance), 1+chance.Intn(10)/9))
		}
		p, err := prowl.New(code, first, chance.Uint64(), fuels[chance.Intn(len(fuels))])
		if (p == nil) != (err != api.OK) {
			t.Fatalf("New(%v, %q) = %v, %d", code, first, p, err)
		}
		if p == nil {
			continue
		}
		begun++
		tries := []int{math.MinInt, -1, 0, 1, 30, api.MaxTries + 1, math.MaxInt}[chance.Intn(7)]
		if err := p.Go(tries); err != api.OK && err != api.ErrArg && err != api.ErrNone {
			t.Fatalf("Go(%d): %d", tries, err)
		}
		if len(p.Seen()) != api.MapSize || len(p.Kept()) > api.MaxKept || len(p.Favoured()) > len(p.Kept()) || strings.Count(p.Log(), "\n") != len(p.Kept())+len(p.Crashes()) {
			t.Fatalf("%v: %v, %q, %v, %q", code, p.Seen(), p.Kept(), p.Favoured(), p.Log())
		}
	}
	if begun < 300 {
		t.Errorf("only %d prowls were begun", begun)
	}
}

// P1: texts of all kinds as logs.
func TestResumesEnd(t *testing.T) {
	chance := rand.New(rand.NewSource(5))
	refused := 0
	for range 20000 {
		log := []byte("q \nq 0102\nc 61\nq 00\n")
		for range chance.Intn(4) {
			log[chance.Intn(len(log))] = "qc 0123456789abcdef\n\x00\xff"[chance.Intn(22)]
		}
		code := allPrograms()[chance.Intn(len(allPrograms()))]
		p, line, err := prowl.Resume(code, string(log), 1, 100)
		switch err {
		case api.OK:
			if p == nil || line != 0 {
				t.Fatalf("Resume(%v, %q) = %v, %d", code, log, p, line)
			}
		case api.ErrLog:
			refused++
			if p != nil || line < 1 || line > bytes.Count(log, []byte("\n")) {
				t.Fatalf("Resume(%v, %q) = %v, %d, %d", code, log, p, line, err)
			}
		default:
			t.Fatalf("Resume(%v, %q): %d", code, log, err)
		}
	}
	if refused < 1000 {
		t.Errorf("only %d logs were refused", refused)
	}
	for _, log := range []string{strings.Repeat("\n", 1<<20), strings.Repeat("a", 1<<20), strings.Repeat("q 62\n", 1<<18), "q " + strings.Repeat("62", 1<<20) + "\n"} {
		prowl.Resume(example, log, 1, 500)
	}
}

// P1: also where New and Resume gave no prowl, no method panics.
func TestNoProwl(t *testing.T) {
	p, _ := prowl.New(nil, nil, 1, 100)
	q, _, _ := prowl.Resume(example, "x\n", 1, 100)
	for _, none := range []*prowl.Prowl{p, q, new(prowl.Prowl)} {
		if a, b := none.Go(0), none.Go(1); a != api.ErrArg || b != api.ErrNone {
			t.Errorf("Go of none: %d, %d", a, b)
		}
		wantStatus(t, none, 0, 0, 0, 0)
		wantKept(t, none)
		wantCrashes(t, none)
		wantSeen(t, none, nil)
		wantFavoured(t, none)
		wantLog(t, none, "")
	}
}

// P1: the greatest prowls end soon enough.
func TestProwlsOfHangs(t *testing.T) {
	code := join([]byte{read, jumpZero, 3, load, 0, push, 1, add, store, 0, read, push, 1, xor, jumpZero, 3, stop})
	p := begin(t, code, 1, api.MaxFuel, strings.Repeat("\x01", api.MaxInput-1)+"\x02", "\x00\x02")
	goOn(t, p, 5*api.MaxTries)
	if p.Status().Tries != 5*api.MaxTries+2 {
		t.Errorf("Status() = %+v", p.Status())
	}
}

// P2: what is handed in stays as it is, with its spare room.
func TestProwlsChangeNothing(t *testing.T) {
	for _, code := range append(allPrograms(), noPrograms()...) {
		lent := join(code, repeat(300, 7))
		room := []string{"b", "", "\x00\x01", "a", strings.Repeat("z", api.MaxInput), "spare", "room"}
		codeBefore, roomBefore := bytes.Clone(lent), slices.Clone(room)
		for _, fuel := range []int{0, 100} {
			if p, err := prowl.New(lent[:len(code)], room[:5], 1, fuel); err == api.OK {
				p.Go(100)
				prowl.Resume(lent[:len(code)], p.Log(), 1, fuel)
			}
			prowl.Resume(lent[:len(code)], "q 62\n", 1, fuel)
		}
		if !bytes.Equal(lent, codeBefore) || !slices.Equal(room, roomBefore) {
			t.Errorf("what was handed in is %v, %q then", lent, room)
		}
	}
}

// P2: what is handed in is not kept: what the caller makes of it later has no part in the prowl.
func TestProwlsKeepNothing(t *testing.T) {
	for _, code := range allPrograms() {
		first := []string{"", "ab", "\x00\x01"}
		p := begin(t, code, 3, 400, first...)
		log := p.Log()
		lent, inputs := bytes.Clone(code), slices.Clone(first)
		fromNew, _ := prowl.New(lent, inputs, 3, 400)
		for i := range lent {
			lent[i] = stop
		}
		for i := range inputs {
			inputs[i] = "no more"
		}
		lent = bytes.Clone(code)
		fromLog, _, _ := prowl.Resume(lent, log, 3, 400)
		for i := range lent {
			lent[i] = 255
		}
		again := resume(t, code, log, 3, 400)
		if len(p.Kept()) > 0 {
			for _, each := range []*prowl.Prowl{p, fromNew, fromLog, again} {
				goOn(t, each, 500)
			}
		}
		sameProwl(t, fromNew, p)
		sameProwl(t, fromLog, again)
	}
}

// spoil writes over all of a list, with its spare room.
func spoil[T any](list []T, with T) {
	list = list[:cap(list)]
	for i := range list {
		list[i] = with
	}
}

// P2: an answer is the caller's, with its spare room: it is no part of the prowl, nor of a later answer.
func TestProwlsAnswersAreNew(t *testing.T) {
	for _, code := range allPrograms() {
		p, q := begin(t, code, 3, 400, "", "ab", "\x00\x01"), begin(t, code, 3, 400, "", "ab", "\x00\x01")
		for range 60 {
			kept, crashes, seen, favoured := p.Kept(), p.Crashes(), p.Seen(), p.Favoured()
			spoil(kept, "mine")
			spoil(crashes, api.Crash{Input: "mine", Fault: 99, At: 99})
			spoil(seen, 99)
			spoil(favoured, 99)
			p.Go(23)
			q.Go(23)
			p.Kept()
			p.Crashes()
			p.Seen()
			p.Favoured()
			sameProwl(t, p, q)
			spoilt(t, kept, "mine")
			spoilt(t, crashes, api.Crash{Input: "mine", Fault: 99, At: 99})
			spoilt(t, seen, 99)
			spoilt(t, favoured, 99)
		}
	}
}

// spoilt asks that a list that was written over still is so.
func spoilt[T comparable](t *testing.T, list []T, with T) {
	t.Helper()
	for _, thing := range list[:cap(list)] {
		if thing != with {
			t.Fatalf("a later call writes to what was answered: %v", list[:cap(list)])
		}
	}
}

// P2: several prowls in turns do not touch one another, nor do the other calls.
func TestProwlsInTurns(t *testing.T) {
	var alone, turns []*prowl.Prowl
	codes := [][]byte{countdowns(), hashed(7), switches(), word("abc"), countdowns(), whileZero}
	for n, code := range codes {
		alone = append(alone, begin(t, code, uint64(n), 400, "", "\x01"))
		turns = append(turns, begin(t, code, uint64(n), 400, "", "\x01"))
	}
	for _, p := range alone {
		goOn(t, p, 800)
	}
	for round := range 100 {
		for n, p := range turns {
			goOn(t, p, 8)
			prowl.Run(codes[n], "abc", round)
			prowl.Wild("abc", "def", uint64(round))
			prowl.Mutant("abc", round)
			prowl.New(codes[n], []string{"q"}, uint64(round), 100)
			prowl.Resume(codes[n], p.Log(), uint64(round), 400)
		}
	}
	for n := range codes {
		sameProwl(t, turns[n], alone[n])
	}
}

// P2: what is answered hangs on the calls ahead of it alone: the same calls, the same answers.
func TestProwlsAgain(t *testing.T) {
	for _, code := range allPrograms() {
		var logs []string
		for range 3 {
			p := begin(t, code, 12, 300, "ab", "")
			for range 20 {
				p.Go(37)
			}
			logs = append(logs, p.Log()+told(p))
		}
		if logs[0] != logs[1] || logs[1] != logs[2] {
			t.Errorf("%v: the same calls, and %q", code, logs)
		}
	}
}
