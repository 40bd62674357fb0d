package prowl_test

import (
	"fmt"
	"math/rand"
	"slices"
	"strings"
	"testing"

	"prowl/api"
	"prowl/prowl"
)

// grown is a prowl that went on for a while, with what it was begun with.
type grown struct {
	p    *prowl.Prowl
	code []byte
	fuel int
}

// allGrown are prowls of several programs, some of them drawn.
func allGrown(t *testing.T) []grown {
	t.Helper()
	chance := rand.New(rand.NewSource(14))
	codes := allPrograms()
	for range 30 {
		codes = append(codes, chanceMaze(chance), chanceProgram(chance))
	}
	var all []grown
	for n, code := range codes {
		for _, fuel := range []int{25, api.MaxFuel} {
			p := begin(t, code, uint64(n), fuel, "", "ab", "\x00\x01", "\x80", chanceInput(chance))
			if len(p.Kept()) > 0 {
				goOn(t, p, 700)
			}
			all = append(all, grown{p, code, fuel})
		}
	}
	return all
}

// P14: each input that is kept, run alone, is done; each crash comes to its fault at its place.
func TestEachRunsAlone(t *testing.T) {
	kept, found := 0, 0
	for _, g := range allGrown(t) {
		for _, input := range g.p.Kept() {
			kept++
			if outcome, _, err := prowl.Run(g.code, input, g.fuel); err != api.OK || outcome.Kind != api.Done {
				t.Errorf("%v, %q: %+v, %d", g.code, input, outcome, err)
			}
		}
		for _, crash := range g.p.Crashes() {
			found++
			outcome, _, err := prowl.Run(g.code, crash.Input, g.fuel)
			if err != api.OK || outcome.Kind != api.Fault || outcome.Fault != crash.Fault || outcome.At != crash.At {
				t.Errorf("%v, %+v: %+v, %d", g.code, crash, outcome, err)
			}
		}
	}
	if kept < 100 || found < 40 {
		t.Errorf("only %d inputs are kept, %d crashes found", kept, found)
	}
}

// P14: the favoured ones have seen all that was seen, which is what all that are kept have seen.
func TestFavouredSeeAll(t *testing.T) {
	for _, g := range allGrown(t) {
		var byFavoured, byKept [api.MapSize]byte
		for n, input := range g.p.Kept() {
			_, cover, _ := prowl.Run(g.code, input, g.fuel)
			for place, bit := range cover {
				byKept[place] |= bit
				if slices.Contains(g.p.Favoured(), n) {
					byFavoured[place] |= bit
				}
			}
		}
		if seen := g.p.Seen(); !slices.Equal(seen, byKept[:]) || !slices.Equal(seen, byFavoured[:]) {
			t.Errorf("%v: %v is seen, %v by those that are kept, %v by the favoured ones", g.code, seen, byKept, byFavoured)
		}
	}
}

// P14: with each beginning of a log, what had been kept and found when it had these lines.
func TestEachBeginning(t *testing.T) {
	for _, g := range allGrown(t) {
		log := g.p.Log()
		for n := range len(log) + 1 {
			lines := log[:strings.LastIndexByte(log[:n], '\n')+1]
			p := resume(t, g.code, log[:n], uint64(n), g.fuel)
			wantLog(t, p, lines)
			wantStatus(t, p, strings.Count(lines, "\n"), 0, 0, 0)
			wantKept(t, p, g.p.Kept()[:strings.Count(lines, "q")]...)
			wantCrashes(t, p, g.p.Crashes()[:strings.Count(lines, "c ")]...)
		}
		p := resume(t, g.code, log, 1, g.fuel)
		wantFavoured(t, p, g.p.Favoured()...)
		if !slices.Equal(p.Seen(), g.p.Seen()) {
			t.Errorf("%v: %v is seen, it was %v", g.code, p.Seen(), g.p.Seen())
		}
	}
}

// told is what is told of what is kept and found.
func told(p *prowl.Prowl) string {
	return fmt.Sprint(p.Kept(), p.Crashes(), p.Seen(), p.Favoured())
}

// P14: the same, held against what the prowl itself told when its log had just grown to these lines.
func TestEachBeginningAsItWas(t *testing.T) {
	for _, code := range allPrograms() {
		p := begin(t, code, 6, 300, "", "ab", "\x00\x01")
		if len(p.Kept()) == 0 {
			continue
		}
		for range 400 {
			before := p.Log()
			goOn(t, p, 1)
			if p.Log() == before {
				continue
			}
			if !strings.HasPrefix(p.Log(), before) {
				t.Fatalf("%q was the log, then %q", before, p.Log())
			}
			if q := resume(t, code, p.Log(), 1, 300); told(q) != told(p) {
				t.Fatalf("Resume(%v, %q): %s, it was %s", code, p.Log(), told(q), told(p))
			}
		}
	}
}

// P14: a prowl that was resumed goes on, and its log with it; so does one that was resumed from that.
func TestResumedAgain(t *testing.T) {
	log := ""
	p := begin(t, word("abc"), 1, 200, "ccc")
	for seed := range uint64(10) {
		goOn(t, p, 300)
		if !strings.HasPrefix(p.Log(), log) {
			t.Fatalf("%q was the log, then %q", log, p.Log())
		}
		log = p.Log()
		p = resume(t, word("abc"), log, seed, 200)
	}
	if found := p.Crashes(); len(found) != 1 || !strings.HasPrefix(found[0].Input, "abc") {
		t.Errorf("the word was not found: %v", found)
	}
}
