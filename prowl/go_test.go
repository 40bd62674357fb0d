package prowl_test

import (
	"math"
	"math/rand"
	"slices"
	"strings"
	"testing"

	"prowl/api"
	"prowl/prowl"
)

// wantNoTry asks Go for an error, and that nothing is changed by it.
func wantNoTry(t *testing.T, p *prowl.Prowl, tries int, want api.Errno) {
	t.Helper()
	status, log := p.Status(), p.Log()
	if err := p.Go(tries); err != want {
		t.Errorf("Go(%d): %d, want %d", tries, err, want)
	}
	if p.Status() != status || p.Log() != log {
		t.Errorf("Go(%d) has changed %+v, %q to %+v, %q", tries, status, log, p.Status(), p.Log())
	}
}

// P9: numbers of tries that may not be; and nothing kept, which is named behind that.
func TestGoRefused(t *testing.T) {
	wrong := []int{math.MinInt, -2000, -1, 0, api.MaxTries + 1, 4000, math.MaxInt}
	p := begin(t, example, 1, 100, "b")
	for _, tries := range wrong {
		wantNoTry(t, p, tries, api.ErrArg)
	}
	goOn(t, p, 40)
	for _, tries := range wrong {
		wantNoTry(t, p, tries, api.ErrArg)
	}
	for _, empty := range []*prowl.Prowl{
		begin(t, example, 1, 100), begin(t, example, 1, 100, "a"), begin(t, example, 1, 4, "b"), begin(t, []byte{jump, 0}, 1, 100, "a", "b"),
		resume(t, example, "", 1, 100), resume(t, example, "c 61\n", 1, 100),
	} {
		for _, tries := range wrong {
			wantNoTry(t, empty, tries, api.ErrArg)
		}
		for _, tries := range []int{1, 2, api.MaxTries} {
			wantNoTry(t, empty, tries, api.ErrNone)
		}
	}
}

// P9: a call with an error draws nothing: the prowl goes on as one that had no such call.
func TestGoRefusedDrawsNothing(t *testing.T) {
	p, q := begin(t, hashed(7), 9, 500, "abc"), begin(t, hashed(7), 9, 500, "abc")
	for range 60 {
		goOn(t, p, 11)
		goOn(t, q, 11)
		p.Go(0)
		p.Go(api.MaxTries + 1)
		if p.Log() != q.Log() || p.Status() != q.Status() {
			t.Fatalf("%+v, %q: without calls that are refused it is %+v, %q", p.Status(), p.Log(), q.Status(), q.Log())
		}
	}
}

// P9: so many tries as are asked for.
func TestGoCounts(t *testing.T) {
	p := begin(t, lock("none"), 1, 100, "b", "c")
	tries := 2
	for _, n := range []int{1, 1, 5, 24, 1, api.MaxTries, 1, 0x123} {
		goOn(t, p, n)
		tries += n
		if got := p.Status().Tries; got != tries {
			t.Errorf("Go(%d): %d tries, want %d", n, got, tries)
		}
	}
	p = begin(t, example, 0, 500, "b")
	goOn(t, p, api.MaxTries)
	wantStatus(t, p, 2001, 0, 0, 1) // 47 tries, then 122 times 16, and one
}

// triesOf tells the texts that the document's words ask for behind a first one, if nothing new is ever seen.
func triesOf(first string, seed uint64, tries int) []string {
	m := newModel(lock("no such text"), []string{first}, seed, api.MaxFuel)
	for range tries {
		m.step()
	}
	return m.texts[1:]
}

// wantFound asks that a text is tried first at this number of tries of Go.
func wantFound(t *testing.T, code []byte, first string, seed uint64, number int, text string) {
	t.Helper()
	p := begin(t, code, seed, api.MaxFuel, first)
	goOn(t, p, number-1)
	if got := p.Crashes(); len(got) != 0 {
		t.Fatalf("%q is tried ahead of the try %d of %q: %v", text, number, first, got)
	}
	goOn(t, p, 1)
	if got := p.Crashes(); len(got) != 1 || got[0].Input != text {
		t.Fatalf("the try %d of %q is not %q: %v", number, first, text, got)
	}
}

// P9: by a program that fails at one text alone: all changes of P6 in their order, then Rounds wild ones, then wild ones alone.
func TestGoEachTry(t *testing.T) {
	for seed, first := range map[uint64]string{0: "b", 1: "b", 2: "", 3: "xy", 1 << 63: "\x00\xff\x80", 5: "0123"} {
		texts := triesOf(first, seed, len(mutants(first))+5*api.Rounds)
		asked := 0
		for n, text := range texts {
			if text == first || slices.Index(texts, text) < n || len(text) > 13 {
				continue
			}
			asked++
			wantFound(t, lock(text), first, seed, n+1, text)
		}
		if asked < 15 {
			t.Errorf("only %d texts of %q differ", asked, first)
		}
	}
}

// P9: the first tries of the document's example, worked out by hand.
func TestGoByHand(t *testing.T) {
	p := begin(t, example, 1, 100, "b")
	goOn(t, p, 14)
	wantCrashes(t, p)
	goOn(t, p, 1)
	wantCrashes(t, p, api.Crash{Input: "a", Fault: 23, At: 6}) // two bits inverted at the last place
	wantStatus(t, p, 16, 0, 0, 15)
	goOn(t, p, 16)
	wantStatus(t, p, 32, 0, 0, 31)
	goOn(t, p, 15)
	wantStatus(t, p, 47, 0, 0, 46)
	goOn(t, p, 1)
	wantStatus(t, p, 48, 0, 0, 0) // the same one is at work once more
	goOn(t, p, 15)
	wantStatus(t, p, 63, 0, 0, 15)
	goOn(t, p, 1)
	wantStatus(t, p, 64, 0, 0, 0)
}

// P9: as many changes as the text has: none of P6 without bytes, one kind fewer with MaxInput bytes.
func TestGoLengths(t *testing.T) {
	for length := range api.MaxInput + 1 {
		small := 8*length + 8*length - 1 + length + 4*length + 4*length + 5*length + length + length
		switch length {
		case 0:
			small = 0
		case api.MaxInput:
			small -= length
		}
		p := begin(t, lock("never"), 1, 500, strings.Repeat("u", length))
		goOn(t, p, small+api.Rounds-1)
		wantStatus(t, p, small+api.Rounds, 0, 0, small+api.Rounds-1)
		goOn(t, p, 1)
		wantStatus(t, p, small+api.Rounds+1, 0, 0, 0)
		goOn(t, p, api.Rounds)
		wantStatus(t, p, small+2*api.Rounds+1, 0, 0, 0)
	}
}

// P9: the first that was kept is at work first, also if it is not favoured; from then on only those that are.
func TestGoAtWork(t *testing.T) {
	p := begin(t, switches(), 1, 500, "\x00aaaa", "\x03", "\x04")
	wantKept(t, p, "\x00aaaa", "\x03", "\x04")
	wantFavoured(t, p, 1, 2)
	tries := 3
	for _, c := range []struct{ entry, changes int }{
		{0, 159 + 16}, {1, 31 + 16}, {2, 31 + 16}, {1, 16}, {2, 16}, {1, 16}, {2, 16},
	} {
		wantStatus(t, p, tries, 0, c.entry, 0)
		goOn(t, p, c.changes-1)
		tries += c.changes
		wantStatus(t, p, tries-1, 0, c.entry, c.changes-1)
		goOn(t, p, 1)
	}
	wantStatus(t, p, tries, 0, 1, 0)
	wantKept(t, p, "\x00aaaa", "\x03", "\x04")
}

// P9: one that is kept, but not favoured, is passed over; after the last one it is the first again.
func TestGoPassesOver(t *testing.T) {
	p := begin(t, switches(), 1, 500, "\x00", "\x01aaaa", "\x02", "\x07")
	wantKept(t, p, "\x00", "\x01aaaa", "\x02", "\x07")
	wantFavoured(t, p, 0, 3)
	tries := 4
	for _, c := range []struct{ entry, changes int }{{0, 47}, {3, 47}, {0, 16}, {3, 16}, {0, 16}} {
		wantStatus(t, p, tries, 0, c.entry, 0)
		goOn(t, p, c.changes)
		tries += c.changes
	}
	wantStatus(t, p, tries, 0, 3, 0)
}

// P9: what is favoured is asked when the last change was tried: one that is kept by it is at work next, if it is the next one.
func TestGoFavouredAsItIsThen(t *testing.T) {
	found := 0
	for seed := uint64(1); seed < 400; seed++ {
		m := newModel(below16, []string{""}, seed, 500)
		for range api.Rounds - 1 {
			m.step()
		}
		if len(m.kept) > 1 {
			continue
		}
		m.step()
		if len(m.kept) == 1 {
			continue
		}
		found++
		p := begin(t, below16, seed, 500, "")
		goOn(t, p, api.Rounds)
		wantStatus(t, p, api.Rounds+1, 0, 1, 0)
		m.same(t, p)
	}
	if found == 0 {
		t.Errorf("no seed keeps an input by its last change")
	}
}

// P9: each try of a prowl that keeps more and more, by a program that fails at texts of one hash alone.
func TestGoEachTryOfMany(t *testing.T) {
	const never = 0xfe01
	for seed, first := range map[uint64]string{0: "", 7: "abc"} {
		m := newModel(hashed(never), []string{first}, seed, api.MaxFuel)
		for range 500 {
			m.step()
		}
		if len(m.kept) < 4 || len(m.crashes) > 0 {
			t.Fatalf("%d are kept, %d found", len(m.kept), len(m.crashes))
		}
		met := map[uint16]int{hashOf(first): 1}
		for n, text := range m.texts[1:] {
			if met[hashOf(text)]++; met[hashOf(text)] == 1 && !slices.Contains(m.kept, text) {
				wantFound(t, hashed(hashOf(text)), first, seed, n+1, text)
			}
		}
	}
}

// P9: whole prowls, try by try and in pieces of all sizes, by the document's words.
func TestGoByTheWords(t *testing.T) {
	first := []string{"", "abc", "\x00", "\x01\x02", "\x00\x01zz"}
	for n, code := range allPrograms() {
		for seed := range uint64(3) {
			m, p := newModel(code, first[n%3:], seed, 300), begin(t, code, seed, 300, first[n%3:]...)
			q := begin(t, code, seed, 300, first[n%3:]...)
			m.same(t, p)
			for tries := range 1200 {
				if len(m.kept) == 0 {
					break
				}
				m.step()
				goOn(t, p, 1)
				if p.Status() != m.status || tries%50 == 0 {
					m.same(t, p)
				}
			}
			if len(m.kept) > 0 {
				goOn(t, q, 1200)
			}
			m.same(t, p)
			m.same(t, q)
		}
	}
}

// P9: programs, inputs and seeds that are drawn.
func TestGoByChance(t *testing.T) {
	chance := rand.New(rand.NewSource(9))
	most, crashed := 0, 0
	for n := range 200 {
		code, seed, fuel := chanceMaze(chance), chance.Uint64(), 1+chance.Intn(api.MaxFuel)
		if n%2 == 0 {
			code = chanceProgram(chance)
		}
		var first []string
		for range chance.Intn(api.MaxFirst + 1) {
			first = append(first, chanceInput(chance))
		}
		m, p := newModel(code, first, seed, fuel), begin(t, code, seed, fuel, first...)
		m.same(t, p)
		for range 10 {
			if len(m.kept) == 0 {
				break
			}
			tries := 1 + chance.Intn(150)
			for range tries {
				m.step()
			}
			goOn(t, p, tries)
			m.same(t, p)
		}
		most, crashed = max(most, len(m.kept)), crashed+len(m.crashes)
	}
	if most < 8 || crashed < 50 {
		t.Errorf("the programs show too little: %d kept at most, %d crashes", most, crashed)
	}
}

// P8, P9: when MaxKept inputs are kept, no other one is, and nothing more is seen, but crashes are found and tries go on.
func TestGoMaxKept(t *testing.T) {
	m, p := newModel(countdowns(), []string{""}, 3, 500), begin(t, countdowns(), 3, 500, "")
	for len(m.kept) < api.MaxKept && m.status.Tries < 20000 {
		m.step()
		goOn(t, p, 1)
	}
	m.same(t, p)
	seen, at := p.Seen(), len(m.texts)
	for range 4000 {
		m.step()
	}
	goOn(t, p, 4000)
	m.same(t, p)
	if len(p.Kept()) != api.MaxKept || !slices.Equal(p.Seen(), seen) {
		t.Errorf("%d are kept, and %v is seen, it was %v", len(p.Kept()), p.Seen(), seen)
	}
	fresh := 0
	for _, text := range m.texts[at:] {
		if outcome, cover, _ := prowl.Run(countdowns(), text, 500); outcome.Kind == api.Done {
			for place, bit := range cover {
				fresh += int(bit &^ seen[place])
			}
		}
	}
	if fresh == 0 {
		t.Errorf("nothing new was tried, so nothing is asked here")
	}
}
