package prowl_test

import (
	"bytes"
	"fmt"
	"slices"
	"testing"

	"prowl/api"
	"prowl/prowl"
)

// model is a prowl by the document's words, that remembers all that it tried. It leans on Run, which has tests of its own.
type model struct {
	code    []byte
	fuel    int
	d       drawer
	texts   []string // all that were tried
	kept    []string
	covers  [][]byte
	crashes []api.Crash
	log     string
	status  api.Status
	before  []string // those that were at work before
}

func newModel(code []byte, first []string, seed uint64, fuel int) *model {
	m := &model{code: code, fuel: fuel, d: drawer{seed: seed}}
	for _, input := range first {
		m.try(input)
	}
	return m
}

func (m *model) seen() []byte {
	seen := make([]byte, 64)
	for _, cover := range m.covers {
		for place := range cover {
			seen[place] |= cover[place]
		}
	}
	return seen
}

func (m *model) try(input string) {
	m.texts = append(m.texts, input)
	m.status.Tries++
	outcome, cover, err := prowl.Run(m.code, input, m.fuel)
	if err != api.OK {
		panic("the model has tried what can't be run")
	}
	switch outcome.Kind {
	case api.Fault:
		for _, crash := range m.crashes {
			if crash.Fault == outcome.Fault && crash.At == outcome.At {
				return
			}
		}
		m.crashes = append(m.crashes, api.Crash{Input: input, Fault: outcome.Fault, At: outcome.At})
		m.log += fmt.Sprintf("c %x\n", input)
	case api.Hang:
		m.status.Hangs++
	case api.Done:
		together := m.seen()
		for place := range together {
			together[place] |= cover[place]
		}
		if !bytes.Equal(together, m.seen()) && len(m.kept) < 30 {
			m.kept = append(m.kept, input)
			m.covers = append(m.covers, cover)
			m.log += fmt.Sprintf("q %x\n", input)
		}
	}
}

func (m *model) favoured() []int {
	in := make([]bool, len(m.kept))
	for bit := range 64 * 8 {
		has := func(n int) bool { return m.covers[n][bit/8]>>(bit%8)&1 == 1 }
		best, covered := -1, false
		for n := range m.kept {
			covered = covered || in[n] && has(n)
			if has(n) && (best < 0 || len(m.kept[n]) < len(m.kept[best])) {
				best = n
			}
		}
		if best >= 0 && !covered {
			in[best] = true
		}
	}
	var numbers []int
	for n := range in {
		if in[n] {
			numbers = append(numbers, n)
		}
	}
	return numbers
}

// step is one try of Go.
func (m *model) step() {
	text := m.kept[m.status.Entry]
	var small []string
	if !slices.Contains(m.before, text) {
		small = mutants(text)
	}
	if n := m.status.Changes; n < len(small) {
		m.try(small[n])
	} else {
		other := m.kept[m.d.below(len(m.kept))]
		for range 1 + m.d.below(4) {
			text = m.d.change(m.d.below(ways), text, other)
		}
		m.try(text)
	}
	m.status.Changes++
	if m.status.Changes < len(small)+16 {
		return
	}
	m.before = append(m.before, m.kept[m.status.Entry])
	m.status.Changes = 0
	next := m.favoured()[0]
	for _, n := range slices.Backward(m.favoured()) {
		if n > m.status.Entry {
			next = n
		}
	}
	m.status.Entry = next
}

// same holds all that a prowl tells against the model.
func (m *model) same(t *testing.T, p *prowl.Prowl) {
	t.Helper()
	if got := p.Status(); got != m.status {
		t.Fatalf("Status() = %+v, want %+v", got, m.status)
	}
	if got := p.Kept(); !slices.Equal(got, m.kept) {
		t.Fatalf("Kept() = %q, want %q", got, m.kept)
	}
	if got := p.Crashes(); !slices.Equal(got, m.crashes) {
		t.Fatalf("Crashes() = %v, want %v", got, m.crashes)
	}
	if got := p.Seen(); !bytes.Equal(got, m.seen()) {
		t.Fatalf("Seen() = %v, want %v", got, m.seen())
	}
	if got := p.Favoured(); !slices.Equal(got, m.favoured()) {
		t.Fatalf("Favoured() = %v, want %v", got, m.favoured())
	}
	if got := p.Log(); got != m.log {
		t.Fatalf("Log() = %q, want %q", got, m.log)
	}
}

// begin begins a prowl that may be begun.
func begin(t *testing.T, code []byte, seed uint64, fuel int, first ...string) *prowl.Prowl {
	t.Helper()
	p, err := prowl.New(code, first, seed, fuel)
	if p == nil || err != api.OK {
		t.Fatalf("New(%v, %q, %d, %d): %d", code, first, seed, fuel, err)
	}
	return p
}

// resume goes on from a log from which it may be gone on.
func resume(t *testing.T, code []byte, log string, seed uint64, fuel int) *prowl.Prowl {
	t.Helper()
	p, line, err := prowl.Resume(code, log, seed, fuel)
	if p == nil || line != 0 || err != api.OK {
		t.Fatalf("Resume(%v, %q, %d, %d): the line %d, %d", code, log, seed, fuel, line, err)
	}
	return p
}

// goOn tries so many inputs, in as many calls as that takes.
func goOn(t *testing.T, p *prowl.Prowl, tries int) {
	t.Helper()
	for tries > 0 {
		now := min(tries, api.MaxTries)
		if err := p.Go(now); err != api.OK {
			t.Fatalf("Go(%d): %d", now, err)
		}
		tries -= now
	}
}

// wantStatus asks how far a prowl is.
func wantStatus(t *testing.T, p *prowl.Prowl, tries, hangs, entry, changes int) {
	t.Helper()
	if got, want := p.Status(), (api.Status{Tries: tries, Hangs: hangs, Entry: entry, Changes: changes}); got != want {
		t.Errorf("Status() = %+v, want %+v", got, want)
	}
}

func wantKept(t *testing.T, p *prowl.Prowl, want ...string) {
	t.Helper()
	if got := p.Kept(); !slices.Equal(got, want) {
		t.Errorf("Kept() = %q, want %q", got, want)
	}
}

func wantCrashes(t *testing.T, p *prowl.Prowl, want ...api.Crash) {
	t.Helper()
	if got := p.Crashes(); !slices.Equal(got, want) {
		t.Errorf("Crashes() = %v, want %v", got, want)
	}
}

func wantFavoured(t *testing.T, p *prowl.Prowl, want ...int) {
	t.Helper()
	if got := p.Favoured(); !slices.Equal(got, want) {
		t.Errorf("Favoured() = %v, want %v", got, want)
	}
}

func wantLog(t *testing.T, p *prowl.Prowl, want string) {
	t.Helper()
	if got := p.Log(); got != want {
		t.Errorf("Log() = %q, want %q", got, want)
	}
}

// wantSeen asks for all that is not 0.
func wantSeen(t *testing.T, p *prowl.Prowl, want map[int]byte) {
	t.Helper()
	seen := p.Seen()
	if len(seen) != api.MapSize {
		t.Errorf("Seen() has %d bytes", len(seen))
	}
	for place, bits := range seen {
		if bits != want[place] {
			t.Errorf("Seen() has %d at %d, want %d", bits, place, want[place])
		}
	}
}
