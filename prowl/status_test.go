package prowl_test

import (
	"testing"

	"prowl/api"
	"prowl/prowl"
)

// P10: what is told behind New, and behind each Go.
func TestStatus(t *testing.T) {
	p := begin(t, hangOrDone, 1, 100, "\x00\x00", "\x00\x01", "\x01\x00", "\x01\x01")
	wantStatus(t, p, 4, 2, 0, 0)
	goOn(t, p, 8)
	wantStatus(t, p, 12, 2, 0, 8)
	goOn(t, p, 7)
	wantStatus(t, p, 19, 2, 0, 15)
	goOn(t, p, 1) // the lowest bit of the second byte is inverted: it hangs
	wantStatus(t, p, 20, 3, 0, 16)
	goOn(t, p, 63-16+15)
	if s := p.Status(); s.Tries != 82 || s.Entry != 0 || s.Changes != 78 {
		t.Errorf("Status() = %+v", s)
	}
	goOn(t, p, 1)
	if s := p.Status(); s.Tries != 83 || s.Entry != 1 || s.Changes != 0 {
		t.Errorf("Status() = %+v", s)
	}
	goOn(t, p, 1)
	if s := p.Status(); s.Tries != 84 || s.Entry != 1 || s.Changes != 1 {
		t.Errorf("Status() = %+v", s)
	}
}

// P10: hangs are those of all tries.
func TestStatusHangs(t *testing.T) {
	m, p := newModel(countdowns(), []string{""}, 5, 120), begin(t, countdowns(), 5, 120, "")
	for range 12 {
		for range 100 {
			m.step()
		}
		goOn(t, p, 100)
		m.same(t, p)
	}
	if p.Status().Hangs < 50 {
		t.Errorf("only %d hangs", p.Status().Hangs)
	}
}

// P10: inputs and crashes stand in the order in which they came, not in one of their own.
func TestOrders(t *testing.T) {
	p := begin(t, faulty(), 1, 500, "\x04z", "\x09z", "\x00", "\x02a", "\x05")
	wantKept(t, p, "\x09z")
	wantCrashes(t, p,
		api.Crash{Input: "\x04z", Fault: 16, At: 52}, api.Crash{Input: "\x00", Fault: api.Zero, At: 13},
		api.Crash{Input: "\x02a", Fault: api.Over, At: 29}, api.Crash{Input: "\x05", Fault: 271, At: 61})
	p = begin(t, switches(), 1, 500, "\x06z", "\x01zzz", "\x00")
	wantKept(t, p, "\x06z", "\x01zzz")
	p = begin(t, switches(), 1, 500, "\x00", "\x01zzz", "\x06z")
	wantKept(t, p, "\x00", "\x01zzz", "\x06z")
}

// P10: behind Go, what was tried later stands behind what was there.
func TestOrdersBehindGo(t *testing.T) {
	p := begin(t, word("abc"), 1, 200, "ccc")
	goOn(t, p, 6)
	wantKept(t, p, "ccc")
	goOn(t, p, 1) // the bit by which a differs from c
	wantKept(t, p, "ccc", "acc")
	goOn(t, p, 2000)
	kept := p.Kept()
	if len(kept) != 3 || kept[0] != "ccc" || kept[1] != "acc" || kept[2][:2] != "ab" {
		t.Errorf("Kept() = %q", kept)
	}
}

// P10: a byte of Seen has all bits that were seen at its place.
func TestSeen(t *testing.T) {
	p := begin(t, whileZero, 1, 500)
	wantSeen(t, p, nil)
	for n, bits := range []byte{0, 1, 1 | 2, 1 | 2 | 4, 1 | 2 | 4 | 8, 1 | 2 | 4 | 8} {
		first := []string{"", "\x00", "\x00\x00", "\x00\x00\x00", "\x00\x00\x00\x00", "\x00\x00\x00\x00\x00"}[:n+1]
		p = begin(t, whileZero, 1, 500, first...)
		wantSeen(t, p, map[int]byte{0: 1, 7: bits, 8: 1})
	}
	wantSeen(t, begin(t, []byte{stop}, 1, 1, ""), map[int]byte{0: 1})
}

// P10: what is told does not change what is told or tried next.
func TestTellingChangesNothing(t *testing.T) {
	p, q := begin(t, hashed(7), 4, 500, "ab", ""), begin(t, hashed(7), 4, 500, "ab", "")
	for range 100 {
		for range 3 {
			_, _, _, _, _, _ = p.Status(), p.Kept(), p.Crashes(), p.Seen(), p.Favoured(), p.Log()
		}
		goOn(t, p, 7)
		goOn(t, q, 7)
		sameProwl(t, p, q)
	}
}

// sameProwl asks that two prowls tell the same.
func sameProwl(t *testing.T, p, q *prowl.Prowl) {
	t.Helper()
	if p.Status() != q.Status() {
		t.Fatalf("Status() = %+v of the one, %+v of the other", p.Status(), q.Status())
	}
	wantKept(t, p, q.Kept()...)
	wantCrashes(t, p, q.Crashes()...)
	wantFavoured(t, p, q.Favoured()...)
	wantLog(t, p, q.Log())
	if string(p.Seen()) != string(q.Seen()) {
		t.Fatalf("Seen() = %v of the one, %v of the other", p.Seen(), q.Seen())
	}
}
