package prowl_test

import (
	"math/rand"
	"slices"
	"testing"

	"prowl/api"
)

// P11: nothing kept, one kept.
func TestFavouredFew(t *testing.T) {
	wantFavoured(t, begin(t, example, 1, 100))
	wantFavoured(t, begin(t, example, 1, 100, "a", "aa"))
	wantFavoured(t, begin(t, []byte{jump, 0}, 1, 100, "a"))
	wantFavoured(t, begin(t, example, 1, 100, "b"), 0)
	wantFavoured(t, resume(t, example, "", 1, 100))
}

// P11: the shortest of those that have a bit; of several the one that was kept first.
func TestFavouredShortest(t *testing.T) {
	for _, c := range []struct {
		first []string
		want  []int
	}{
		// The place 0 is everybody's, so the shortest of all is favoured first, and of several the first one.
		{[]string{"\x00zz", "\x07z"}, []int{0, 1}},
		{[]string{"\x00", "\x01aaaa", "\x02", "\x07"}, []int{0, 3}},
		{[]string{"\x00aaaa", "\x03", "\x04"}, []int{1, 2}},
		{[]string{"\x00aa", "\x03aa", "\x04aa"}, []int{0, 1, 2}},
		{[]string{"\x00aa", "\x03a", "\x04aa"}, []int{0, 1, 2}},
		{[]string{"\x00aa", "\x03a", "\x04a"}, []int{1, 2}},
		// Bit 0 set: the second is as short as the third, and was kept first.
		{[]string{"\x00", "\x01a", "\x03a", "\x07a"}, []int{0, 1, 2, 3}},
		{[]string{"\x00", "\x01aa", "\x03a", "\x07a"}, []int{0, 2, 3}},
		{[]string{"\x00", "\x01aa", "\x03aa", "\x07a"}, []int{0, 3}},
		{[]string{"\x00", "\x01aa", "\x03a", "\x07"}, []int{0, 3}},
	} {
		p := begin(t, switches(), 1, 500, c.first...)
		wantKept(t, p, c.first...)
		wantFavoured(t, p, c.want...)
	}
}

// P11: one that has a bit and is favoured already is enough, also if a shorter one has it.
func TestFavouredAlready(t *testing.T) {
	// The empty one is favoured for the place 0; the second one for bit 0 set, which only it has; so the third, which is
	// shorter and has bit 1 set too, is not asked for that, but for bit 2, which only it has.
	p := begin(t, switches(), 1, 500, "", "\x03aaa", "\x06a")
	wantFavoured(t, p, 0, 1, 2)
	// Here bit 2 comes last, and is there by then; so the shorter one with the bits 1 and 2 is not asked for.
	p = resume(t, switches(), "q \nq 026161\nq 0661\nq 07\n", 1, 500)
	wantFavoured(t, p, 0, 3)
	p = resume(t, switches(), "q \nq 0261\nq 06616161\nq 07616161\n", 1, 500)
	wantFavoured(t, p, 0, 3)
	p = resume(t, switches(), "q \nq 0461\nq 06616161\nq 0761616161\n", 1, 500)
	wantFavoured(t, p, 0, 3)
}

// P11: a place with several bits: each has its input.
func TestFavouredBits(t *testing.T) {
	p := begin(t, whileZero, 1, 500, "\x00\x00", "\x00\x00\x00\x00zz", "", "\x00zzzz", "\x00\x00\x00")
	wantKept(t, p, "\x00\x00", "\x00\x00\x00\x00zz", "\x00zzzz", "\x00\x00\x00")
	wantFavoured(t, p, 0, 1, 2, 3)
}

// P11: the highest bit of a place too.
func TestFavouredHighestBit(t *testing.T) {
	p := begin(t, often(), 1, 500, "\x01", "A", "Azz", "@", "Bz")
	wantKept(t, p, "\x01", "A", "@")
	wantSeen(t, p, map[int]byte{0: 1, 8: 1, 16: 1, 47: 64 | 128})
	wantFavoured(t, p, 0, 1, 2)
}

// P11: rising, and as it is at each time.
func TestFavouredRises(t *testing.T) {
	m, p := newModel(countdowns(), []string{""}, 8, 500), begin(t, countdowns(), 8, 500, "")
	fell := false
	for range 300 {
		before := p.Favoured()
		for range 20 {
			m.step()
		}
		goOn(t, p, 20)
		now := p.Favoured()
		if !slices.Equal(now, m.favoured()) || !slices.IsSorted(now) {
			t.Fatalf("Favoured() = %v, want %v", now, m.favoured())
		}
		for _, n := range before {
			fell = fell || !slices.Contains(now, n)
		}
	}
	if !fell {
		t.Errorf("each one that was favoured is so for ever, so little is asked here")
	}
}

// P11: inputs of all lengths, by the document's words.
func TestFavouredByTheWords(t *testing.T) {
	chance := rand.New(rand.NewSource(11))
	for range 3000 {
		code := switches()
		if chance.Intn(2) == 0 {
			code = chanceMaze(chance)
		}
		var first []string
		for range api.MaxFirst {
			input := []byte(chanceInput(chance))
			for i := range input {
				input[i] >>= chance.Intn(8)
			}
			first = append(first, string(input))
		}
		p, m := begin(t, code, 1, 500, first...), newModel(code, first, 1, 500)
		if !slices.Equal(p.Favoured(), m.favoured()) {
			t.Fatalf("%v, %q: Favoured() = %v, want %v", code, p.Kept(), p.Favoured(), m.favoured())
		}
	}
}
