package prowl_test

import (
	"math/big"
	"math/rand"
	"strings"
	"testing"

	"prowl/api"
	"prowl/prowl"
)

// The ways of a wild change, by the document's numbers.
const (
	oneBit = iota
	oneByte
	takenOut
	putIn
	crossed
	copied
	ways
)

// drawer draws from a seed by the document's words, in numbers that have no end, and counts what it draws.
type drawer struct {
	seed  uint64
	drawn int
}

func (d *drawer) below(n int) int {
	d.drawn++
	if d.seed == 0 {
		d.seed = 88172645463325252
	}
	bound := new(big.Int).Lsh(big.NewInt(1), 64)
	x := new(big.Int).SetUint64(d.seed)
	x.Xor(x, new(big.Int).Rsh(x, 12))
	x.Xor(x, new(big.Int).Lsh(x, 25)).Mod(x, bound)
	x.Xor(x, new(big.Int).Rsh(x, 27))
	d.seed = x.Uint64()
	x.Mul(x, big.NewInt(2685821657736338717)).Mod(x, bound).Rsh(x, 33)
	return int(x.Mod(x, big.NewInt(int64(n))).Int64())
}

// change does one wild change by the document's words.
func (d *drawer) change(way int, text string, other string) string {
	length := len(text)
	with := func(at int, b byte) string { return text[:at] + string([]byte{b}) + text[at+1:] }
	switch {
	case way == crossed:
		ahead := d.below(length + 1)
		whole := text[:ahead] + other[d.below(len(other)+1):]
		if len(whole) > 24 {
			whole = whole[:24]
		}
		return whole
	case way == putIn && length < 24:
		at := d.below(length + 1)
		return text[:at] + string([]byte{byte(d.below(256))}) + text[at:]
	case way == putIn || length == 0:
		return text
	case way == oneBit:
		bit := d.below(8 * length)
		return with(bit/8, text[bit/8]^1<<(7-bit%8))
	case way == oneByte:
		at := d.below(length)
		return with(at, byte(d.below(256)))
	case way == takenOut:
		at := d.below(length)
		return text[:at] + text[at+1:]
	}
	at := d.below(length)
	return with(at, text[d.below(length)])
}

// wantWild asks for a text and a seed.
func wantWild(t *testing.T, input string, other string, seed uint64, want string, next uint64) {
	t.Helper()
	if text, then := prowl.Wild(input, other, seed); text != want || then != next {
		t.Errorf("Wild(%.60q, %.60q, %d) = %q, %d, want %q, %d", input, other, seed, text, then, want, next)
	}
}

// seedFor finds a seed from which one wild change is drawn, of this way, the so many-th of such seeds.
func seedFor(way int, which int) uint64 {
	for seed := uint64(1); ; seed++ {
		d := drawer{seed: seed}
		if d.below(4) != 0 || d.below(ways) != way {
			continue
		}
		if which == 0 {
			return seed
		}
		which--
	}
}

// P7: each way, worked out by hand from what is drawn: how many changes, which way, and what it asks for.
func TestWildByHand(t *testing.T) {
	full := strings.Repeat("f", api.MaxInput)
	for _, c := range []struct {
		input, other string
		seed         uint64
		want         string
		next         uint64
	}{
		{"abcde", "vwxyz12", 5, "abc\xe4e", 17171073277665293},              // the bit 24
		{"abcde", "vwxyz12", 48, "abc\x09e", 30428987713085488},             // the byte 3, made 9
		{"abcde", "vwxyz12", 28, "abcd", 40539819323144233},                 // the byte 4
		{"abcde", "vwxyz12", 19, "ab7cde", 6928164192572218258},             // at 2, the byte 55
		{"abcde", "vwxyz12", 14, "abcde12", 13842525801810031375},           // ahead of 5, from 5 on
		{"abcde", "vwxyz12", 115, "", 6989022167931280370},                  // ahead of 0, from 7 on
		{"abcde", "", 14, "abcde", 13842525801810031375},                    // ahead of 5, from 0 on, which is drawn too
		{"abcde", "vwxyz12", 10, "abcce", 4616899490955178251},              // the byte 3, made what the byte 2 is
		{"", "vwxyz12", 5, "", 5630873932171268},                            // no bit to invert
		{"", "vwxyz12", 48, "", 54056389668470847},                          // no byte to make another
		{"", "vwxyz12", 28, "", 31532893973209114},                          // none to take out
		{"", "vwxyz12", 10, "", 11261747864342536},                          // none to copy
		{"", "vwxyz12", 19, "7", 6928164192572218258},                       // at 0, the byte 55
		{"", "vwxyz12", 14, "12", 13842525801810031375},                     // ahead of 0, from 5 on
		{"", "", 14, "", 13842525801810031375},                              // both places are 0
		{full, "vwxyz12", 19, full, 21397320935602198},                      // no room for another byte
		{full[1:], "v", 19, full[:8] + "7" + full[9:], 6928164192572218258}, // at 8, the byte 55
	} {
		wantWild(t, c.input, c.other, c.seed, c.want, c.next)
	}
}

// wantOnce holds one wild change of a way against the document's words, and asks how many numbers it drew.
func wantOnce(t *testing.T, way int, input string, other string, seed uint64, draws int) {
	t.Helper()
	d := drawer{seed: seed}
	d.below(4)
	d.below(ways)
	want := d.change(way, input, other)
	if d.drawn != 2+draws {
		t.Errorf("the way %d of %q draws %d numbers, want %d", way, input, d.drawn-2, draws)
	}
	wantWild(t, input, other, seed, want, d.seed)
}

// P7: each way of texts of all lengths: what is drawn for it, and in which order.
func TestWildWays(t *testing.T) {
	draws := [ways]int{oneBit: 1, oneByte: 2, takenOut: 1, putIn: 2, crossed: 2, copied: 2}
	letters := "abcdefghijklmnopqrstuvwx"
	for way := range ways {
		for length := range api.MaxInput + 1 {
			asked := draws[way]
			if length == 0 && way != putIn && way != crossed || length == api.MaxInput && way == putIn {
				asked = 0
			}
			for which := range 8 {
				seed := seedFor(way, which)
				wantOnce(t, way, letters[:length], "0123456789ABCDEFGHIJKLMN"[which*3:], seed, asked)
				wantOnce(t, way, letters[:length], "", seed, asked)
			}
		}
	}
}

// P7: what is laid together and would be longer than MaxInput is cut there.
func TestWildCutsOff(t *testing.T) {
	input, other := strings.Repeat("a", api.MaxInput), strings.Repeat("b", api.MaxInput)
	cut := 0
	for which := range 40 {
		seed := seedFor(crossed, which)
		d := drawer{seed: seed}
		d.below(4)
		d.below(ways)
		ahead, from := d.below(25), d.below(25)
		whole := input[:ahead] + other[from:]
		if len(whole) > 24 {
			whole = whole[:24]
			cut++
		}
		wantWild(t, input, other, seed, whole, d.seed)
	}
	if cut < 5 {
		t.Errorf("only %d texts were too long", cut)
	}
}

// P7: one change to four, each done to what the one ahead of it made.
func TestWildAll(t *testing.T) {
	chance := rand.New(rand.NewSource(7))
	var times [5]int
	for range 20000 {
		input, other, seed := chanceInput(chance), chanceInput(chance), chance.Uint64()
		d, text := drawer{seed: seed}, input
		n := 1 + d.below(4)
		times[n]++
		for range n {
			text = d.change(d.below(ways), text, other)
		}
		wantWild(t, input, other, seed, text, d.seed)
	}
	for n := 1; n <= 4; n++ {
		if times[n] < 1000 {
			t.Errorf("%d changes came only %d times", n, times[n])
		}
	}
}

// P7: the seed 0 counts as another one, and what comes of it is answered.
func TestWildOfZero(t *testing.T) {
	for _, input := range []string{"", "a", "abc", strings.Repeat("z", api.MaxInput)} {
		text, next := prowl.Wild(input, "xyz", 88172645463325252)
		wantWild(t, input, "xyz", 0, text, next)
		d, want := drawer{}, input
		for range 1 + d.below(4) {
			want = d.change(d.below(ways), want, "xyz")
		}
		wantWild(t, input, "xyz", 0, want, d.seed)
	}
}

// P7: texts that are too long: nothing, and the seed as it was.
func TestWildRefused(t *testing.T) {
	over := strings.Repeat("a", api.MaxInput+1)
	for _, seed := range []uint64{0, 1, 77, 88172645463325252, 1<<64 - 1} {
		wantWild(t, over, "", seed, "", seed)
		wantWild(t, "", over, seed, "", seed)
		wantWild(t, over, over, seed, "", seed)
		wantWild(t, over[1:], over, seed, "", seed)
		wantWild(t, strings.Repeat("a", 1<<20), "b", seed, "", seed)
		if _, next := prowl.Wild(over[1:], over[1:], seed); next == seed {
			t.Errorf("texts of MaxInput bytes are refused")
		}
	}
}

// P7: a text that is changed again and again stays within its bounds.
func TestWildAgainAndAgain(t *testing.T) {
	text, seed := strings.Repeat("ab", 12), uint64(5)
	for range 20000 {
		text, seed = prowl.Wild(text, strings.Repeat("z", api.MaxInput), seed)
		if len(text) > api.MaxInput || seed == 0 {
			t.Fatalf("Wild has made %d bytes, and the seed %d", len(text), seed)
		}
	}
}
