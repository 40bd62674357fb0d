package prowl_test

import (
	"math"
	"strings"
	"testing"

	"prowl/api"
	"prowl/prowl"
)

// wantMutant asks for the n-th change of a text.
func wantMutant(t *testing.T, input string, n int, want string) {
	t.Helper()
	if text, ok := prowl.Mutant(input, n); text != want || !ok {
		t.Errorf("Mutant(%q, %d) = %q, %v, want %q", input, n, text, ok, want)
	}
}

// wantNoMutant asks that there is no n-th change of a text.
func wantNoMutant(t *testing.T, input string, n int) {
	t.Helper()
	if text, ok := prowl.Mutant(input, n); text != "" || ok {
		t.Errorf("Mutant(%.60q, %d) = %q, %v, want none", input, n, text, ok)
	}
}

// P6: the document's examples.
func TestMutantExamples(t *testing.T) {
	for n, want := range map[int]string{
		0: "\xe1", 7: "`", 8: "\xa1", 15: "\x9e", 16: "b", 20: "`", 24: "\x00", 29: "", 30: "aa",
	} {
		wantMutant(t, "a", n, want)
	}
	wantNoMutant(t, "a", 31)
}

// P6: each kind at its first and its last number, of one byte and of three.
func TestMutantKinds(t *testing.T) {
	one, three := "\x55", "\x0f\xf0\x55"
	for _, c := range []struct {
		input string
		n     int
		want  string
	}{
		{one, 0, "\xd5"}, {one, 7, "\x54"},
		{one, 8, "\x95"}, {one, 14, "\x56"},
		{one, 15, "\xaa"},
		{one, 16, "\x56"}, {one, 19, "\x59"},
		{one, 20, "\x54"}, {one, 23, "\x51"},
		{one, 24, "\x00"}, {one, 25, "\x01"}, {one, 26, "\x7f"}, {one, 27, "\x80"}, {one, 28, "\xff"},
		{one, 29, ""},
		{one, 30, "\x55\x55"},
		{three, 0, "\x8f\xf0\x55"}, {three, 7, "\x0e\xf0\x55"}, {three, 8, "\x0f\x70\x55"}, {three, 23, "\x0f\xf0\x54"},
		{three, 24, "\xcf\xf0\x55"}, {three, 46, "\x0f\xf0\x56"},
		{three, 47, "\xf0\xf0\x55"}, {three, 49, "\x0f\xf0\xaa"},
		{three, 50, "\x10\xf0\x55"}, {three, 53, "\x13\xf0\x55"}, {three, 54, "\x0f\xf1\x55"}, {three, 61, "\x0f\xf0\x59"},
		{three, 62, "\x0e\xf0\x55"}, {three, 65, "\x0b\xf0\x55"}, {three, 66, "\x0f\xef\x55"}, {three, 73, "\x0f\xf0\x51"},
		{three, 74, "\x00\xf0\x55"}, {three, 78, "\xff\xf0\x55"}, {three, 79, "\x0f\x00\x55"}, {three, 88, "\x0f\xf0\xff"},
		{three, 89, "\xf0\x55"}, {three, 91, "\x0f\xf0"},
		{three, 92, "\x0f\x0f\xf0\x55"}, {three, 94, "\x0f\xf0\x55\x55"},
	} {
		wantMutant(t, c.input, c.n, c.want)
	}
	wantNoMutant(t, one, 31)
	wantNoMutant(t, three, 95)
}

// P6: the same of MaxInput bytes, of which none is put in once more, and of one fewer, of which each is.
func TestMutantLongest(t *testing.T) {
	middle := strings.Repeat("m", api.MaxInput-2)
	full := "a" + middle + "z"
	for _, c := range []struct {
		n    int
		want string
	}{
		{0, "\xe1" + middle + "z"}, {191, "a" + middle + "{"},
		{192, "\xa1" + middle + "z"}, {382, "a" + middle + "y"},
		{383, "\x9e" + middle + "z"}, {406, "a" + middle + "\x85"},
		{407, "b" + middle + "z"}, {502, "a" + middle + "~"},
		{503, "`" + middle + "z"}, {598, "a" + middle + "v"},
		{599, "\x00" + middle + "z"}, {718, "a" + middle + "\xff"},
		{719, middle + "z"}, {742, "a" + middle},
	} {
		wantMutant(t, full, c.n, c.want)
	}
	wantNoMutant(t, full, 743)
	wantNoMutant(t, full, 766)
	wantMutant(t, "a"+middle, 712, "aa"+middle)
	wantMutant(t, "a"+middle, 734, "a"+middle+"m")
	wantNoMutant(t, "a"+middle, 735)
}

// P6: two bits of which the one is the last of a byte, and the other the first of the next.
func TestMutantOverEnds(t *testing.T) {
	wantMutant(t, "\x00\x00\x00", 24+7, "\x01\x80\x00")
	wantMutant(t, "\x00\x00\x00", 24+15, "\x00\x01\x80")
	wantMutant(t, "\xff\xff\xff", 24+7, "\xfe\x7f\xff")
}

// P6: bytes that wrap round.
func TestMutantWraps(t *testing.T) {
	for n, want := range map[int]string{16: "\x00", 19: "\x03", 20: "\xfe"} {
		wantMutant(t, "\xff", n, want)
	}
	for n, want := range map[int]string{16: "\x01", 20: "\xff", 23: "\xfc"} {
		wantMutant(t, "\x00", n, want)
	}
}

// P6: no number that is none has a change, nor has the empty text one, nor one that is too long.
func TestMutantRefused(t *testing.T) {
	for _, n := range []int{math.MinInt, math.MinInt32, -8, -1, 0, 1, 8, 31, 743, math.MaxInt32, math.MaxInt} {
		wantNoMutant(t, "", n)
		wantNoMutant(t, strings.Repeat("a", api.MaxInput+1), n)
		wantNoMutant(t, strings.Repeat("a", 1<<20), n)
		if n < 0 || n >= 743 {
			wantNoMutant(t, "a", n)
			wantNoMutant(t, strings.Repeat("a", api.MaxInput), n)
		}
	}
}

// mutants tells all changes of a text in their order, by the document's words.
func mutants(input string) []string {
	var all []string
	with := func(at int, b byte) string { return input[:at] + string([]byte{b}) + input[at+1:] }
	flip := func(text string, bit int) string {
		changed := []byte(text)
		changed[bit/8] ^= 1 << (7 - bit%8)
		return string(changed)
	}
	for bit := range 8 * len(input) {
		all = append(all, flip(input, bit))
	}
	for bit := 1; bit < 8*len(input); bit++ {
		all = append(all, flip(flip(input, bit-1), bit))
	}
	for at := range len(input) {
		all = append(all, with(at, ^input[at]))
	}
	for _, sign := range []int{1, -1} {
		for at := range len(input) {
			for k := 1; k <= 4; k++ {
				all = append(all, with(at, byte(int(input[at])+sign*k)))
			}
		}
	}
	for at := range len(input) {
		for _, b := range []byte{0, 1, 127, 128, 255} {
			all = append(all, with(at, b))
		}
	}
	for at := range len(input) {
		all = append(all, input[:at]+input[at+1:])
	}
	for at := 0; at < len(input) && len(input) < 24; at++ {
		all = append(all, input[:at+1]+input[at:])
	}
	return all
}

// P6: all changes of texts of each length.
func TestMutantAll(t *testing.T) {
	for length := range api.MaxInput + 1 {
		text := make([]byte, length)
		for i := range text {
			text[i] = byte(37*i*i + 101*i + 5*length)
		}
		all := mutants(string(text))
		for n, want := range all {
			wantMutant(t, string(text), n, want)
		}
		for n := len(all); n < len(all)+50; n++ {
			wantNoMutant(t, string(text), n)
		}
	}
}
