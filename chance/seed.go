// Package chance: numbers that hang on a seed alone.
package chance

const (
	// A seed of 0 would stay 0 for ever, so another one stands for it.
	insteadOfZero = 88172645463325252
	factor        = 2685821657736338717
)

// Seed is what numbers are drawn from; each drawing changes it.
type Seed uint64

// Below draws a number from 0 to n - 1; n is above 0.
func (s *Seed) Below(n int) int {
	return int(s.draw() % uint64(n))
}

func (s *Seed) draw() uint64 {
	x := uint64(*s)
	if x == 0 {
		x = insteadOfZero
	}
	x ^= x >> 12
	x ^= x << 25
	x ^= x >> 27
	*s = Seed(x)
	return x * factor >> 33
}
