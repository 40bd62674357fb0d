// Package prowl: inputs, tried on a program: see DOC.md.
package prowl

import (
	"slices"
	"strings"

	"prowl/api"
	"prowl/chance"
	"prowl/changes"
	"prowl/hunt"
	"prowl/machine"
	"prowl/program"
)

// Check tells whether bytes are a program (P3).
func Check(code []byte) (int, api.Errno) {
	n, ok := program.Check(code)
	if !ok {
		return n, api.ErrCode
	}
	return n, api.OK
}

// Run lets a program run (P4).
func Run(code []byte, input string, fuel int) (api.Outcome, []byte, api.Errno) {
	if !program.CanRun(code) {
		return api.Outcome{}, nil, api.ErrCode
	}
	if len(input) > api.MaxInput || fuel < 0 || fuel > api.MaxFuel {
		return api.Outcome{}, nil, api.ErrArg
	}
	outcome, cover := machine.Run(code, program.Entries(code), input, fuel)
	return outcome, cover, api.OK
}

// Probe puts probes into a program (P5).
func Probe(code []byte) ([]byte, []int, api.Errno) {
	if _, ok := program.Check(code); !ok {
		return nil, nil, api.ErrCode
	}
	probed, from := program.WithProbes(code)
	return probed, from, api.OK
}

// Mutant tells a change of an input (P6).
func Mutant(input string, n int) (string, bool) {
	if len(input) > api.MaxInput {
		return "", false
	}
	return changes.Mutant(input, n)
}

// Wild tells a wild change of an input (P7).
func Wild(input string, other string, seed uint64) (string, uint64) {
	if len(input) > api.MaxInput || len(other) > api.MaxInput {
		return "", seed
	}
	drawn := chance.Seed(seed)
	text := changes.Wild(input, other, &drawn)
	return text, uint64(drawn)
}

// Prowl is one.
type Prowl struct {
	hunt hunt.Hunt
}

// New begins a prowl (P8).
func New(code []byte, first []string, seed uint64, fuel int) (*Prowl, api.Errno) {
	if _, ok := program.Check(code); !ok {
		return nil, api.ErrCode
	}
	if len(first) > api.MaxFirst {
		return nil, api.ErrMany
	}
	if slices.ContainsFunc(first, tooLong) || !fuelFits(fuel) {
		return nil, api.ErrArg
	}
	p := &Prowl{hunt.New(code, seed, fuel)}
	for _, input := range first {
		p.hunt.Try(strings.Clone(input))
	}
	return p, api.OK
}

func tooLong(input string) bool {
	return len(input) > api.MaxInput
}

// fuelFits tells whether a prowl may have this fuel: with none at all, every run would be a Hang.
func fuelFits(fuel int) bool {
	return fuel >= 1 && fuel <= api.MaxFuel
}

// its tells the hunt of a prowl. Where New and Resume gave no prowl, it is one that tried nothing.
func (p *Prowl) its() *hunt.Hunt {
	if p == nil {
		return new(hunt.Hunt)
	}
	return &p.hunt
}

// Go tries so many inputs (P9).
func (p *Prowl) Go(tries int) api.Errno {
	if tries < 1 || tries > api.MaxTries {
		return api.ErrArg
	}
	if !p.its().CanGo() {
		return api.ErrNone
	}
	p.its().Go(tries)
	return api.OK
}

// Status tells how far it is (P10).
func (p *Prowl) Status() api.Status { return p.its().Status() }

// Kept tells which inputs are kept (P10).
func (p *Prowl) Kept() []string { return p.its().Kept() }

// Crashes tells which faults were found (P10).
func (p *Prowl) Crashes() []api.Crash { return p.its().Crashes() }

// Seen tells what was seen (P10).
func (p *Prowl) Seen() []byte { return p.its().Seen() }

// Favoured tells which inputs are enough (P11).
func (p *Prowl) Favoured() []int { return p.its().Favoured() }

// Log tells what was kept, as a text (P12).
func (p *Prowl) Log() string { return p.its().Log() }

// Resume goes on from a log (P13).
func Resume(code []byte, log string, seed uint64, fuel int) (*Prowl, int, api.Errno) {
	if _, ok := program.Check(code); !ok {
		return nil, 0, api.ErrCode
	}
	if !fuelFits(fuel) {
		return nil, 0, api.ErrArg
	}
	p := &Prowl{hunt.New(code, seed, fuel)}
	if line, ok := p.hunt.Follow(log); !ok {
		return nil, line, api.ErrLog
	}
	return p, 0, api.OK
}
