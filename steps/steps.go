// Package steps makes a machine's steps, until it is over or may make no more: the machines of layers
// 17 and 21 share it (DOC.md, chapter 17).
package steps

import (
	"trammel/api"
)

// Machine goes on step by step.
type Machine interface {
	// Over tells what came of it, if it is over.
	Over() (api.Outcome, bool)
	// Frames is how many frames its stack has.
	Frames() int
	Step()
}

// Run makes steps, and tells what came of them and how many were made.
func Run(m Machine, fuel int) (api.Outcome, int) {
	for made := 0; ; made++ {
		if came, over := m.Over(); over {
			return came, made
		}
		if made == fuel || m.Frames() > api.MaxFrames {
			return api.Outcome{Kind: api.OutFuel}, made
		}
		m.Step()
	}
}

// Ending is a fault, or that a machine is stuck, if it has ended so.
type Ending struct {
	came  api.Outcome
	ended bool
}

// End ends with a fault.
func (e *Ending) End(came api.Outcome) {
	e.came, e.ended = came, true
}

// Stuck ends because there is no way to go on.
func (e *Ending) Stuck() {
	e.End(api.Outcome{Kind: api.OutStuck})
}

// Ended tells how it ended, if it has.
func (e *Ending) Ended() (api.Outcome, bool) {
	return e.came, e.ended
}
