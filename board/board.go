// Package board: a processor that works out of order, and does not show it: see DOC.md.
package board

import (
	"board/api"
	"board/orders"
	"board/plain"
	"board/scoreboard"
)

// Plain does the orders of a program one by one (P3).
func Plain(program []api.Order, memory []int64, steps int) (api.State, api.Errno) {
	if e := refused(program, memory, steps); e != api.OK {
		return api.State{}, e
	}
	return plain.Do(program, memory, steps), api.OK
}

// Run does them side by side (P4).
func Run(c api.Config, program []api.Order, memory []int64, steps int) (api.State, []api.Times, api.Errno) {
	if e := refused(program, memory, steps); e != api.OK {
		return api.State{}, nil, e
	}
	if e := refusedConfig(c); e != api.OK {
		return api.State{}, nil, e
	}
	s, times := scoreboard.Do(c, program, memory, steps)
	return s, times, api.OK
}

// refused answers the first error that applies, in the document's turn.
func refused(program []api.Order, memory []int64, steps int) api.Errno {
	switch {
	case !orders.IsProgram(program):
		return api.ErrProgram
	case len(memory) > api.MaxMemory:
		return api.ErrMemory
	case steps < 1 || steps > api.MaxSteps:
		return api.ErrSteps
	}
	return api.OK
}

// refusedConfig answers the first error of a configuration.
func refusedConfig(c api.Config) api.Errno {
	for kind := range api.Kinds {
		if !isFrom1To(most(kind), c.Units[kind]) || !isFrom1To(api.MaxLatency, c.Latency[kind]) {
			return api.ErrUnits
		}
	}
	if !isFrom1To(api.MaxBuses, c.Buses) {
		return api.ErrBuses
	}
	return api.OK
}

// most answers how many units of a kind there may be. Of the Memory there is
// one, so that words are read and written in their turn.
func most(kind int) int {
	if kind == api.Memory {
		return 1
	}
	return api.MaxUnits
}

func isFrom1To(last, number int) bool {
	return number >= 1 && number <= last
}
