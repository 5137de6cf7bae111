// Package board: a processor that works out of order, and does not show it: see DOC.md.
package board

import (
	"board/api"
	"board/orders"
	"board/plain"
)

// Plain does the orders of a program one by one (P3).
func Plain(program []api.Order, memory []int64, steps int) (api.State, api.Errno) {
	if e := refused(program, memory, steps); e != api.OK {
		return api.State{}, e
	}
	return plain.Do(program, memory, steps), api.OK
}

// Run does them side by side (P4).
func Run(c api.Config, program []api.Order, memory []int64, steps int) (api.State, []api.Times, api.Errno) {
	return api.State{}, nil, api.OK
}

// refused answers the first error that applies, in the document's turn.
func refused(program []api.Order, memory []int64, steps int) api.Errno {
	switch {
	case !orders.IsProgram(program):
		return api.ErrProgram
	case len(memory) > api.MaxMemory:
		return api.ErrMemory
	case steps < 1 || steps > api.MaxSteps:
		return api.ErrSteps
	}
	return api.OK
}
