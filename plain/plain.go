// Package plain does the orders of a program one by one.
package plain

import (
	"board/api"
	"board/orders"
)

// Do answers the state behind the program. What it is given has been found
// free of errors.
func Do(program []api.Order, memory []int64, steps int) api.State {
	s := api.State{Memory: make([]int64, len(memory))}
	copy(s.Memory, memory)
	for {
		// The end is asked for ahead of the steps: a program that is at its
		// end just when they are used up has halted.
		if orders.Ends(program, s.Next) {
			s.Stop = api.Halted
			return s
		}
		if s.Steps == steps {
			s.Stop = api.OutOfSteps
			return s
		}
		if trap := step(&s, program[s.Next]); trap != 0 {
			s.Stop, s.Trap = api.Trapped, trap
			return s
		}
	}
}

// step does one order, or answers the number of its trap and leaves the state
// as it was.
func step(s *api.State, o api.Order) int {
	effect, trap := orders.Work(orders.Take(s, o, s.Next))
	if trap != 0 {
		return trap
	}
	s.Next++
	s.Steps++
	effect.Put(s)
	return 0
}
