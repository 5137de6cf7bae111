// Package scoreboard does the orders of a program side by side, cycle by
// cycle, and undoes what came behind a trap.
package scoreboard

import (
	"board/api"
	"board/orders"
	"board/past"
)

// ticket: of an order that was given out, once for each time that it comes.
// From its Read on it holds what the order will change, or its trap.
type ticket struct {
	order  api.Order
	needs  orders.Needs
	times  api.Times
	effect orders.Effect
	trap   int
}

// change: what a write overwrote, and the place of the order that wrote in the
// row of those given out.
type change struct {
	place int
	undo  orders.Effect
}

// machine: the processor at work. The state's Next is the order that would be
// given out next.
type machine struct {
	config  api.Config
	program []api.Order
	state   api.State
	cycle   int
	given   past.Row[ticket]
	changes past.Row[change]
	ended   bool // giving out has come to a Halt, or to the end
	shown   bool // a trap has shown
	counts  int  // the place of the order whose trap counts, if one has shown
}

// Do answers the state behind the program, and the times of the orders that
// were given out. What it is given has been found free of errors.
func Do(c api.Config, program []api.Order, memory []int64, steps int) (api.State, []api.Times) {
	m := machine{config: c, program: program}
	m.state.Memory = make([]int64, len(memory))
	copy(m.state.Memory, memory)
	for {
		m.oneCycle()
		if m.stop(steps) {
			break
		}
	}
	m.state.Steps = m.cycle
	return m.state, m.times()
}

// stop tells whether the machine stops at the end of this cycle, and sets the
// state to what it is then.
func (m *machine) stop(steps int) bool {
	switch {
	case m.shown && m.allWritten(m.counts):
		m.undoBehind(m.counts)
		t := m.given.At(m.counts)
		m.state.Stop, m.state.Trap, m.state.Next = api.Trapped, t.trap, t.times.Number
	case m.ended && m.allWritten(m.given.Len()):
		m.state.Stop = api.Halted
	case m.cycle == steps:
		m.state.Stop = api.OutOfSteps
	default:
		return false
	}
	return true
}

// allWritten tells whether each order given out ahead of the place has written.
func (m *machine) allWritten(place int) bool {
	for _, t := range m.given.Ahead(place) {
		if t.times.Write == 0 {
			return false
		}
	}
	return true
}

// undoBehind undoes what was written by orders given out behind the place. It
// goes back from the latest: a thing that was written twice then ends as it
// was ahead of the first time.
func (m *machine) undoBehind(place int) {
	for _, c := range m.changes.Back() {
		if c.place > place {
			c.undo.Put(&m.state)
		}
	}
}

func (m *machine) times() []api.Times {
	list := make([]api.Times, 0, m.given.Len())
	for _, t := range m.given.Ahead(m.given.Len()) {
		list = append(list, t.times)
	}
	return list
}
