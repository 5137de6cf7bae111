package scoreboard

import (
	"board/api"
	"board/orders"
)

// oneCycle lets a cycle go by. The turn counts: an order reads behind the
// writes of the same cycle, but knows them by their cycle and waits for the
// next.
func (m *machine) oneCycle() {
	m.cycle++
	m.writes()
	m.reads()
	m.issue()
	m.show()
}

func (m *machine) writes() {
	buses := m.config.Buses
	for place, t := range m.given.Ahead(m.given.Len()) {
		if !m.mayWrite(place, t) {
			continue
		}
		if needsBus := !t.needs.Writes.IsEmpty(); needsBus {
			if buses == 0 {
				continue
			}
			buses--
		}
		m.write(place, t)
	}
}

// mayWrite: a Store writes no register, so no reader ahead of it keeps it back.
func (m *machine) mayWrite(place int, t *ticket) bool {
	done := t.times.Done != 0 && t.times.Done < m.cycle
	return done && t.trap == 0 && t.times.Write == 0 && !m.isToBeRead(place, t.needs.Writes)
}

// isToBeRead tells whether an order ahead of the place has still to read one
// of the registers.
func (m *machine) isToBeRead(place int, registers orders.RegisterSet) bool {
	for _, t := range m.given.Ahead(place) {
		if t.times.Read == 0 && t.needs.Reads.Meets(registers) {
			return true
		}
	}
	return false
}

// write keeps what is overwritten: a trap that shows later may undo it.
func (m *machine) write(place int, t *ticket) {
	m.changes.Add(change{place: place, undo: t.effect.Reverse(&m.state)})
	t.effect.Put(&m.state)
	t.times.Write = m.cycle
}

func (m *machine) reads() {
	for place, t := range m.given.Ahead(m.given.Len()) {
		if t.times.Read == 0 && !m.isToBeWritten(place, t.needs.Reads) {
			m.read(t)
		}
	}
}

// isToBeWritten tells whether an order ahead of the place that writes one of
// the registers is still open.
func (m *machine) isToBeWritten(place int, registers orders.RegisterSet) bool {
	for _, t := range m.given.Ahead(place) {
		if m.isOpen(t) && t.needs.Writes.Meets(registers) {
			return true
		}
	}
	return false
}

// isOpen tells whether an order has not written, or just in this cycle: what
// it frees is free from the next cycle on.
func (m *machine) isOpen(t *ticket) bool {
	return t.times.Write == 0 || t.times.Write == m.cycle
}

// read does the order's whole work by the values of now; what comes of it is
// kept back until the order writes, or its trap shows.
func (m *machine) read(t *ticket) {
	t.times.Read = m.cycle
	t.times.Done = m.cycle + m.config.Latency[t.needs.Kind]
	t.effect, t.trap = orders.Work(orders.Take(&m.state, t.order, t.times.Number))
}

func (m *machine) issue() {
	if m.ended || m.shown {
		return
	}
	number := m.state.Next
	if orders.Ends(m.program, number) {
		m.ended = true
		return
	}
	o := m.program[number]
	if o.Op == api.Jump {
		m.issueJump(o, number)
	} else {
		m.issueToUnit(o, number)
	}
}

func (m *machine) issueJump(o api.Order, number int) {
	needs := orders.NeedsOf(o)
	if m.isToBeWritten(m.given.Len(), needs.Reads) {
		return
	}
	now := m.cycle
	m.given.Add(ticket{order: o, needs: needs, times: api.Times{Number: number, Issue: now, Read: now, Done: now, Write: now}})
	effect, _ := orders.Work(orders.Take(&m.state, o, number))
	effect.Put(&m.state)
}

func (m *machine) issueToUnit(o api.Order, number int) {
	needs := orders.NeedsOf(o)
	if !m.hasFreeUnit(needs.Kind) || m.isToBeWritten(m.given.Len(), needs.Writes) {
		return
	}
	m.given.Add(ticket{order: o, needs: needs, times: api.Times{Number: number, Issue: m.cycle}})
	m.state.Next++
}

func (m *machine) hasFreeUnit(kind int) bool {
	free := m.config.Units[kind]
	for _, t := range m.given.Ahead(m.given.Len()) {
		if t.needs.Kind == kind && m.isOpen(t) {
			free--
		}
	}
	return free > 0
}

// show finds the first given out of those whose trap has shown: it counts,
// even if one behind it has shown earlier.
func (m *machine) show() {
	for place, t := range m.given.Ahead(m.given.Len()) {
		if t.trap != 0 && t.times.Done <= m.cycle {
			m.shown, m.counts = true, place
			return
		}
	}
}
