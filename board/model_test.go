package board_test

import (
	"slices"
	"testing"

	"board/api"
	"board/board"
)

// comer: an order of the way that a program takes, and what it writes if the
// orders are done one by one.
type comer struct {
	number int
	kind   int // -1: needs no unit
	reads  []int
	writes int // the register, -1: none
	word   int // a Store's word
	value  int64
	trap   int
	order  api.Order
}

// way: what comes when the orders are done one by one, and the number behind
// the last of them. Behind an order that traps it goes on as if that one had
// written nothing: those that need what it would write never get so far.
func way(program []api.Order, memory []int64) ([]comer, int) {
	s := api.State{Memory: slices.Clone(memory)}
	var list []comer
	for len(list) <= api.MaxSteps && s.Next < len(program) && program[s.Next].Op != api.Halt {
		o := program[s.Next]
		c := comer{number: s.Next, kind: -1, writes: -1, word: int(slowPlace(&s, o)), order: o}
		switch o.Op {
		case api.Set, api.Add, api.Sub:
			c.kind = 0
		case api.Mul:
			c.kind = 1
		case api.Div:
			c.kind = 2
		case api.Load, api.Store:
			c.kind = 3
		}
		switch o.Op {
		case api.Add, api.Sub, api.Mul, api.Div, api.Store:
			c.reads = []int{o.A, o.B}
		case api.Load, api.Jump:
			c.reads = []int{o.A}
		}
		if o.Op >= api.Set && o.Op <= api.Load {
			c.writes = o.D
		}
		c.trap = slowStep(&s, o)
		if c.trap != 0 {
			s.Next++
		} else if o.Op == api.Store {
			c.value = s.Memory[c.word]
		} else {
			c.value = s.Regs[o.D]
		}
		list = append(list, c)
	}
	return list, s.Next
}

// model: the cycles alone, over a way that is known beforehand. No value takes
// part in it, and nothing is undone: the state is worked out from the times.
type model struct {
	c     api.Config
	way   []comer
	end   int
	times []api.Times
	cycle int
	ended bool
	trap  int // -1: none has shown
}

// openWriter: does one of the first n orders that writes one of the registers
// have no Write, or one of this very cycle?
func (m *model) openWriter(n int, registers ...int) bool {
	for i, x := range m.times[:n] {
		if slices.Contains(registers, m.way[i].writes) && m.way[i].writes >= 0 && (x.Write == 0 || x.Write == m.cycle) {
			return true
		}
	}
	return false
}

// waitingReader: does one of the first n orders still have to read the register?
func (m *model) waitingReader(n, register int) bool {
	for i, x := range m.times[:n] {
		if x.Read == 0 && slices.Contains(m.way[i].reads, register) {
			return true
		}
	}
	return false
}

func (m *model) write() {
	var who []int
	for i, x := range m.times {
		if x.Done == 0 || x.Done >= m.cycle || x.Write != 0 || m.way[i].trap != 0 {
			continue
		}
		if m.way[i].order.Op == api.Store || !m.waitingReader(i, m.way[i].writes) {
			who = append(who, i)
		}
	}
	writers := 0
	for _, i := range who {
		if m.way[i].order.Op != api.Store {
			writers++
			if writers > m.c.Buses {
				continue
			}
		}
		m.times[i].Write = m.cycle
	}
}

func (m *model) read() {
	for i := range m.times {
		if x := &m.times[i]; x.Read == 0 && !m.openWriter(i, m.way[i].reads...) {
			x.Read = m.cycle
			x.Done = m.cycle + m.c.Latency[m.way[i].kind]
		}
	}
}

func (m *model) issue() {
	n := len(m.times)
	if m.trap >= 0 || m.ended {
		return
	}
	if n == len(m.way) {
		m.ended = true
		return
	}
	next := m.way[n]
	if next.kind < 0 {
		if !m.openWriter(n, next.reads...) {
			m.times = append(m.times, at(next.number, m.cycle, m.cycle, m.cycle, m.cycle))
		}
		return
	}
	busy := 0
	for i, x := range m.times {
		if m.way[i].kind == next.kind && (x.Write == 0 || x.Write == m.cycle) {
			busy++
		}
	}
	if busy < m.c.Units[next.kind] && !m.openWriter(n, next.writes) {
		m.times = append(m.times, at(next.number, m.cycle, 0, 0, 0))
	}
}

func (m *model) show() {
	for i := len(m.times) - 1; i >= 0; i-- {
		if m.way[i].trap != 0 && m.times[i].Done == m.cycle && (m.trap < 0 || i < m.trap) {
			m.trap = i
		}
	}
}

func (m *model) haveWritten(n int) bool {
	return !slices.ContainsFunc(m.times[:n], func(x api.Times) bool { return x.Write == 0 })
}

// behind: the state behind the writes of some of the orders, in the turn given.
func (m *model) behind(memory []int64, who []int) api.State {
	s := api.State{Memory: slices.Clone(memory), Steps: m.cycle}
	for _, i := range who {
		if x := m.way[i]; x.writes >= 0 {
			s.Regs[x.writes] = x.value
		} else if x.order.Op == api.Store {
			s.Memory[x.word] = x.value
		}
	}
	return s
}

func (m *model) next() int {
	if len(m.times) < len(m.way) {
		return m.way[len(m.times)].number
	}
	return m.end
}

// written: the orders that have written, the earliest at first.
func (m *model) written() []int {
	var who []int
	for i, x := range m.times {
		if x.Write != 0 {
			who = append(who, i)
		}
	}
	slices.SortStableFunc(who, func(i, j int) int { return m.times[i].Write - m.times[j].Write })
	return who
}

func firstOnes(n int) []int {
	who := make([]int, n)
	for i := range who {
		who[i] = i
	}
	return who
}

// modelRun answers what P4 asks.
func modelRun(c api.Config, program []api.Order, memory []int64, steps int) (api.State, []api.Times) {
	m := model{c: c, trap: -1}
	m.way, m.end = way(program, memory)
	for {
		m.cycle++
		m.write()
		m.read()
		m.issue()
		m.show()
		switch {
		case m.trap >= 0 && m.haveWritten(m.trap):
			s := m.behind(memory, firstOnes(m.trap))
			s.Stop, s.Trap, s.Next = api.Trapped, m.way[m.trap].trap, m.way[m.trap].number
			return s, m.times
		case m.ended && m.haveWritten(len(m.times)):
			s := m.behind(memory, firstOnes(len(m.times)))
			s.Stop, s.Next = api.Halted, m.end
			return s, m.times
		case m.cycle == steps:
			s := m.behind(memory, m.written())
			s.Stop, s.Next = api.OutOfSteps, m.next()
			return s, m.times
		}
	}
}

func (n *numbers) config() api.Config {
	var c api.Config
	for kind := range api.Kinds {
		c.Units[kind], c.Latency[kind] = 1+n.below(api.MaxUnits), 1+n.below(api.MaxLatency)
		if n.below(2) == 0 {
			c.Latency[kind] = 1 + n.below(3)
		}
	}
	c.Units[api.Memory] = 1
	c.Buses = 1 + n.below(api.MaxBuses)
	return c
}

// crowded: a program whose orders get into each other's way: few registers,
// few words, Jumps that mostly go on.
func (n *numbers) crowded() []api.Order {
	program := make([]api.Order, 2+n.below(24))
	registers := 2 + n.below(5)
	for i := range program {
		o := api.Order{Op: 1 + n.below(api.Jump), D: n.below(registers), A: n.below(registers), B: n.below(registers), K: int64(n.below(4))}
		if o.Op == api.Div && n.below(3) > 0 {
			o.Op = api.Mul
		}
		if o.Op == api.Jump {
			o.K = int64(min(len(program)-1, i+1+n.below(3)))
			if n.below(8) == 0 {
				o.K = int64(n.below(len(program)))
			}
		}
		program[i] = o
	}
	return program
}

// TestRunAgainstTheModel: P4, over many programs; P2: twice the same; P5.
func TestRunAgainstTheModel(t *testing.T) {
	n := numbers(2)
	stops := [3]int{}
	undone := 0
	for turn := range 12000 {
		c, program, memory, steps := n.config(), n.crowded(), []int64{0, 1, n.value(), 3}, api.MaxSteps
		if turn%3 == 0 {
			program, memory = n.program(), n.memory()
		}
		if turn%4 == 0 {
			steps = 1 + n.below(40)
		}
		want, wantTimes := modelRun(c, program, memory, steps)
		for range 2 {
			got, times, e := board.Run(c, program, memory, steps)
			if e != api.OK || !same(got, want) || !slices.Equal(times, wantTimes) {
				t.Fatalf("P4: Run(%+v, %v, %v, %d) = %+v, %v, %d, want %+v, %v", c, program, memory, steps, got, times, e, want, wantTimes)
			}
		}
		stops[want.Stop]++
		if want.Stop == api.Trapped && wantTimes[len(wantTimes)-1].Write != 0 {
			undone++
		}
		if want.Stop != api.OutOfSteps {
			plainly(t, program, memory, want)
		}
	}
	for stop, count := range stops {
		if count < 500 {
			t.Errorf("only %d of the programs stop as %d: the test asks too little", count, stop)
		}
	}
	if undone < 100 {
		t.Errorf("only in %d of the programs something is undone: the test asks too little", undone)
	}
}

// plainly: P5, the same as one by one but for the steps.
func plainly(t *testing.T, program []api.Order, memory []int64, s api.State) {
	t.Helper()
	want, e := board.Plain(program, memory, api.MaxSteps)
	want.Steps = s.Steps
	if e != api.OK || !same(s, want) {
		t.Fatalf("P5: %v, %v: %+v, one by one %+v, %d", program, memory, s, want, e)
	}
}

// TestRunAgreesWithPlain: P5, under each way of having few or many units.
func TestRunAgreesWithPlain(t *testing.T) {
	n := numbers(3)
	for range 300 {
		program, memory := n.crowded(), n.memory()
		for units := 1; units <= api.MaxUnits; units++ {
			for _, latency := range []int{1, 2, 5, api.MaxLatency} {
				c := config([3]int{units, units, units}, [4]int{latency, 1, api.MaxLatency, 3}, units)
				s, _, e := board.Run(c, program, memory, api.MaxSteps)
				if e != api.OK {
					t.Fatalf("P4: Run(%+v, %v): %d", c, program, e)
				}
				if s.Stop != api.OutOfSteps {
					plainly(t, program, memory, s)
				}
			}
		}
	}
}
