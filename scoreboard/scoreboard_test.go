package scoreboard

import (
	"slices"
	"testing"

	"board/api"
	"board/orders"
)

func config(units, latency int) api.Config {
	c := api.Config{Buses: 1}
	for kind := range api.Kinds {
		c.Units[kind], c.Latency[kind] = units, latency
	}
	c.Units[api.Memory] = 1
	return c
}

func set(d int, k int64) api.Order { return api.Order{Op: api.Set, D: d, K: k} }

// machineOf: one with orders given out that have these times.
func machineOf(cycle int, program []api.Order, times ...api.Times) *machine {
	m := &machine{config: config(2, 1), program: program, cycle: cycle}
	for _, x := range times {
		o := program[x.Number]
		m.given.Add(ticket{order: o, needs: orders.NeedsOf(o), times: x})
	}
	return m
}

func TestDoEndsWithTheTimes(t *testing.T) {
	s, times := Do(config(2, 1), []api.Order{set(1, 7), set(2, 5), {Op: api.Sub, D: 3, A: 1, B: 2}, {}}, []int64{4}, 100)
	want := []api.Times{{Number: 0, Issue: 1, Read: 2, Done: 3, Write: 4}, {Number: 1, Issue: 2, Read: 3, Done: 4, Write: 5}, {Number: 2, Issue: 5, Read: 6, Done: 7, Write: 8}}
	if s.Regs != [8]int64{0, 7, 5, 2} || !slices.Equal(s.Memory, []int64{4}) || s.Next != 3 || s.Stop != api.Halted || s.Steps != 8 || !slices.Equal(times, want) {
		t.Errorf("Do = %+v, %v", s, times)
	}
}

func TestDoLeavesTheMemoryGivenAsItWas(t *testing.T) {
	memory := []int64{4, 5, 6}
	s, _ := Do(config(1, 1), []api.Order{{Op: api.Store, K: 1}}, memory[:2], 100)
	if !slices.Equal(s.Memory, []int64{4, 0}) || !slices.Equal(memory, []int64{4, 5, 6}) {
		t.Errorf("%v out of %v", s.Memory, memory)
	}
}

// TestWhatIsWrittenIsOpenUntilTheCycleIsOver: for readers, Jumps, units and writers alike.
func TestWhatIsWrittenIsOpenUntilTheCycleIsOver(t *testing.T) {
	program := []api.Order{set(1, 7), set(2, 8)}
	first := api.Times{Number: 0, Issue: 1, Read: 2, Done: 3, Write: 4}
	second := api.Times{Number: 1, Issue: 2, Read: 3, Done: 4}
	for cycle, open := range map[int]bool{4: true, 5: false} {
		m := machineOf(cycle, program, first, second)
		if got := m.isToBeWritten(2, orders.NeedsOf(program[0]).Writes); got != open {
			t.Errorf("cycle %d: r1 is to be written: %v", cycle, got)
		}
		if got := m.hasFreeUnit(api.Adder); got == open {
			t.Errorf("cycle %d: an Adder is free: %v", cycle, got)
		}
		if !m.isToBeWritten(2, orders.NeedsOf(program[1]).Writes) || m.isToBeWritten(1, orders.NeedsOf(program[1]).Writes) {
			t.Errorf("cycle %d: the second order is not open, or is open ahead of itself", cycle)
		}
	}
}

func TestUndoBehindLeavesWhatIsAhead(t *testing.T) {
	m := &machine{state: api.State{Memory: []int64{0}}}
	for _, w := range []struct {
		place int
		to    orders.Effect
	}{
		{4, orders.Effect{Target: orders.Register, Place: 1, Value: 5}},
		{2, orders.Effect{Target: orders.Register, Place: 2, Value: 6}},
		{3, orders.Effect{Target: orders.Register, Place: 3, Value: 7}},
		{5, orders.Effect{Target: orders.Register, Place: 1, Value: 8}},
		{6, orders.Effect{Target: orders.Word, Place: 0, Value: 9}},
	} {
		m.write(w.place, &ticket{effect: w.to})
	}
	m.undoBehind(3)
	if m.state.Regs != [8]int64{0, 0, 6, 7} || m.state.Memory[0] != 0 {
		t.Errorf("%+v", m.state)
	}
}

func TestTheFirstGivenOutOfTheTrapsCounts(t *testing.T) {
	m := machineOf(9, []api.Order{set(1, 7)}, api.Times{Done: 9}, api.Times{Done: 10}, api.Times{Done: 9}, api.Times{Done: 5})
	m.show()
	if m.shown {
		t.Error("a trap shows where none is")
	}
	m.given.At(1).trap, m.given.At(2).trap, m.given.At(3).trap = 1, 2, 1
	m.cycle = 5
	for _, want := range []int{3, 3, 3, 3, 2, 1, 1} {
		m.show()
		if !m.shown || m.counts != want {
			t.Errorf("cycle %d: %v, %d, want %d", m.cycle, m.shown, m.counts, want)
		}
		m.cycle++
	}
}
