package board_test

import (
	"math"
	"slices"
	"testing"

	"board/api"
	"board/board"
)

// config: adders, multipliers and dividers; the latency of each kind; buses.
func config(units [3]int, latency [4]int, buses int) api.Config {
	return api.Config{Units: [api.Kinds]int{units[0], units[1], units[2], 1}, Latency: latency, Buses: buses}
}

var (
	ones   = [4]int{1, 1, 1, 1}
	single = config([3]int{1, 1, 1}, ones, 1)
	plenty = config([3]int{3, 3, 3}, ones, 3)
)

func at(number, issue, read, done, write int) api.Times {
	return api.Times{Number: number, Issue: issue, Read: read, Done: done, Write: write}
}

type runCase struct {
	name    string
	config  api.Config
	program []api.Order
	memory  []int64
	steps   int
	want    api.State
	times   []api.Times
}

func checkRun(t *testing.T, cases []runCase) {
	t.Helper()
	for _, c := range cases {
		got, times, e := board.Run(c.config, c.program, c.memory, c.steps)
		if e != api.OK || !same(got, c.want) || !slices.Equal(times, c.times) {
			t.Errorf("P4, %s: %+v, %v, %d, want %+v, %v", c.name, got, times, e, c.want, c.times)
		}
	}
}

// TestRunExamples: P4, the document's examples.
func TestRunExamples(t *testing.T) {
	program := []api.Order{set(1, 7), set(2, 5), calc(api.Sub, 3, 1, 2), halt()}
	regs := [8]int64{0, 7, 5, 2}
	checkRun(t, []runCase{
		{"one unit each", single, program, nil, 400,
			api.State{Regs: regs, Next: 3, Steps: 12},
			[]api.Times{at(0, 1, 2, 3, 4), at(1, 5, 6, 7, 8), at(2, 9, 10, 11, 12)}},
		{"two Adders", config([3]int{2, 1, 1}, ones, 1), program, nil, 400,
			api.State{Regs: regs, Next: 3, Steps: 8},
			[]api.Times{at(0, 1, 2, 3, 4), at(1, 2, 3, 4, 5), at(2, 5, 6, 7, 8)}},
		{"a trap", config([3]int{3, 1, 1}, [4]int{1, 1, 6, 1}, 1),
			[]api.Order{set(1, 1), calc(api.Div, 2, 1, 0), set(1, 9), halt()}, nil, 400,
			api.State{Regs: [8]int64{0, 1}, Next: 1, Stop: api.Trapped, Trap: api.Zero, Steps: 11},
			[]api.Times{at(0, 1, 2, 3, 4), at(1, 2, 5, 11, 0), at(2, 5, 6, 7, 8)}},
	})
}

// TestRunWrites: P4, who may write, and who of them does.
func TestRunWrites(t *testing.T) {
	checkRun(t, []runCase{
		{"behind the last reader ahead", config([3]int{3, 2, 1}, [4]int{1, 6, 1, 1}, 1),
			[]api.Order{calc(api.Mul, 1, 0, 0), calc(api.Add, 2, 1, 3), set(3, 4)}, nil, 400,
			api.State{Regs: [8]int64{0, 0, 0, 4}, Next: 3, Steps: 12},
			[]api.Times{at(0, 1, 2, 8, 9), at(1, 2, 10, 11, 12), at(2, 3, 4, 5, 11)}},
		{"what an order writes may be what it reads", single,
			[]api.Order{calc(api.Add, 1, 1, 1)}, nil, 400,
			api.State{Next: 1, Steps: 4}, []api.Times{at(0, 1, 2, 3, 4)}},
		{"a reader behind is not waited for", config([3]int{3, 1, 1}, [4]int{1, 5, 1, 1}, 1),
			[]api.Order{calc(api.Mul, 1, 0, 0), set(2, 4), calc(api.Add, 3, 1, 2)}, nil, 400,
			api.State{Regs: [8]int64{0, 0, 4, 4}, Next: 3, Steps: 11},
			[]api.Times{at(0, 1, 2, 7, 8), at(1, 2, 3, 4, 5), at(2, 3, 9, 10, 11)}},
		{"the bus goes to the first given out, not to the first done", config([3]int{3, 3, 1}, [4]int{5, 3, 1, 1}, 1),
			[]api.Order{set(1, 1), set(2, 2), calc(api.Mul, 3, 0, 0), calc(api.Mul, 4, 0, 0)}, nil, 400,
			api.State{Regs: [8]int64{0, 1, 2}, Next: 4, Steps: 11},
			[]api.Times{at(0, 1, 2, 7, 8), at(1, 2, 3, 8, 9), at(2, 3, 4, 7, 10), at(3, 4, 5, 8, 11)}},
		{"two buses", config([3]int{3, 3, 1}, [4]int{5, 3, 1, 1}, 2),
			[]api.Order{set(1, 1), set(2, 2), calc(api.Mul, 3, 0, 0), calc(api.Mul, 4, 0, 0)}, nil, 400,
			api.State{Regs: [8]int64{0, 1, 2}, Next: 4, Steps: 9},
			[]api.Times{at(0, 1, 2, 7, 8), at(1, 2, 3, 8, 9), at(2, 3, 4, 7, 8), at(3, 4, 5, 8, 9)}},
		{"two buses, three at once", config([3]int{1, 1, 1}, [4]int{5, 4, 1, 3}, 2),
			[]api.Order{set(1, 1), calc(api.Mul, 2, 0, 0), load(3, 0, 0)}, []int64{6}, 400,
			api.State{Regs: [8]int64{0, 1, 0, 6}, Memory: []int64{6}, Next: 3, Steps: 9},
			[]api.Times{at(0, 1, 2, 7, 8), at(1, 2, 3, 7, 8), at(2, 3, 4, 7, 9)}},
		{"three buses, three at once", config([3]int{1, 1, 1}, [4]int{5, 4, 1, 3}, 3),
			[]api.Order{set(1, 1), calc(api.Mul, 2, 0, 0), load(3, 0, 0)}, []int64{6}, 400,
			api.State{Regs: [8]int64{0, 1, 0, 6}, Memory: []int64{6}, Next: 3, Steps: 8},
			[]api.Times{at(0, 1, 2, 7, 8), at(1, 2, 3, 7, 8), at(2, 3, 4, 7, 8)}},
		{"a writer that may not write leaves the bus to one behind", config([3]int{3, 2, 1}, [4]int{1, 6, 1, 1}, 1),
			[]api.Order{calc(api.Mul, 1, 0, 0), calc(api.Add, 2, 1, 3), set(3, 3), load(4, 0, 0)}, []int64{4}, 400,
			api.State{Regs: [8]int64{0, 0, 0, 3, 4}, Memory: []int64{4}, Next: 4, Steps: 12},
			[]api.Times{at(0, 1, 2, 8, 9), at(1, 2, 10, 11, 12), at(2, 3, 4, 5, 11), at(3, 4, 5, 6, 7)}},
	})
}

// TestRunStores: P4, a Store has no register of its own to write, and needs no bus.
func TestRunStores(t *testing.T) {
	odd := store(0, 0, 0)
	odd.D = 3
	checkRun(t, []runCase{
		{"its D keeps it from nothing", config([3]int{2, 1, 1}, [4]int{12, 1, 1, 1}, 1),
			[]api.Order{set(3, 1), calc(api.Add, 4, 3, 1), odd}, []int64{5}, 400,
			api.State{Regs: [8]int64{0, 0, 0, 1, 1}, Memory: []int64{0}, Next: 3, Steps: 29},
			[]api.Times{at(0, 1, 2, 14, 15), at(1, 2, 16, 28, 29), at(2, 3, 4, 5, 6)}},
		{"its D keeps nobody waiting", config([3]int{2, 1, 1}, [4]int{1, 1, 1, 12}, 1),
			[]api.Order{odd, set(3, 1), calc(api.Add, 4, 3, 3)}, []int64{5}, 400,
			api.State{Regs: [8]int64{0, 0, 0, 1, 2}, Memory: []int64{0}, Next: 3, Steps: 15},
			[]api.Times{at(0, 1, 2, 14, 15), at(1, 2, 3, 4, 5), at(2, 3, 6, 7, 8)}},
		{"it leaves the bus to others", config([3]int{3, 1, 1}, [4]int{1, 1, 1, 2}, 1),
			[]api.Order{store(0, 0, 0), set(1, 1), set(2, 2)}, []int64{5}, 400,
			api.State{Regs: [8]int64{0, 1, 2}, Memory: []int64{0}, Next: 3, Steps: 6},
			[]api.Times{at(0, 1, 2, 4, 5), at(1, 2, 3, 4, 5), at(2, 3, 4, 5, 6)}},
		{"it writes when the bus is taken", config([3]int{3, 1, 1}, [4]int{2, 1, 1, 1}, 1),
			[]api.Order{set(1, 1), store(0, 0, 0)}, []int64{5}, 400,
			api.State{Regs: [8]int64{0, 1}, Memory: []int64{0}, Next: 2, Steps: 5},
			[]api.Times{at(0, 1, 2, 4, 5), at(1, 2, 3, 4, 5)}},
		{"it takes its values when it reads", config([3]int{3, 1, 1}, [4]int{1, 1, 1, 9}, 1),
			[]api.Order{set(1, 6), store(0, 1, 0), set(1, 7)}, []int64{5}, 400,
			api.State{Regs: [8]int64{0, 7}, Memory: []int64{6}, Next: 3, Steps: 15},
			[]api.Times{at(0, 1, 2, 3, 4), at(1, 2, 5, 14, 15), at(2, 5, 6, 7, 8)}},
	})
}

// TestRunGivesOutInTurn: P4, one unit for the words; one order a cycle; Jumps; the end.
func TestRunGivesOutInTurn(t *testing.T) {
	checkRun(t, []runCase{
		{"words in their turn", config([3]int{3, 1, 1}, [4]int{1, 1, 1, 3}, 3),
			[]api.Order{set(1, 8), store(0, 1, 0), load(2, 0, 0)}, []int64{5}, 400,
			api.State{Regs: [8]int64{0, 8, 8}, Memory: []int64{8}, Next: 3, Steps: 15},
			[]api.Times{at(0, 1, 2, 3, 4), at(1, 2, 5, 8, 9), at(2, 10, 11, 14, 15)}},
		{"a unit is free behind the write, not behind the work", config([3]int{1, 1, 1}, [4]int{1, 2, 1, 1}, 1),
			[]api.Order{calc(api.Mul, 1, 0, 0), set(2, 2), set(3, 3)}, nil, 400,
			api.State{Regs: [8]int64{0, 0, 2, 3}, Next: 3, Steps: 10},
			[]api.Times{at(0, 1, 2, 4, 5), at(1, 2, 3, 4, 6), at(2, 7, 8, 9, 10)}},
		{"who waits keeps those behind it waiting", config([3]int{1, 1, 1}, [4]int{3, 1, 1, 1}, 1),
			[]api.Order{set(1, 1), set(2, 2), calc(api.Mul, 3, 0, 0)}, nil, 400,
			api.State{Regs: [8]int64{0, 1, 2}, Next: 3, Steps: 12},
			[]api.Times{at(0, 1, 2, 5, 6), at(1, 7, 8, 11, 12), at(2, 8, 9, 10, 11)}},
		{"a Jump waits for its register", plenty,
			[]api.Order{set(1, 0), jump(1, 3), halt(), set(2, 4)}, nil, 400,
			api.State{Regs: [8]int64{0, 0, 4}, Next: 4, Steps: 9},
			[]api.Times{at(0, 1, 2, 3, 4), at(1, 5, 5, 5, 5), at(3, 6, 7, 8, 9)}},
		{"a Jump waits for no other register", plenty,
			[]api.Order{set(1, 1), {Op: api.Jump, D: 1, A: 0, B: 1, K: 3}, halt(), halt()}, nil, 400,
			api.State{Regs: [8]int64{0, 1}, Next: 3, Steps: 4},
			[]api.Times{at(0, 1, 2, 3, 4), at(1, 2, 2, 2, 2)}},
		{"a Jump has read at once", plenty,
			[]api.Order{jump(1, 1), set(1, 5), jump(1, 0)}, nil, 400,
			api.State{Regs: [8]int64{0, 5}, Next: 3, Steps: 7},
			[]api.Times{at(0, 1, 1, 1, 1), at(1, 2, 3, 4, 5), at(2, 6, 6, 6, 6)}},
		{"a loop gives out an order once for each time", config([3]int{2, 1, 1}, ones, 1),
			[]api.Order{jump(1, 2), halt(), set(1, 1), jump(0, 0)}, nil, 400,
			api.State{Regs: [8]int64{0, 1}, Next: 1, Steps: 7},
			[]api.Times{at(0, 1, 1, 1, 1), at(2, 2, 3, 4, 5), at(3, 3, 3, 3, 3), at(0, 6, 6, 6, 6)}},
		{"a Halt at once", single, []api.Order{halt()}, []int64{3}, 1,
			api.State{Memory: []int64{3}, Steps: 1}, nil},
		{"a Set reads no register", plenty,
			[]api.Order{set(1, 1), {Op: api.Set, D: 2, A: 1, B: 1, K: 3}}, nil, 400,
			api.State{Regs: [8]int64{0, 1, 3}, Next: 2, Steps: 5},
			[]api.Times{at(0, 1, 2, 3, 4), at(1, 2, 3, 4, 5)}},
		{"a Load does not read B", plenty,
			[]api.Order{set(1, 1), {Op: api.Load, D: 2, B: 1}}, []int64{6}, 400,
			api.State{Regs: [8]int64{0, 1, 6}, Memory: []int64{6}, Next: 2, Steps: 5},
			[]api.Times{at(0, 1, 2, 3, 4), at(1, 2, 3, 4, 5)}},
	})
}

// TestRunTraps: P4, when a trap shows, which one counts, what is undone.
func TestRunTraps(t *testing.T) {
	slowMul := config([3]int{3, 1, 1}, [4]int{1, 12, 1, 5}, 3)
	chain := []api.Order{calc(api.Mul, 1, 0, 0), calc(api.Div, 2, 0, 0), load(3, 0, 0), set(5, 5), set(6, 6), halt()}
	chained := []api.Times{at(0, 1, 2, 14, 15), at(1, 2, 3, 4, 0), at(2, 3, 4, 9, 0), at(3, 4, 5, 6, 7)}
	cut := slices.Clone(chained)
	cut[0].Write = 0
	checkRun(t, []runCase{
		{"two in one cycle: the first given out counts", config([3]int{3, 1, 1}, [4]int{1, 1, 2, 1}, 1),
			[]api.Order{calc(api.Div, 1, 0, 0), load(2, 0, 0), set(3, 3), set(4, 4), set(5, 5)}, nil, 400,
			api.State{Stop: api.Trapped, Trap: api.Zero, Steps: 4},
			[]api.Times{at(0, 1, 2, 4, 0), at(1, 2, 3, 4, 0), at(2, 3, 4, 5, 0), at(3, 4, 0, 0, 0)}},
		{"one that shows later behind another", slowMul, chain, nil, 400,
			api.State{Next: 1, Stop: api.Trapped, Trap: api.Zero, Steps: 15}, chained},
		{"it stops as Trapped just when the steps are used up", slowMul, chain, nil, 15,
			api.State{Next: 1, Stop: api.Trapped, Trap: api.Zero, Steps: 15}, chained},
		{"with the steps used up ahead of it nothing is undone", slowMul, chain, nil, 14,
			api.State{Regs: [8]int64{0, 0, 0, 0, 0, 5}, Next: 4, Stop: api.OutOfSteps, Steps: 14}, cut},
		{"one ahead shows later", config([3]int{3, 1, 1}, [4]int{1, 1, 9, 1}, 1),
			[]api.Order{calc(api.Div, 1, 0, 0), store(0, 0, 7), set(3, 3), set(4, 4)}, []int64{1}, 400,
			api.State{Memory: []int64{1}, Stop: api.Trapped, Trap: api.Zero, Steps: 11},
			[]api.Times{at(0, 1, 2, 11, 0), at(1, 2, 3, 4, 0), at(2, 3, 4, 5, 6), at(3, 4, 5, 6, 7)}},
		{"one that waits for another's register never traps", config([3]int{3, 1, 2}, [4]int{1, 1, 3, 1}, 1),
			[]api.Order{calc(api.Div, 1, 0, 0), calc(api.Div, 2, 0, 1), halt()}, nil, 400,
			api.State{Stop: api.Trapped, Trap: api.Zero, Steps: 5},
			[]api.Times{at(0, 1, 2, 5, 0), at(1, 2, 0, 0, 0)}},
		{"a register written twice behind it", config([3]int{3, 1, 1}, [4]int{1, 1, 12, 1}, 1),
			[]api.Order{set(1, 1), calc(api.Div, 2, 1, 0), set(1, 2), set(1, 3), halt()}, nil, 400,
			api.State{Regs: [8]int64{0, 1}, Next: 1, Stop: api.Trapped, Trap: api.Zero, Steps: 17},
			[]api.Times{at(0, 1, 2, 3, 4), at(1, 2, 5, 17, 0), at(2, 5, 6, 7, 8), at(3, 9, 10, 11, 12)}},
		{"words and registers behind it", config([3]int{3, 1, 1}, [4]int{1, 1, 12, 1}, 1),
			[]api.Order{calc(api.Div, 2, 1, 0), set(1, 2), store(0, 1, 0), load(3, 0, 0), halt()}, []int64{9}, 400,
			api.State{Memory: []int64{9}, Stop: api.Trapped, Trap: api.Zero, Steps: 14},
			[]api.Times{at(0, 1, 2, 14, 0), at(1, 2, 3, 4, 5), at(2, 3, 6, 7, 8), at(3, 9, 10, 11, 12)}},
		{"a Jump behind it, to where it came from", config([3]int{1, 1, 2}, [4]int{1, 1, 4, 1}, 1),
			[]api.Order{calc(api.Div, 2, 0, 0), jump(0, 0)}, nil, 400,
			api.State{Stop: api.Trapped, Trap: api.Zero, Steps: 6},
			[]api.Times{at(0, 1, 2, 6, 0), at(1, 2, 2, 2, 2)}},
		{"what writes late ahead of it stays", config([3]int{3, 1, 1}, [4]int{1, 8, 1, 1}, 1),
			[]api.Order{set(1, 3), calc(api.Mul, 2, 1, 1), calc(api.Div, 3, 1, 0), set(4, 4), halt()}, nil, 400,
			api.State{Regs: [8]int64{0, 3, 9}, Next: 2, Stop: api.Trapped, Trap: api.Zero, Steps: 14},
			[]api.Times{at(0, 1, 2, 3, 4), at(1, 2, 5, 13, 14), at(2, 3, 5, 6, 0), at(3, 4, 5, 6, 7)}},
	})
}

// TestRunUsesUpItsSteps: P4, the last of the cycles.
func TestRunUsesUpItsSteps(t *testing.T) {
	long := config([3]int{1, 1, 1}, [4]int{12, 12, 12, 12}, 1)
	checkRun(t, []runCase{
		{"one cycle", long, []api.Order{set(1, 1), set(2, 2)}, []int64{8}, 1,
			api.State{Memory: []int64{8}, Next: 1, Stop: api.OutOfSteps, Steps: 1}, []api.Times{at(0, 1, 0, 0, 0)}},
		{"Done lies later", long, []api.Order{set(1, 1), set(2, 2)}, nil, 3,
			api.State{Next: 1, Stop: api.OutOfSteps, Steps: 3}, []api.Times{at(0, 1, 2, 14, 0)}},
		{"a Halt has come", long, []api.Order{set(1, 1), halt(), set(2, 2)}, nil, 14,
			api.State{Next: 1, Stop: api.OutOfSteps, Steps: 14}, []api.Times{at(0, 1, 2, 14, 0)}},
		{"the end has come", long, []api.Order{set(1, 1)}, nil, 14,
			api.State{Next: 1, Stop: api.OutOfSteps, Steps: 14}, []api.Times{at(0, 1, 2, 14, 0)}},
		{"all is written just then", long, []api.Order{set(1, 1)}, nil, 15,
			api.State{Regs: [8]int64{0, 1}, Next: 1, Steps: 15}, []api.Times{at(0, 1, 2, 14, 15)}},
		{"all is written, but the Halt comes a cycle later", single, []api.Order{jump(1, 1), halt()}, nil, 1,
			api.State{Next: 1, Stop: api.OutOfSteps, Steps: 1}, []api.Times{at(0, 1, 1, 1, 1)}},
		{"a Jump that waits", single, []api.Order{set(1, 1), jump(1, 0)}, nil, 4,
			api.State{Regs: [8]int64{0, 1}, Next: 1, Stop: api.OutOfSteps, Steps: 4}, []api.Times{at(0, 1, 2, 3, 4)}},
		{"a Jump that has told the way", single, []api.Order{set(1, 0), jump(1, 0)}, nil, 5,
			api.State{Next: 0, Stop: api.OutOfSteps, Steps: 5}, []api.Times{at(0, 1, 2, 3, 4), at(1, 5, 5, 5, 5)}},
		{"a trap has shown at a Halt", config([3]int{1, 1, 1}, [4]int{1, 12, 1, 1}, 1),
			[]api.Order{calc(api.Mul, 1, 0, 0), calc(api.Div, 2, 0, 0), halt()}, nil, 9,
			api.State{Next: 2, Stop: api.OutOfSteps, Steps: 9}, []api.Times{at(0, 1, 2, 14, 0), at(1, 2, 3, 4, 0)}},
		{"a trap has shown ahead of a Halt", config([3]int{1, 1, 1}, [4]int{1, 12, 1, 1}, 1),
			[]api.Order{calc(api.Mul, 1, 0, 0), calc(api.Div, 2, 0, 0), set(3, 3), halt()}, nil, 9,
			api.State{Regs: [8]int64{0, 0, 0, 3}, Next: 3, Stop: api.OutOfSteps, Steps: 9},
			[]api.Times{at(0, 1, 2, 14, 0), at(1, 2, 3, 4, 0), at(2, 3, 4, 5, 6)}},
		{"a trap will show", single, []api.Order{calc(api.Div, 2, 0, 0), set(3, 3)}, nil, 2,
			api.State{Next: 2, Stop: api.OutOfSteps, Steps: 2}, []api.Times{at(0, 1, 2, 3, 0), at(1, 2, 0, 0, 0)}},
	})
	s, times, e := board.Run(single, []api.Order{jump(0, 0)}, nil, api.MaxSteps)
	if e != api.OK || s.Stop != api.OutOfSteps || s.Steps != api.MaxSteps || len(times) != api.MaxSteps {
		t.Errorf("P4: a Jump to itself: %+v, %d times, %d", s, len(times), e)
	}
}

// TestRunRefuses: P4's errors, and P1: the one named first, and nothing beside it.
func TestRunRefuses(t *testing.T) {
	good := []api.Order{set(1, 1)}
	bad := []api.Order{{Op: api.Jump + 1}}
	long := make([]int64, api.MaxMemory+1)
	expect := func(c api.Config, program []api.Order, memory []int64, steps int, want api.Errno) {
		t.Helper()
		s, times, e := board.Run(c, program, memory, steps)
		if e != want || times != nil || s.Memory != nil || !same(s, api.State{}) {
			t.Errorf("P1: Run(%+v, %v, %d words, %d) = %+v, %v, %d, want %d", c, program, len(memory), steps, s, times, e, want)
		}
	}
	noUnits, noBuses := plenty, plenty
	noUnits.Units[0], noBuses.Buses = 0, 0
	for _, c := range []api.Config{{}, plenty, noUnits, noBuses} {
		expect(c, nil, long, 0, api.ErrProgram)
		expect(c, bad, nil, 1, api.ErrProgram)
		expect(c, []api.Order{jump(0, 1)}, nil, 1, api.ErrProgram)
		expect(c, make([]api.Order, api.MaxProgram+1), nil, 1, api.ErrProgram)
		expect(c, good, long, 0, api.ErrMemory)
		for _, steps := range []int{0, -1, api.MaxSteps + 1, math.MinInt, math.MaxInt} {
			expect(c, good, nil, steps, api.ErrSteps)
		}
	}
	for kind := range api.Kinds {
		for _, number := range []int{0, -1, api.MaxUnits + 1, math.MinInt, math.MaxInt} {
			c := plenty
			c.Units[kind] = number
			expect(c, good, nil, 1, api.ErrUnits)
			c.Buses = number
			expect(c, good, nil, 1, api.ErrUnits)
		}
		for _, number := range []int{0, -1, api.MaxLatency + 1, math.MinInt, math.MaxInt} {
			c := plenty
			c.Latency[kind] = number
			expect(c, good, nil, 1, api.ErrUnits)
			c.Buses = number
			expect(c, good, nil, 1, api.ErrUnits)
		}
	}
	for number := 2; number <= api.MaxUnits; number++ {
		c := plenty
		c.Units[api.Memory] = number
		expect(c, good, nil, 1, api.ErrUnits)
	}
	for _, number := range []int{0, -1, api.MaxBuses + 1, math.MinInt, math.MaxInt} {
		c := plenty
		c.Buses = number
		expect(c, good, nil, 1, api.ErrBuses)
	}
}

// TestRunTakesTheLimits: P4, what is just not too much.
func TestRunTakesTheLimits(t *testing.T) {
	most := config([3]int{api.MaxUnits, api.MaxUnits, api.MaxUnits},
		[4]int{api.MaxLatency, api.MaxLatency, api.MaxLatency, api.MaxLatency}, api.MaxBuses)
	program := make([]api.Order, api.MaxProgram)
	for i := range program {
		program[i] = set(i%8, int64(i))
	}
	for _, c := range []api.Config{single, most} {
		for _, memory := range [][]int64{nil, {}, make([]int64, api.MaxMemory)} {
			for _, steps := range []int{1, api.MaxSteps} {
				s, times, e := board.Run(c, program, memory, steps)
				if e != api.OK || s.Steps > steps || len(s.Memory) != len(memory) || len(times) == 0 {
					t.Errorf("P4: %+v, %d words, %d steps: %+v, %v, %d", c, len(memory), steps, s, times, e)
				}
			}
		}
	}
}

// TestRunKeepsToItsOwnRoom: P2.
func TestRunKeepsToItsOwnRoom(t *testing.T) {
	program := []api.Order{set(1, 9), store(0, 1, 0), calc(api.Div, 2, 1, 0), store(0, 1, 1), set(7, 7), set(6, 6)}
	memory := []int64{1, 2, 3, 4}
	programBefore, memoryBefore := slices.Clone(program), slices.Clone(memory)
	run := func() (api.State, []api.Times) {
		s, times, _ := board.Run(plenty, program[:5], memory[:2], 400)
		return s, times
	}
	got, times := run()
	again, againTimes := run()
	want := api.State{Regs: [8]int64{0, 9}, Memory: []int64{9, 2}, Next: 2, Stop: api.Trapped, Trap: api.Zero, Steps: got.Steps}
	if !same(got, want) || !same(again, want) || !slices.Equal(times, againTimes) {
		t.Fatalf("P4: %+v, %v, then %+v, %v, want %+v", got, times, again, againTimes, want)
	}
	unchanged := func(when string) {
		t.Helper()
		if !slices.Equal(program, programBefore) || !slices.Equal(memory, memoryBefore) {
			t.Errorf("P2, %s: what was handed in is now %v, %v", when, program, memory)
		}
	}
	unchanged("behind the call")
	timesBefore := slices.Clone(againTimes)
	scribble(got.Memory)
	clear(times[:cap(times)])
	unchanged("when the answer is written into")
	if !same(again, want) || !slices.Equal(againTimes, timesBefore) {
		t.Errorf("P2: two answers share room: %+v, %v", again, againTimes)
	}
	third, thirdTimes := run()
	scribble(memory)
	clear(program)
	if !same(third, want) || !slices.Equal(thirdTimes, timesBefore) {
		t.Errorf("P2: something was kept: %+v, %v", third, thirdTimes)
	}
}

// TestRunSharesNoRoomWhenNothingIsWritten: P2, where a copy would be easy to spare.
func TestRunSharesNoRoomWhenNothingIsWritten(t *testing.T) {
	for _, program := range [][]api.Order{{halt()}, {jump(0, 0)}, {calc(api.Div, 0, 0, 0)}} {
		for _, length := range []int{0, 1, 3} {
			memory := []int64{1, 2, 3, 4}
			got, _, _ := board.Run(single, program, memory[:length], 5)
			if !slices.Equal(got.Memory, memory[:length]) {
				t.Errorf("P4: the memory is %v", got.Memory)
			}
			scribble(got.Memory)
			if !slices.Equal(memory, []int64{1, 2, 3, 4}) {
				t.Errorf("P2: the answer shares room with what was handed in: %v", memory)
			}
		}
	}
}

// TestRunAtAllNumbers: P1, an answer comes whatever is given, and nothing beside an error.
func TestRunAtAllNumbers(t *testing.T) {
	ends := []int{math.MinInt, -1, 0, 1, 3, 8, math.MaxInt}
	ask := func(c api.Config, program []api.Order, steps int) {
		t.Helper()
		s, times, e := board.Run(c, program, []int64{1}, steps)
		if e == api.OK && (s.Steps > steps || len(s.Memory) != 1 || len(times) > steps) ||
			e != api.OK && (times != nil || s.Memory != nil || !same(s, api.State{})) {
			t.Errorf("P1: Run(%+v, %v, %d) = %+v, %v, %d", c, program, steps, s, times, e)
		}
	}
	for _, x := range ends {
		for _, y := range ends {
			for kind := range api.Kinds {
				c := plenty
				c.Units[kind], c.Latency[kind], c.Buses = x, y, 1
				ask(c, []api.Order{{Op: 1 + kind}}, 9)
				c.Buses = y
				ask(c, []api.Order{{Op: 1 + kind}}, x)
			}
			for _, o := range []api.Order{{Op: x, D: y}, {Op: x, A: y}, {Op: x, B: y}, {Op: x, K: int64(y)}} {
				ask(plenty, []api.Order{o, o}, 50)
			}
		}
	}
}
