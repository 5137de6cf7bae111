package board_test

import (
	"math"
	"math/big"
	"slices"
	"testing"

	"board/api"
	"board/board"
)

func set(d int, k int64) api.Order { return api.Order{Op: api.Set, D: d, K: k} }

func calc(op, d, a, b int) api.Order { return api.Order{Op: op, D: d, A: a, B: b} }

func load(d, a int, k int64) api.Order { return api.Order{Op: api.Load, D: d, A: a, K: k} }

func store(a, b int, k int64) api.Order { return api.Order{Op: api.Store, A: a, B: b, K: k} }

func jump(a int, k int64) api.Order { return api.Order{Op: api.Jump, A: a, K: k} }

func halt() api.Order { return api.Order{} }

func same(a, b api.State) bool {
	return a.Regs == b.Regs && slices.Equal(a.Memory, b.Memory) &&
		a.Next == b.Next && a.Stop == b.Stop && a.Trap == b.Trap && a.Steps == b.Steps
}

type plainCase struct {
	name    string
	program []api.Order
	memory  []int64
	steps   int
	want    api.State
}

func checkPlain(t *testing.T, cases []plainCase) {
	t.Helper()
	for _, c := range cases {
		got, e := board.Plain(c.program, c.memory, c.steps)
		if e != api.OK || !same(got, c.want) {
			t.Errorf("P3, %s: %+v, %d, want %+v", c.name, got, e, c.want)
		}
	}
}

// TestPlainOrdinary: P3.
func TestPlainOrdinary(t *testing.T) {
	checkPlain(t, []plainCase{
		{"the document's example", []api.Order{set(1, 7), set(2, 5), calc(api.Sub, 3, 1, 2), halt()}, nil, 400,
			api.State{Regs: [8]int64{0, 7, 5, 2}, Next: 3, Steps: 3}},
		{"all registers are 0 at the beginning", []api.Order{halt()}, []int64{4}, 1, api.State{Memory: []int64{4}}},
		{"an order may write what it reads", []api.Order{set(1, 6), calc(api.Mul, 1, 1, 1), calc(api.Add, 1, 1, 1)}, nil, 9,
			api.State{Regs: [8]int64{0, 72}, Next: 3, Steps: 3}},
		{"words are moved", []api.Order{load(1, 0, 0), load(2, 0, 2), store(0, 2, 0), store(0, 1, 2)}, []int64{3, 4, 5}, 9,
			api.State{Regs: [8]int64{0, 3, 5}, Memory: []int64{5, 4, 3}, Next: 4, Steps: 4}},
		{"a loop counts down", []api.Order{set(1, 3), set(2, 1), calc(api.Sub, 1, 1, 2), jump(1, 5), jump(0, 2), halt()}, nil, 400,
			api.State{Regs: [8]int64{0, 0, 1}, Next: 5, Steps: 10}},
		{"a Halt in the middle ends it", []api.Order{set(1, 3), halt(), set(1, 4)}, nil, 400,
			api.State{Regs: [8]int64{0, 3}, Next: 1, Steps: 1}},
	})
}

// TestPlainWraps: P3, the wrap-round of sums, products and a word's number.
func TestPlainWraps(t *testing.T) {
	const least, most = math.MinInt64, math.MaxInt64
	checkPlain(t, []plainCase{
		{"a sum", []api.Order{set(1, most), set(2, 1), calc(api.Add, 3, 1, 2)}, nil, 9,
			api.State{Regs: [8]int64{0, most, 1, least}, Next: 3, Steps: 3}},
		{"a difference", []api.Order{set(1, least), set(2, 1), calc(api.Sub, 3, 1, 2)}, nil, 9,
			api.State{Regs: [8]int64{0, least, 1, most}, Next: 3, Steps: 3}},
		{"a product", []api.Order{set(1, 1<<33+1), calc(api.Mul, 2, 1, 1)}, nil, 9,
			api.State{Regs: [8]int64{0, 1<<33 + 1, 1<<34 + 1}, Next: 2, Steps: 2}},
		{"the least by -1", []api.Order{set(1, least), set(2, -1), calc(api.Div, 3, 1, 2)}, nil, 9,
			api.State{Regs: [8]int64{0, least, -1, least}, Next: 3, Steps: 3}},
		{"a quotient goes towards 0", []api.Order{set(1, -9), set(2, 5), calc(api.Div, 3, 1, 2)}, nil, 9,
			api.State{Regs: [8]int64{0, -9, 5, -1}, Next: 3, Steps: 3}},
		{"a Load's number", []api.Order{set(1, least), load(2, 1, least)}, []int64{6}, 9,
			api.State{Regs: [8]int64{0, least, 6}, Memory: []int64{6}, Next: 2, Steps: 2}},
		{"a Store's number", []api.Order{set(1, least), store(1, 1, least+1)}, []int64{6, 7}, 9,
			api.State{Regs: [8]int64{0, least}, Memory: []int64{6, least}, Next: 2, Steps: 2}},
		{"a number that wraps to none", []api.Order{set(1, most), store(1, 1, 1)}, []int64{6}, 9,
			api.State{Regs: [8]int64{0, most}, Memory: []int64{6}, Next: 1, Stop: api.Trapped, Trap: api.Place, Steps: 1}},
	})
}

// TestPlainTraps: P3, what would be written is not, and the order isn't counted.
func TestPlainTraps(t *testing.T) {
	full := make([]int64, api.MaxMemory)
	checkPlain(t, []plainCase{
		{"Zero", []api.Order{set(1, 4), calc(api.Div, 1, 1, 0), set(1, 9)}, nil, 9,
			api.State{Regs: [8]int64{0, 4}, Next: 1, Stop: api.Trapped, Trap: api.Zero, Steps: 1}},
		{"0 by 0", []api.Order{calc(api.Div, 1, 0, 0)}, nil, 1,
			api.State{Stop: api.Trapped, Trap: api.Zero}},
		{"a Load behind the last word", []api.Order{set(1, 4), load(1, 0, 2)}, []int64{1, 2}, 9,
			api.State{Regs: [8]int64{0, 4}, Memory: []int64{1, 2}, Next: 1, Stop: api.Trapped, Trap: api.Place, Steps: 1}},
		{"a Load ahead of the first", []api.Order{set(1, -1), load(1, 1, 0)}, []int64{1, 2}, 9,
			api.State{Regs: [8]int64{0, -1}, Memory: []int64{1, 2}, Next: 1, Stop: api.Trapped, Trap: api.Place, Steps: 1}},
		{"a Store behind the last word", []api.Order{store(0, 0, api.MaxMemory-1), store(0, 0, api.MaxMemory)}, full, 9,
			api.State{Memory: full, Next: 1, Stop: api.Trapped, Trap: api.Place, Steps: 1}},
		{"no words at all", []api.Order{store(0, 0, 0)}, nil, 9,
			api.State{Stop: api.Trapped, Trap: api.Place}},
		{"spare room is no word", []api.Order{load(1, 0, 1)}, make([]int64, 1, 5), 9,
			api.State{Memory: []int64{0}, Stop: api.Trapped, Trap: api.Place}},
		{"the last of the steps", []api.Order{set(1, 4), calc(api.Div, 1, 1, 0)}, nil, 2,
			api.State{Regs: [8]int64{0, 4}, Next: 1, Stop: api.Trapped, Trap: api.Zero, Steps: 1}},
		{"one behind the last of the steps", []api.Order{set(1, 4), calc(api.Div, 1, 1, 0)}, nil, 1,
			api.State{Regs: [8]int64{0, 4}, Next: 1, Stop: api.OutOfSteps, Steps: 1}},
	})
}

// TestPlainUsesUpItsSteps: P3, what comes just when the steps are used up.
func TestPlainUsesUpItsSteps(t *testing.T) {
	checkPlain(t, []plainCase{
		{"another order", []api.Order{set(1, 1), set(2, 2)}, nil, 1,
			api.State{Regs: [8]int64{0, 1}, Next: 1, Stop: api.OutOfSteps, Steps: 1}},
		{"a Halt", []api.Order{set(1, 1), halt()}, nil, 1,
			api.State{Regs: [8]int64{0, 1}, Next: 1, Steps: 1}},
		{"the end", []api.Order{set(1, 1)}, nil, 1,
			api.State{Regs: [8]int64{0, 1}, Next: 1, Steps: 1}},
		{"a Jump", []api.Order{set(1, 1), jump(0, 0)}, nil, 1,
			api.State{Regs: [8]int64{0, 1}, Next: 1, Stop: api.OutOfSteps, Steps: 1}},
		{"behind a Jump, an order", []api.Order{jump(0, 2), halt(), set(1, 1)}, nil, 1,
			api.State{Next: 2, Stop: api.OutOfSteps, Steps: 1}},
		{"behind a Jump, a Halt", []api.Order{jump(0, 2), set(1, 1), halt()}, nil, 1,
			api.State{Next: 2, Steps: 1}},
		{"behind a Jump that stays, the end", []api.Order{set(1, 1), jump(1, 0)}, nil, 2,
			api.State{Regs: [8]int64{0, 1}, Next: 2, Steps: 2}},
		{"a Jump to itself", []api.Order{jump(0, 0)}, nil, api.MaxSteps,
			api.State{Stop: api.OutOfSteps, Steps: api.MaxSteps}},
	})
}

// TestPlainRefuses: P3's errors, and P1: the one named first, and nothing beside it.
func TestPlainRefuses(t *testing.T) {
	wrong := map[string][]api.Order{
		"nil":              nil,
		"none":             {},
		"too many":         make([]api.Order, api.MaxProgram+1),
		"no such Op":       {halt(), {Op: api.Jump + 1}},
		"an Op below":      {{Op: -1}},
		"D":                {{D: api.Registers}},
		"A below":          {{A: -1}},
		"B at the far end": {{B: math.MaxInt}},
		"a Jump too far":   {jump(0, 1)},
		"a Jump below":     {jump(0, -1)},
		"a Jump far off":   {halt(), jump(0, math.MinInt64)},
	}
	good := []api.Order{set(1, 1)}
	long := make([]int64, api.MaxMemory+1)
	badSteps := []int{0, -1, api.MaxSteps + 1, math.MinInt, math.MaxInt}
	expect := func(name string, program []api.Order, memory []int64, steps int, want api.Errno) {
		t.Helper()
		got, e := board.Plain(program, memory, steps)
		if e != want || got.Memory != nil || !same(got, api.State{}) {
			t.Errorf("P1, %s, %d words, %d steps: %+v, %d, want %d", name, len(memory), steps, got, e, want)
		}
	}
	for name, program := range wrong {
		expect(name, program, nil, 1, api.ErrProgram)
		expect(name, program, long, 1, api.ErrProgram)
		expect(name, program, long, 0, api.ErrProgram)
	}
	expect("good", good, long, 1, api.ErrMemory)
	for _, steps := range badSteps {
		expect("good", good, long, steps, api.ErrMemory)
		expect("good", good, long[1:], steps, api.ErrSteps)
	}
}

// TestPlainTakesTheLimits: P3, what is just not too much.
func TestPlainTakesTheLimits(t *testing.T) {
	program := make([]api.Order, api.MaxProgram)
	for i := range program {
		program[i] = calc(api.Add, 7, 7, 7)
	}
	for _, memory := range [][]int64{nil, {}, make([]int64, api.MaxMemory)} {
		for _, steps := range []int{1, api.MaxSteps} {
			got, e := board.Plain(program, memory, steps)
			if e != api.OK || got.Steps != min(steps, api.MaxProgram) || len(got.Memory) != len(memory) {
				t.Errorf("P3: %d words, %d steps: %+v, %d", len(memory), steps, got, e)
			}
		}
	}
}

// TestPlainKeepsToItsOwnRoom: P2.
func TestPlainKeepsToItsOwnRoom(t *testing.T) {
	program := []api.Order{set(1, 9), store(0, 1, 0), store(0, 1, 1), calc(api.Div, 1, 1, 0), set(7, 7), set(6, 6)}
	memory := []int64{1, 2, 3, 4}
	programBefore, memoryBefore := slices.Clone(program), slices.Clone(memory)
	got, e := board.Plain(program[:4], memory[:2], 9)
	want := api.State{Regs: [8]int64{0, 9}, Memory: []int64{9, 9}, Next: 3, Stop: api.Trapped, Trap: api.Zero, Steps: 3}
	if e != api.OK || !same(got, want) {
		t.Fatalf("P3: %+v, %d, want %+v", got, e, want)
	}
	unchanged := func(when string) {
		t.Helper()
		if !slices.Equal(program, programBefore) || !slices.Equal(memory, memoryBefore) {
			t.Errorf("P2, %s: what was handed in is now %v, %v", when, program, memory)
		}
	}
	unchanged("behind the call")
	again, _ := board.Plain(program[:4], memory[:2], 9)
	scribble(got.Memory)
	unchanged("when the answer is written into")
	if !same(again, want) {
		t.Errorf("P2: two answers share room: %+v", again)
	}
	third, _ := board.Plain(program[:4], memory[:2], 9)
	if !same(third, want) {
		t.Errorf("P2: something was kept from call to call: %+v", third)
	}
	scribble(memory)
	clear(program)
	if !same(third, want) {
		t.Errorf("P2: what was handed in was kept: %+v", third)
	}
}

// TestPlainSharesNoRoomWhenNothingIsWritten: P2, where a copy would be easy to spare.
func TestPlainSharesNoRoomWhenNothingIsWritten(t *testing.T) {
	for _, program := range [][]api.Order{{halt()}, {jump(0, 0)}, {calc(api.Div, 0, 0, 0)}} {
		for _, length := range []int{0, 1, 3} {
			memory := []int64{1, 2, 3, 4}
			got, _ := board.Plain(program, memory[:length], 5)
			if !slices.Equal(got.Memory, memory[:length]) {
				t.Errorf("P3: the memory is %v", got.Memory)
			}
			scribble(got.Memory)
			if !slices.Equal(memory, []int64{1, 2, 3, 4}) {
				t.Errorf("P2: the answer shares room with what was handed in: %v", memory)
			}
		}
	}
}

// scribble writes into a list and its spare room.
func scribble(list []int64) {
	list = list[:cap(list)]
	for i := range list {
		list[i] = -77
	}
}

// numbers: a fixed row of numbers that look mixed, so that each run of the
// tests asks the same.
type numbers uint64

func (n *numbers) below(limit int) int {
	*n = *n*6364136223846793005 + 1442695040888963407
	return int(uint64(*n) >> 33 % uint64(limit))
}

func (n *numbers) value() int64 {
	edges := []int64{0, 0, 1, 1, -1, 2, 3, 5, -7, 1 << 32, math.MaxInt64, math.MinInt64}
	return edges[n.below(len(edges))]
}

func (n *numbers) program() []api.Order {
	program := make([]api.Order, 1+n.below(api.MaxProgram))
	for i := range program {
		o := api.Order{Op: n.below(api.Jump + 1), D: n.below(8), A: n.below(8), B: n.below(8), K: n.value()}
		if o.Op == api.Halt && n.below(3) > 0 {
			o.Op = api.Set
		}
		if o.Op == api.Jump {
			o.K = int64(n.below(len(program)))
		}
		program[i] = o
	}
	return program
}

func (n *numbers) memory() []int64 {
	memory := make([]int64, n.below(api.MaxMemory+1))
	for i := range memory {
		memory[i] = n.value()
	}
	return memory
}

// wrap takes a whole number modulo 2 to the 64, as an int64.
func wrap(x *big.Int) int64 {
	rest := new(big.Int).Mod(x, new(big.Int).Lsh(big.NewInt(1), 64))
	return int64(rest.Uint64())
}

// slowStep does one order with numbers of any size, so that it shares no
// arithmetic with the program; it answers the number of the order's trap.
func slowStep(s *api.State, o api.Order) int {
	a, b := big.NewInt(s.Regs[o.A]), big.NewInt(s.Regs[o.B])
	place := slowPlace(s, o)
	if o.Op == api.Div && b.Sign() == 0 {
		return api.Zero
	}
	if (o.Op == api.Load || o.Op == api.Store) && (place < 0 || place >= int64(len(s.Memory))) {
		return api.Place
	}
	next := s.Next + 1
	switch o.Op {
	case api.Set:
		s.Regs[o.D] = o.K
	case api.Add:
		s.Regs[o.D] = wrap(a.Add(a, b))
	case api.Sub:
		s.Regs[o.D] = wrap(a.Sub(a, b))
	case api.Mul:
		s.Regs[o.D] = wrap(a.Mul(a, b))
	case api.Div:
		s.Regs[o.D] = wrap(a.Quo(a, b))
	case api.Load:
		s.Regs[o.D] = s.Memory[place]
	case api.Store:
		s.Memory[place] = s.Regs[o.B]
	case api.Jump:
		if a.Sign() == 0 {
			next = int(o.K)
		}
	}
	s.Next = next
	s.Steps++
	return 0
}

// slowPlace: the number of the word that a Load or a Store is about.
func slowPlace(s *api.State, o api.Order) int64 {
	return wrap(new(big.Int).Add(big.NewInt(s.Regs[o.A]), big.NewInt(o.K)))
}

// slow does what P3 says, by slow steps.
func slow(program []api.Order, memory []int64, steps int) api.State {
	s := api.State{Memory: slices.Clone(memory)}
	for s.Next < len(program) && program[s.Next].Op != api.Halt {
		if s.Steps == steps {
			s.Stop = api.OutOfSteps
			return s
		}
		if trap := slowStep(&s, program[s.Next]); trap != 0 {
			s.Stop, s.Trap = api.Trapped, trap
			return s
		}
	}
	return s
}

// TestPlainAgainstTheSlowWay: P3, over many programs; P2: twice the same.
func TestPlainAgainstTheSlowWay(t *testing.T) {
	n := numbers(1)
	stops := [3]int{}
	for range 20000 {
		program, memory, steps := n.program(), n.memory(), 1+n.below(api.MaxSteps)
		if n.below(2) == 0 {
			steps = 1 + n.below(12)
		}
		want := slow(program, memory, steps)
		for range 2 {
			got, e := board.Plain(program, memory, steps)
			if e != api.OK || !same(got, want) {
				t.Fatalf("P3: Plain(%v, %v, %d) = %+v, %d, want %+v", program, memory, steps, got, e, want)
			}
		}
		stops[want.Stop]++
	}
	for stop, count := range stops {
		if count < 500 {
			t.Errorf("only %d of the programs stop as %d: the test asks too little", count, stop)
		}
	}
}

// TestPlainAtAllNumbers: P1, an answer comes whatever is given, and nothing beside an error.
func TestPlainAtAllNumbers(t *testing.T) {
	ends := []int{math.MinInt, -1, 0, 1, 7, 8, 9, math.MaxInt}
	try := func(program []api.Order, memory []int64, steps int) {
		t.Helper()
		got, e := board.Plain(program, memory, steps)
		if e == api.OK && (got.Steps > steps || len(got.Memory) != len(memory)) ||
			e != api.OK && (got.Memory != nil || !same(got, api.State{})) {
			t.Errorf("P1: Plain(%v, %v, %d) = %+v, %d", program, memory, steps, got, e)
		}
	}
	for _, op := range ends {
		for _, r := range ends {
			for _, steps := range ends {
				for _, o := range []api.Order{
					{Op: op, D: r}, {Op: op, A: r}, {Op: op, B: r}, {Op: op, K: int64(r)},
				} {
					try([]api.Order{o}, nil, steps)
					try([]api.Order{o, {}}, []int64{1}, steps)
				}
			}
		}
	}
}
