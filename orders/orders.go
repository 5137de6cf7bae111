// Package orders: what each order does, and what a program is.
package orders

import "board/api"

// Target: the sort of thing that an order changes.
type Target int

const (
	Nothing Target = iota
	Register
	Word
	Next
)

// Effect: what an order changes. Place is the number of the register or of
// the word; it has no meaning for the other targets. An order's work and its
// write are kept apart by it, so that a trap leaves all as it was.
type Effect struct {
	Target Target
	Place  int
	Value  int64
}

// Put changes the state.
func (e Effect) Put(s *api.State) {
	switch e.Target {
	case Register:
		s.Regs[e.Place] = e.Value
	case Word:
		s.Memory[e.Place] = e.Value
	case Next:
		s.Next = int(e.Value)
	}
}

// Reverse answers the effect that undoes this one, if it is asked for ahead
// of putting this one into the state.
func (e Effect) Reverse(s *api.State) Effect {
	switch e.Target {
	case Register:
		e.Value = s.Regs[e.Place]
	case Word:
		e.Value = s.Memory[e.Place]
	case Next:
		e.Value = int64(s.Next)
	}
	return e
}

// Inputs: an order, its own number, the values of its registers A and B, and
// the memory's words, which the order's work only looks at.
type Inputs struct {
	Order  api.Order
	Number int
	A, B   int64
	Words  []int64
}

// Take takes an order's inputs out of the state as it is now. The order's
// number is told apart from the state's Next, which may be further on.
func Take(s *api.State, o api.Order, number int) Inputs {
	return Inputs{Order: o, Number: number, A: s.Regs[o.A], B: s.Regs[o.B], Words: s.Memory}
}

// row: of an Op: what it does, which kind of unit it needs, and which of its
// registers it reads and writes.
type row struct {
	do                      func(Inputs) Effect
	kind                    int
	readsA, readsB, writesD bool
}

// table has a row for each Op. It is made by a function, since no table of
// functions stands at package level.
func table() [api.Jump + 1]row {
	return [api.Jump + 1]row{
		api.Halt:  {do: Inputs.halt, kind: NoUnit},
		api.Set:   {do: Inputs.set, kind: api.Adder, writesD: true},
		api.Add:   {do: Inputs.add, kind: api.Adder, readsA: true, readsB: true, writesD: true},
		api.Sub:   {do: Inputs.sub, kind: api.Adder, readsA: true, readsB: true, writesD: true},
		api.Mul:   {do: Inputs.mul, kind: api.Multiplier, readsA: true, readsB: true, writesD: true},
		api.Div:   {do: Inputs.div, kind: api.Divider, readsA: true, readsB: true, writesD: true},
		api.Load:  {do: Inputs.load, kind: api.Memory, readsA: true, writesD: true},
		api.Store: {do: Inputs.store, kind: api.Memory, readsA: true, readsB: true},
		api.Jump:  {do: Inputs.jump, kind: NoUnit, readsA: true},
	}
}

// trap: what an order that traps panics with. It has a type of its own, so
// that no other panic is taken for a trap.
type trap int

// Work answers what the order changes, or the number of its trap (0: none)
// and no effect. The order's Op is one of a program's.
func Work(in Inputs) (effect Effect, trapped int) {
	defer func() {
		switch raised := recover().(type) {
		case nil:
		case trap:
			trapped = int(raised)
		default:
			panic(raised)
		}
	}()
	return table()[in.Order.Op].do(in), 0
}

func (in Inputs) halt() Effect {
	return Effect{}
}

func (in Inputs) set() Effect {
	return in.intoD(in.Order.K)
}

func (in Inputs) add() Effect {
	return in.intoD(in.A + in.B)
}

func (in Inputs) sub() Effect {
	return in.intoD(in.A - in.B)
}

func (in Inputs) mul() Effect {
	return in.intoD(in.A * in.B)
}

func (in Inputs) div() Effect {
	if in.B == 0 {
		panic(trap(api.Zero))
	}
	return in.intoD(in.A / in.B)
}

func (in Inputs) load() Effect {
	return in.intoD(in.Words[in.place()])
}

func (in Inputs) store() Effect {
	return Effect{Target: Word, Place: in.place(), Value: in.B}
}

func (in Inputs) jump() Effect {
	if in.A == 0 {
		return Effect{Target: Next, Value: in.Order.K}
	}
	return Effect{Target: Next, Value: int64(in.Number) + 1}
}

func (in Inputs) intoD(value int64) Effect {
	return Effect{Target: Register, Place: in.Order.D, Value: value}
}

// place answers the number of the word that a Load or a Store is about.
func (in Inputs) place() int {
	number := in.A + in.Order.K
	if number < 0 || number >= int64(len(in.Words)) {
		panic(trap(api.Place))
	}
	return int(number)
}
