package orders

import "board/api"

// NoUnit: the kind of the orders that need no unit.
const NoUnit = -1

// RegisterSet has a bit for each register.
type RegisterSet uint8

// Needs: what an order asks of the processor.
type Needs struct {
	Kind   int
	Reads  RegisterSet
	Writes RegisterSet
}

// NeedsOf answers what an order of a program needs.
func NeedsOf(o api.Order) Needs {
	r := table()[o.Op]
	n := Needs{Kind: r.kind}
	if r.readsA {
		n.Reads |= only(o.A)
	}
	if r.readsB {
		n.Reads |= only(o.B)
	}
	if r.writesD {
		n.Writes = only(o.D)
	}
	return n
}

// Meets tells whether a register is in both sets.
func (s RegisterSet) Meets(other RegisterSet) bool {
	return s&other != 0
}

func (s RegisterSet) IsEmpty() bool {
	return s == 0
}

func only(register int) RegisterSet {
	return 1 << register
}
