package orders

import "board/api"

// IsProgram tells whether the orders are a program.
func IsProgram(program []api.Order) bool {
	if len(program) < 1 || len(program) > api.MaxProgram {
		return false
	}
	for _, o := range program {
		if !isOrder(o, len(program)) {
			return false
		}
	}
	return true
}

// Ends tells whether a program ends at the order of this number: at a Halt,
// or behind the last order.
func Ends(program []api.Order, number int) bool {
	return number >= len(program) || program[number].Op == api.Halt
}

// isOrder asks for all three registers, whatever the Op: the document does
// not let off those that an Op has no use for.
func isOrder(o api.Order, length int) bool {
	if o.Op < api.Halt || o.Op > api.Jump {
		return false
	}
	if !isRegister(o.D) || !isRegister(o.A) || !isRegister(o.B) {
		return false
	}
	return o.Op != api.Jump || o.K >= 0 && o.K < int64(length)
}

func isRegister(number int) bool {
	return number >= 0 && number < api.Registers
}
