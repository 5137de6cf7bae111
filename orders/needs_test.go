package orders

import (
	"testing"

	"board/api"
)

func TestNeedsOf(t *testing.T) {
	const d, a, b = 1 << 7, 1 << 2, 1 << 5
	for op, want := range [api.Jump + 1]Needs{
		api.Halt:  {NoUnit, 0, 0},
		api.Set:   {api.Adder, 0, d},
		api.Add:   {api.Adder, a | b, d},
		api.Sub:   {api.Adder, a | b, d},
		api.Mul:   {api.Multiplier, a | b, d},
		api.Div:   {api.Divider, a | b, d},
		api.Load:  {api.Memory, a, d},
		api.Store: {api.Memory, a | b, 0},
		api.Jump:  {NoUnit, a, 0},
	} {
		if got := NeedsOf(api.Order{Op: op, D: 7, A: 2, B: 5, K: 6}); got != want {
			t.Errorf("NeedsOf an order of Op %d = %+v, want %+v", op, got, want)
		}
	}
}

func TestNeedsOfOneRegisterReadTwice(t *testing.T) {
	if got := NeedsOf(api.Order{Op: api.Add}); got.Reads != 1 || got.Writes != 1 {
		t.Errorf("%+v", got)
	}
}

func TestEachRegisterHasABitOfItsOwn(t *testing.T) {
	for i := range api.Registers {
		if only(i).IsEmpty() {
			t.Errorf("the set of register %d is empty", i)
		}
		for j := range api.Registers {
			if got := only(i).Meets(only(j)); got != (i == j) {
				t.Errorf("the sets of registers %d and %d meet: %v", i, j, got)
			}
		}
	}
	var none RegisterSet
	if !none.IsEmpty() || none.Meets(^none) {
		t.Error("the empty set has something in it")
	}
}
