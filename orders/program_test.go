package orders

import (
	"math"
	"testing"

	"board/api"
)

func TestIsProgramCountsTheOrders(t *testing.T) {
	for length, want := range map[int]bool{0: false, 1: true, api.MaxProgram: true, api.MaxProgram + 1: false} {
		if got := IsProgram(make([]api.Order, length)); got != want {
			t.Errorf("IsProgram of %d orders = %v", length, got)
		}
	}
	if IsProgram(nil) {
		t.Error("IsProgram(nil)")
	}
}

func TestIsProgramAsksForOpsThatAre(t *testing.T) {
	for op := api.Halt; op <= api.Jump; op++ {
		if !IsProgram([]api.Order{{Op: op}}) {
			t.Errorf("Op %d is refused", op)
		}
	}
	for _, op := range []int{-1, api.Jump + 1, math.MinInt, math.MaxInt} {
		if IsProgram([]api.Order{{Op: op}}) {
			t.Errorf("Op %d is let through", op)
		}
	}
}

func TestIsProgramAsksForRegistersThatAre(t *testing.T) {
	for op := api.Halt; op <= api.Jump; op++ {
		if !IsProgram([]api.Order{{Op: op, D: 7, A: 7, B: 7}}) {
			t.Errorf("Op %d: the last register is refused", op)
		}
		for _, r := range []int{-1, api.Registers, math.MinInt, math.MaxInt} {
			for _, o := range []api.Order{{Op: op, D: r}, {Op: op, A: r}, {Op: op, B: r}} {
				if IsProgram([]api.Order{o}) {
					t.Errorf("%+v is let through", o)
				}
			}
		}
	}
}

func TestIsProgramAsksForAnOrderToJumpTo(t *testing.T) {
	for k, want := range map[int64]bool{
		-1: false, 0: true, 2: true, 3: false, 1 << 32: false, math.MinInt64: false, math.MaxInt64: false,
	} {
		if got := IsProgram([]api.Order{{}, {}, {Op: api.Jump, K: k}}); got != want {
			t.Errorf("a Jump to %d of 3 orders: %v", k, got)
		}
		for op := api.Halt; op < api.Jump; op++ {
			if !IsProgram([]api.Order{{}, {}, {Op: op, K: k}}) {
				t.Errorf("Op %d with K %d is refused", op, k)
			}
		}
	}
}

func TestEnds(t *testing.T) {
	program := []api.Order{{Op: api.Set}, {}, {Op: api.Jump}}
	for number, want := range []bool{false, true, false, true} {
		if got := Ends(program, number); got != want {
			t.Errorf("Ends at %d = %v", number, got)
		}
	}
}
