package plain

import (
	"reflect"
	"testing"

	"board/api"
)

func TestStepOfATrapLeavesTheState(t *testing.T) {
	for _, c := range []struct {
		o    api.Order
		trap int
	}{
		{api.Order{Op: api.Div, D: 1, A: 1}, api.Zero},
		{api.Order{Op: api.Load, D: 1, K: 2}, api.Place},
		{api.Order{Op: api.Store, B: 1, K: -1}, api.Place},
	} {
		s := api.State{Regs: [8]int64{0, 4}, Memory: []int64{5, 6}, Next: 3, Steps: 2}
		want := api.State{Regs: [8]int64{0, 4}, Memory: []int64{5, 6}, Next: 3, Steps: 2}
		if trap := step(&s, c.o); trap != c.trap || !reflect.DeepEqual(s, want) {
			t.Errorf("step of %+v: trap %d, state %+v", c.o, trap, s)
		}
	}
}

func TestStepGoesOn(t *testing.T) {
	for _, c := range []struct {
		o    api.Order
		want api.State
	}{
		{api.Order{Op: api.Set, D: 7, K: 9}, api.State{Regs: [8]int64{0, 4, 0, 0, 0, 0, 0, 9}, Memory: []int64{5, 6}, Next: 4, Steps: 3}},
		{api.Order{Op: api.Store, A: 1, B: 1, K: -3}, api.State{Regs: [8]int64{0, 4}, Memory: []int64{5, 4}, Next: 4, Steps: 3}},
		{api.Order{Op: api.Jump, K: 0}, api.State{Regs: [8]int64{0, 4}, Memory: []int64{5, 6}, Next: 0, Steps: 3}},
		{api.Order{Op: api.Jump, A: 1, K: 0}, api.State{Regs: [8]int64{0, 4}, Memory: []int64{5, 6}, Next: 4, Steps: 3}},
	} {
		s := api.State{Regs: [8]int64{0, 4}, Memory: []int64{5, 6}, Next: 3, Steps: 2}
		if trap := step(&s, c.o); trap != 0 || !reflect.DeepEqual(s, c.want) {
			t.Errorf("step of %+v: trap %d, state %+v, want %+v", c.o, trap, s, c.want)
		}
	}
}
