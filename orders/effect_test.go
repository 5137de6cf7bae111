package orders

import (
	"slices"
	"testing"

	"board/api"
)

func stateOf(next int, words []int64, regs ...int64) api.State {
	s := api.State{Next: next, Memory: words}
	copy(s.Regs[:], regs)
	return s
}

func alike(a, b api.State) bool {
	return a.Regs == b.Regs && a.Next == b.Next && slices.Equal(a.Memory, b.Memory)
}

func TestPutAndReverse(t *testing.T) {
	for _, c := range []struct {
		effect Effect
		want   api.State
	}{
		{Effect{}, stateOf(3, []int64{4, 5}, 6, 7)},
		{Effect{Register, 1, 9}, stateOf(3, []int64{4, 5}, 6, 9)},
		{Effect{Word, 1, 9}, stateOf(3, []int64{4, 9}, 6, 7)},
		{Effect{Next, 0, 9}, stateOf(9, []int64{4, 5}, 6, 7)},
	} {
		before := stateOf(3, []int64{4, 5}, 6, 7)
		s := stateOf(3, []int64{4, 5}, 6, 7)
		undo := c.effect.Reverse(&s)
		if !alike(s, before) {
			t.Errorf("%+v: Reverse changes the state: %+v", c.effect, s)
		}
		c.effect.Put(&s)
		if !alike(s, c.want) {
			t.Errorf("%+v: Put makes %+v, want %+v", c.effect, s, c.want)
		}
		undo.Put(&s)
		if !alike(s, before) {
			t.Errorf("%+v: undone it is %+v", c.effect, s)
		}
	}
}

func TestTake(t *testing.T) {
	s := stateOf(3, []int64{4, 5}, 6, 7, 8)
	o := api.Order{Op: api.Add, D: 0, A: 1, B: 2, K: 9}
	in := Take(&s, o, 5)
	if in.Order != o || in.Number != 5 || in.A != 7 || in.B != 8 || !slices.Equal(in.Words, s.Memory) {
		t.Errorf("Take = %+v", in)
	}
	s.Regs[1] = 99
	if in.A != 7 {
		t.Error("what was taken changes with the state")
	}
}
