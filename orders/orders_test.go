package orders

import (
	"math"
	"testing"

	"board/api"
)

func TestTableHasARowForEachOp(t *testing.T) {
	for op, r := range table() {
		if r.do == nil {
			t.Errorf("Op %d has no function", op)
		}
	}
}

func TestWorkTellsTheEffect(t *testing.T) {
	const least, most = math.MinInt64, math.MaxInt64
	words := []int64{10, 11, 12}
	for _, c := range []struct {
		op   int
		a, b int64
		k    int64
		want Effect
	}{
		{api.Halt, 1, 2, 3, Effect{}},
		{api.Set, 1, 2, least, Effect{Register, 6, least}},
		{api.Add, 1, 2, 9, Effect{Register, 6, 3}},
		{api.Add, most, 1, 9, Effect{Register, 6, least}},
		{api.Sub, 1, 2, 9, Effect{Register, 6, -1}},
		{api.Sub, least, 1, 9, Effect{Register, 6, most}},
		{api.Mul, -3, 2, 9, Effect{Register, 6, -6}},
		{api.Mul, most, 2, 9, Effect{Register, 6, -2}},
		{api.Mul, least, -1, 9, Effect{Register, 6, least}},
		{api.Div, 7, 2, 9, Effect{Register, 6, 3}},
		{api.Div, -7, 2, 9, Effect{Register, 6, -3}},
		{api.Div, 7, -2, 9, Effect{Register, 6, -3}},
		{api.Div, 0, 5, 9, Effect{Register, 6, 0}},
		{api.Div, least, -1, 9, Effect{Register, 6, least}},
		{api.Load, 0, 2, 0, Effect{Register, 6, 10}},
		{api.Load, 3, 2, -1, Effect{Register, 6, 12}},
		{api.Load, least, 2, least, Effect{Register, 6, 10}},
		{api.Store, 2, 5, 0, Effect{Word, 2, 5}},
		{api.Store, least, 5, least + 1, Effect{Word, 1, 5}},
		{api.Jump, 0, 2, 9, Effect{Next, 0, 9}},
		{api.Jump, 1, 0, 9, Effect{Next, 0, 5}},
		{api.Jump, least, 0, 9, Effect{Next, 0, 5}},
	} {
		in := Inputs{Order: api.Order{Op: c.op, D: 6, K: c.k}, Number: 4, A: c.a, B: c.b, Words: words}
		if got, trap := Work(in); got != c.want || trap != 0 {
			t.Errorf("Work(%+v) = %+v, %d, want %+v, 0", in, got, trap, c.want)
		}
	}
	if words[0] != 10 || words[1] != 11 || words[2] != 12 {
		t.Errorf("the work wrote into the words: %v", words)
	}
}

func TestWorkCatchesTraps(t *testing.T) {
	two := []int64{1, 2}
	for _, c := range []struct {
		op    int
		a, b  int64
		k     int64
		words []int64
		trap  int
	}{
		{api.Div, 0, 0, 1, two, api.Zero},
		{api.Div, math.MinInt64, 0, 1, nil, api.Zero},
		{api.Load, 0, 0, 2, two, api.Place},
		{api.Load, 0, 0, -1, two, api.Place},
		{api.Load, 0, 0, 0, nil, api.Place},
		{api.Load, math.MaxInt64, 0, 1, two, api.Place},
		{api.Load, 1 << 32, 0, 0, two, api.Place},
		{api.Store, 2, 0, 0, two, api.Place},
		{api.Store, -1, 0, 0, two, api.Place},
		{api.Store, 0, 0, 0, nil, api.Place},
		{api.Store, math.MinInt64, 0, -1, two, api.Place},
		{api.Store, math.MaxInt64, 0, math.MaxInt64, two, api.Place},
	} {
		in := Inputs{Order: api.Order{Op: c.op, D: 6, K: c.k}, A: c.a, B: c.b, Words: c.words}
		if got, trap := Work(in); got != (Effect{}) || trap != c.trap {
			t.Errorf("Work(%+v) = %+v, %d, want no effect, %d", in, got, trap, c.trap)
		}
	}
}

func TestWorkTakesNoOtherPanicForATrap(t *testing.T) {
	defer func() {
		if recover() == nil {
			t.Error("a fault of the program's own was hidden")
		}
	}()
	Work(Inputs{Order: api.Order{Op: api.Jump + 1}})
}
