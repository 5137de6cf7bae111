package past

import (
	"slices"
	"testing"
)

func rowOf(texts ...string) *Row[string] {
	r := &Row[string]{}
	for _, text := range texts {
		r.Add(text)
	}
	return r
}

func TestRowKeepsTheTurn(t *testing.T) {
	r := rowOf("a", "b", "c")
	if r.Len() != 3 {
		t.Errorf("Len = %d", r.Len())
	}
	for i, want := range []string{"a", "b", "c"} {
		if got := *r.At(i); got != want {
			t.Errorf("At(%d) = %q, want %q", i, got, want)
		}
	}
}

func TestRowOfNothing(t *testing.T) {
	var r Row[int]
	if r.Len() != 0 {
		t.Errorf("Len = %d", r.Len())
	}
	for i := range r.Ahead(r.Len()) {
		t.Errorf("Ahead has %d", i)
	}
	for i := range r.Back() {
		t.Errorf("Back has %d", i)
	}
}

func TestAtAmends(t *testing.T) {
	r := rowOf("a", "b")
	*r.At(1) = "z"
	if got := *r.At(1); got != "z" {
		t.Errorf("At(1) = %q", got)
	}
	for _, text := range r.Ahead(2) {
		*text += "!"
	}
	if *r.At(0) != "a!" || *r.At(1) != "z!" {
		t.Errorf("%q, %q", *r.At(0), *r.At(1))
	}
}

func TestAheadEndsAtThePlace(t *testing.T) {
	r := rowOf("a", "b", "c")
	for place := range 4 {
		var got []string
		for i, text := range r.Ahead(place) {
			if i != len(got) {
				t.Errorf("Ahead(%d): place %d, want %d", place, i, len(got))
			}
			got = append(got, *text)
		}
		if !slices.Equal(got, []string{"a", "b", "c"}[:place]) {
			t.Errorf("Ahead(%d): %v", place, got)
		}
	}
}

func TestBackBeginsWithTheLatest(t *testing.T) {
	r := rowOf("a", "b", "c")
	var got []string
	for i, text := range r.Back() {
		if i != 2-len(got) {
			t.Errorf("place %d, want %d", i, 2-len(got))
		}
		got = append(got, *text)
	}
	if !slices.Equal(got, []string{"c", "b", "a"}) {
		t.Errorf("Back: %v", got)
	}
}

func TestGoingThroughMayEndEarly(t *testing.T) {
	r := rowOf("a", "b", "c")
	for i := range r.Ahead(3) {
		if i == 1 {
			break
		}
	}
	for i := range r.Back() {
		if i == 1 {
			break
		}
	}
}
