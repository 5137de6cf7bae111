// Package past remembers things in the turn in which they came.
package past

import "iter"

// Row: things of one type, the one that came first at the front. An empty one
// is ready for use.
type Row[T any] struct {
	things []T
}

func (r *Row[T]) Add(thing T) {
	r.things = append(r.things, thing)
}

func (r *Row[T]) Len() int {
	return len(r.things)
}

// At answers the thing itself, not a copy: what is remembered may be amended,
// until the next one is added.
func (r *Row[T]) At(place int) *T {
	return &r.things[place]
}

// Ahead goes through the things that came ahead of a place, the first at
// first. Ahead of Len they are all.
func (r *Row[T]) Ahead(place int) iter.Seq2[int, *T] {
	return func(yield func(int, *T) bool) {
		for i := range place {
			if !yield(i, r.At(i)) {
				return
			}
		}
	}
}

// Back goes through all things, the latest at first.
func (r *Row[T]) Back() iter.Seq2[int, *T] {
	return func(yield func(int, *T) bool) {
		for i := r.Len() - 1; i >= 0; i-- {
			if !yield(i, r.At(i)) {
				return
			}
		}
	}
}
