// Package list: lists that can be asked whether something like that is there already.
package list

import "slices"

// List has things in the order in which they came; the zero List has none.
type List[T any] struct {
	things []T
}

// Add lays a thing behind the others.
func (l *List[T]) Add(thing T) {
	l.things = append(l.things, thing)
}

// Has tells whether one of the things is like what is looked for.
func (l *List[T]) Has(like func(T) bool) bool {
	return slices.ContainsFunc(l.things, like)
}

// Len tells how many things there are.
func (l *List[T]) Len() int {
	return len(l.things)
}

// At tells the n-th thing, from 0 on; there must be one.
func (l *List[T]) At(n int) T {
	return l.things[n]
}

// All tells all things, in a slice that is the caller's.
func (l *List[T]) All() []T {
	return slices.Clone(l.things)
}
