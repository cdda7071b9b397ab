// Package row keeps what waits in a row: packets that wait for a link, bytes that wait on a wire.
package row

import "slices"

// Row is things one behind the other.
type Row[T any] struct {
	items []T
}

// Len answers how many there are.
func (r *Row[T]) Len() int {
	return len(r.items)
}

// All answers them all, in order.
func (r *Row[T]) All() []T {
	return slices.Clone(r.items)
}

// Add puts some behind the others.
func (r *Row[T]) Add(l ...T) {
	r.items = append(r.items, l...)
}

// Ahead puts some ahead of the others.
func (r *Row[T]) Ahead(l ...T) {
	r.items = slices.Concat(l, r.items)
}

// Find answers the place of the first one of a kind, and true; false, if there is none.
func (r *Row[T]) Find(is func(T) bool) (int, bool) {
	at := slices.IndexFunc(r.items, is)
	return max(at, 0), at >= 0
}

// Change makes the one at a place another one; nothing, if there is none.
func (r *Row[T]) Change(at int64, into func(T) T) {
	if at >= 0 && at < int64(len(r.items)) {
		r.items[at] = into(r.items[at])
	}
}

// Take answers the first n, or all, if there are fewer, which wait no more.
func (r *Row[T]) Take(n int64) []T {
	some := min(max(n, 0), int64(len(r.items)))
	out := slices.Clone(r.items[:some])
	r.items = r.items[some:]
	if len(r.items) == 0 {
		r.items = nil // what has gone is not kept
	}
	return out
}

// Cut answers the one at a place that there is, which waits no more.
func (r *Row[T]) Cut(at int) T {
	out := r.items[at]
	r.items = slices.Delete(r.items, at, at+1)
	return out
}

// Clear lets none wait.
func (r *Row[T]) Clear() {
	r.items = nil
}
