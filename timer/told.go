package timer

import (
	"iter"
	"slices"

	"tether/api"
)

// Due answers the timers whose deadlines have come, and takes them away.
func (q *Queue) Due(now int64) []int {
	if q == nil {
		return nil
	}
	var ids []int
	for _, t := range q.timers[:q.come(now)] {
		ids = append(ids, t.id)
	}
	q.timers = slices.Delete(q.timers, 0, len(ids))
	return ids
}

// Pop answers the first timer if its deadline has come, and takes it away.
func (q *Queue) Pop(now int64) (int, api.Errno) {
	if q == nil {
		return 0, api.ErrNil
	}
	if q.come(now) == 0 {
		return 0, api.ErrNone
	}
	first := q.timers[0]
	q.drop(first)
	return first.id, api.OK
}

// Next answers the first timer's deadline.
func (q *Queue) Next() (int64, api.Errno) {
	if q == nil {
		return 0, api.ErrNil
	}
	if len(q.timers) == 0 {
		return 0, api.ErrNone
	}
	return q.timers[0].at, api.OK
}

// Left answers how far a timer's deadline is from now.
func (q *Queue) Left(id int, now int64) (int64, api.Errno) {
	if q == nil {
		return 0, api.ErrNil
	}
	t, found := q.find(id)
	if !found {
		return 0, api.ErrNone
	}
	now = max(now, t.at-api.MaxTime) // further than that is told as MaxTime, and could be too far for a number
	return t.at - min(now, t.at), api.OK
}

// Len answers how many timers there are.
func (q *Queue) Len() int {
	if q == nil {
		return 0
	}
	return len(q.timers)
}

// All goes through the numbers and deadlines of the timers that are there now, in order.
func (q *Queue) All() iter.Seq2[int, int64] {
	var l []timer
	if q != nil {
		l = slices.Clone(q.timers)
	}
	return func(yield func(int, int64) bool) {
		for _, t := range l {
			if !yield(t.id, t.at) {
				return
			}
		}
	}
}

// Copy answers another queue with the same timers.
func (q *Queue) Copy() *Queue {
	if q == nil {
		return nil
	}
	return &Queue{timers: slices.Clone(q.timers)}
}
