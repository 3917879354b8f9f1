// Package bitq is queues of 256 levels. See ../../shared/doc/02-bitq.md.
package bitq

import (
	"iter"
	"slices"

	"boatswain/api"
	"boatswain/num"
)

// Queue is one. An id is held as its spot, which is one more than it: so 0 is
// nobody's, and arrays of zeros are those of an empty queue.
type Queue struct {
	first, last [256]int  // of each level, the spots of its ends
	mask        [4]uint64 // the levels at which there is one
	links       []link    // by spots
	count       int
}

// link is where a spot stands: between which others, and at which level.
type link struct {
	ahead, behind int
	level         byte
	there         bool
}

// New is an empty one for ids below n; nil: it may not be.
func New(n int) *Queue {
	if n < 1 || n > api.MaxThreads {
		return nil
	}
	return &Queue{links: make([]link, n+1)}
}

// Push puts an id behind those of a level.
func (q *Queue) Push(level byte, id int) api.Errno {
	if q == nil {
		return api.ErrNil
	}
	if !q.may(id) {
		return api.ErrRange
	}
	if q.links[id+1].there {
		return api.ErrKnown
	}
	q.tie(level, id+1)
	return api.OK
}

// Pop takes the first one of the highest level.
func (q *Queue) Pop() (level byte, id int, ok bool) {
	level, id, ok = q.Top()
	if ok {
		q.untie(id + 1)
	}
	return level, id, ok
}

// Remove takes an id out.
func (q *Queue) Remove(id int) api.Errno {
	if q == nil {
		return api.ErrNil
	}
	if !q.may(id) {
		return api.ErrRange
	}
	if !q.links[id+1].there {
		return api.ErrNone
	}
	q.untie(id + 1)
	return api.OK
}

// Top tells what Pop would.
func (q *Queue) Top() (level byte, id int, ok bool) {
	highest := num.Highest(q.Mask())
	if highest < 0 {
		return 0, 0, false
	}
	return byte(highest), q.first[highest] - 1, true
}

// Level is an id's; false: it is not there.
func (q *Queue) Level(id int) (byte, bool) {
	if q == nil || !q.may(id) {
		return 0, false
	}
	l := q.links[id+1]
	return l.level, l.there
}

// Mask is the levels at which there is one, as num.Highest counts them.
func (q *Queue) Mask() [4]uint64 {
	if q == nil {
		return [4]uint64{}
	}
	return q.mask
}

// List is the ids of a level, in order.
func (q *Queue) List(level byte) []int {
	if q == nil {
		return nil
	}
	var l []int
	for id := range q.ids(level) {
		l = append(l, id)
	}
	return l
}

// Len is how many there are.
func (q *Queue) Len() int {
	if q == nil {
		return 0
	}
	return q.count
}

// Fork is another queue with the same. The arrays go along by value; the links
// are the one thing that both would share.
func (q *Queue) Fork() *Queue {
	if q == nil {
		return nil
	}
	f := *q
	f.links = slices.Clone(q.links)
	return &f
}

// may tells whether an id is one that the queue can hold.
func (q *Queue) may(id int) bool {
	return id >= 0 && id < len(q.links)-1
}

// ids yields those of a level, the first one first.
func (q *Queue) ids(level byte) iter.Seq[int] {
	return func(yield func(int) bool) {
		for spot := q.first[level]; spot != 0; spot = q.links[spot].behind {
			if !yield(spot - 1) {
				return
			}
		}
	}
}

// tie puts a spot that stands nowhere behind the last one of a level.
func (q *Queue) tie(level byte, spot int) {
	last := q.last[level]
	q.links[spot] = link{ahead: last, level: level, there: true}
	if last == 0 {
		q.first[level] = spot
		q.mask[level/64] |= 1 << (level % 64)
	} else {
		q.links[last].behind = spot
	}
	q.last[level] = spot
	q.count++
}

// untie takes a spot out of its level, and joins those beside it.
func (q *Queue) untie(spot int) {
	l := q.links[spot]
	if l.ahead == 0 {
		q.first[l.level] = l.behind
	} else {
		q.links[l.ahead].behind = l.behind
	}
	if l.behind == 0 {
		q.last[l.level] = l.ahead
	} else {
		q.links[l.behind].ahead = l.ahead
	}
	if q.first[l.level] == 0 {
		q.mask[l.level/64] &^= 1 << (l.level % 64)
	}
	q.links[spot] = link{}
	q.count--
}
