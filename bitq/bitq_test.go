package bitq_test

import (
	"math"
	"slices"
	"testing"

	"boatswain/api"
	"boatswain/bitq"
	"boatswain/num"
)

// entry is what stands in a queue: an id at a level.
type entry struct {
	level byte
	id    int
}

// plain is a queue as the document tells it: entries as they came, gone through at each call.
type plain struct {
	n int
	l []entry
}

func (p *plain) find(id int) int {
	return slices.IndexFunc(p.l, func(x entry) bool { return x.id == id })
}

func (p *plain) push(level byte, id int) api.Errno {
	switch {
	case id < 0 || id >= p.n:
		return api.ErrRange
	case p.find(id) >= 0:
		return api.ErrKnown
	}
	p.l = append(p.l, entry{level, id})
	return api.OK
}

func (p *plain) remove(id int) api.Errno {
	at := p.find(id)
	switch {
	case id < 0 || id >= p.n:
		return api.ErrRange
	case at < 0:
		return api.ErrNone
	}
	p.l = slices.Delete(p.l, at, at+1)
	return api.OK
}

func (p *plain) top() (byte, int, bool) {
	best := -1
	for i, x := range p.l {
		if best < 0 || x.level > p.l[best].level {
			best = i
		}
	}
	if best < 0 {
		return 0, 0, false
	}
	return p.l[best].level, p.l[best].id, true
}

func (p *plain) list(level byte) []int {
	var l []int
	for _, x := range p.l {
		if x.level == level {
			l = append(l, x.id)
		}
	}
	return l
}

func (p *plain) fork() *plain { return &plain{p.n, slices.Clone(p.l)} }

// same holds all that a queue tells against what it should tell.
func same(t *testing.T, q *bitq.Queue, p *plain) {
	t.Helper()
	if q.Len() != len(p.l) {
		t.Fatalf("Len is %d, want %d", q.Len(), len(p.l))
	}
	var mask [4]uint64
	for level := range 256 {
		want := p.list(byte(level))
		if len(want) > 0 {
			mask[level/64] |= 1 << (level % 64)
		}
		if got := q.List(byte(level)); !slices.Equal(got, want) {
			t.Fatalf("List(%d) is %v, want %v", level, got, want)
		}
	}
	if q.Mask() != mask {
		t.Fatalf("Mask is %x, want %x", q.Mask(), mask)
	}
	level, id, ok := q.Top()
	if l, i, o := p.top(); level != l || id != i || ok != o {
		t.Fatalf("Top is %d %d %v, want %d %d %v", level, id, ok, l, i, o)
	}
	if ok && num.Highest(q.Mask()) != int(level) || !ok && num.Highest(q.Mask()) != -1 { // P2.4
		t.Fatalf("Highest of Mask is %d, Top's level %d", num.Highest(q.Mask()), level)
	}
	for id := -1; id <= p.n; id++ {
		var want entry
		at := p.find(id)
		if at >= 0 {
			want = p.l[at]
		}
		if level, ok := q.Level(id); level != want.level || ok != (at >= 0) {
			t.Fatalf("Level(%d) is %d %v, want %d %v", id, level, ok, want.level, at >= 0)
		}
	}
}

// filled is a queue with these entries, pushed one behind the other.
func filled(t *testing.T, n int, l ...entry) (*bitq.Queue, *plain) {
	t.Helper()
	q, p := bitq.New(n), &plain{n: n}
	for _, x := range l {
		if e := q.Push(x.level, x.id); e != api.OK || p.push(x.level, x.id) != api.OK {
			t.Fatalf("Push(%d, %d): %d", x.level, x.id, e)
		}
	}
	return q, p
}

// drained is all that is Popped, one behind the other.
func drained(q *bitq.Queue) []entry {
	var l []entry
	for level, id, ok := q.Pop(); ok; level, id, ok = q.Pop() {
		l = append(l, entry{level, id})
	}
	return l
}

// P2.1: sizes.
func TestNew(t *testing.T) {
	for _, n := range []int{math.MinInt, -1, 0, api.MaxThreads + 1, math.MaxInt} {
		if bitq.New(n) != nil {
			t.Error(n, "may not be")
		}
	}
	for _, n := range []int{1, 2, api.MaxThreads - 1, api.MaxThreads} {
		q := bitq.New(n)
		if q == nil {
			t.Fatal(n, "may be")
		}
		same(t, q, &plain{n: n})
		if e := q.Push(7, n-1); e != api.OK {
			t.Error("the last id:", e)
		}
		if e := q.Push(7, n); e != api.ErrRange {
			t.Error("one more:", e)
		}
	}
}

// P1: a nil queue.
func TestNil(t *testing.T) {
	var q *bitq.Queue
	for _, id := range []int{math.MinInt, -1, 0, 1, math.MaxInt} {
		if q.Push(3, id) != api.ErrNil || q.Remove(id) != api.ErrNil {
			t.Error("errors")
		}
		if level, ok := q.Level(id); level != 0 || ok {
			t.Error("Level")
		}
	}
	if level, id, ok := q.Pop(); level != 0 || id != 0 || ok {
		t.Error("Pop")
	}
	if level, id, ok := q.Top(); level != 0 || id != 0 || ok {
		t.Error("Top")
	}
	if q.Mask() != [4]uint64{} || len(q.List(0)) != 0 || len(q.List(255)) != 0 || q.Len() != 0 || q.Fork() != nil {
		t.Error("zero values")
	}
}

// P2.1, P2: an empty queue has nothing, and says so with zero values.
func TestEmpty(t *testing.T) {
	q := bitq.New(3)
	if level, id, ok := q.Pop(); level != 0 || id != 0 || ok {
		t.Error("Pop", level, id, ok)
	}
	if level, id, ok := q.Top(); level != 0 || id != 0 || ok {
		t.Error("Top", level, id, ok)
	}
	if e := q.Remove(0); e != api.ErrNone {
		t.Error("Remove", e)
	}
	same(t, q, &plain{n: 3})
}

// P2.1, P2: what is refused has its error, the first one that is named, and changes nothing.
func TestRefused(t *testing.T) {
	q, p := filled(t, 4, entry{9, 2}, entry{9, 0}, entry{0, 3})
	for _, id := range []int{math.MinInt, -4, -1, 4, 5, api.MaxThreads, math.MaxInt} {
		for _, level := range []byte{0, 9, 255} {
			if e := q.Push(level, id); e != api.ErrRange {
				t.Error("Push", id, e)
			}
		}
		if e := q.Remove(id); e != api.ErrRange {
			t.Error("Remove", id, e)
		}
		if level, ok := q.Level(id); level != 0 || ok {
			t.Error("Level", id, level, ok)
		}
		same(t, q, p)
	}
	for _, id := range []int{0, 2, 3} {
		for _, level := range []byte{0, 9, 255} {
			if e := q.Push(level, id); e != api.ErrKnown {
				t.Error("Push", id, e)
			}
		}
		same(t, q, p)
	}
	if e := q.Remove(1); e != api.ErrNone {
		t.Error("Remove", e)
	}
	same(t, q, p)
}

// P2.1: the document's example.
func TestExample(t *testing.T) {
	q, _ := filled(t, 4, entry{5, 1}, entry{9, 2}, entry{5, 3})
	if got := drained(q); !slices.Equal(got, []entry{{9, 2}, {5, 1}, {5, 3}}) {
		t.Error(got)
	}
	same(t, q, &plain{n: 4})
}

// P2.1, P2.2: the first one, the last one, one in the midst, and the only one of a level are taken out.
func TestRemove(t *testing.T) {
	for _, order := range [][]int{{0, 1, 2, 3}, {3, 2, 1, 0}, {1, 2, 0, 3}, {2, 0, 3, 1}} {
		q, p := filled(t, 5, entry{64, 0}, entry{64, 1}, entry{64, 2}, entry{64, 3}, entry{63, 4})
		for _, id := range order {
			if e := q.Remove(id); e != api.OK || p.remove(id) != api.OK {
				t.Fatal(id, e)
			}
			same(t, q, p)
			if e := q.Remove(id); e != api.ErrNone {
				t.Error("once more:", e)
			}
		}
		if e := q.Push(64, 2); e != api.OK || p.push(64, 2) != api.OK {
			t.Error("again:", e)
		}
		same(t, q, p)
	}
}

// P2.1: who is taken out and pushed again is the last one of its level, and may have another level.
func TestPushAgain(t *testing.T) {
	q, _ := filled(t, 3, entry{8, 0}, entry{8, 1}, entry{8, 2})
	if level, id, ok := q.Pop(); level != 8 || id != 0 || !ok || q.Push(8, 0) != api.OK {
		t.Error(level, id, ok)
	}
	if q.Remove(2) != api.OK || q.Push(200, 2) != api.OK {
		t.Error("another level")
	}
	if got := drained(q); !slices.Equal(got, []entry{{200, 2}, {8, 1}, {8, 0}}) {
		t.Error(got)
	}
}

// P2.1, P2.2, P2.4: each level, the lowest and the highest too, has a bit of its own.
func TestLevels(t *testing.T) {
	for level := range 256 {
		q, p := filled(t, 2, entry{byte(level), 1})
		same(t, q, p)
		var mask [4]uint64
		mask[level/64] = 1 << (level % 64)
		if q.Mask() != mask {
			t.Errorf("Mask of %d is %x", level, q.Mask())
		}
		if l, id, ok := q.Pop(); int(l) != level || id != 1 || !ok {
			t.Error(level, l, id, ok)
		}
		same(t, q, &plain{n: 2})
	}
}

// P2.2: Top changes nothing.
func TestTop(t *testing.T) {
	q, p := filled(t, 4, entry{0, 3}, entry{255, 1}, entry{255, 0})
	for range 3 {
		if level, id, ok := q.Top(); level != 255 || id != 1 || !ok {
			t.Error(level, id, ok)
		}
		same(t, q, p)
	}
}

// P2.3: of a full queue, levels fall; of one level ids stand as they were Pushed.
func TestPopFalls(t *testing.T) {
	var l []entry
	for i := range api.MaxThreads {
		id := i * 389 % api.MaxThreads // all of them, since 389 is odd
		l = append(l, entry{byte(i * i / 7), id})
	}
	q, _ := filled(t, api.MaxThreads, l...)
	for id := range api.MaxThreads {
		if e := q.Push(1, id); e != api.ErrKnown {
			t.Fatal(id, e)
		}
	}
	want := slices.Clone(l)
	slices.SortStableFunc(want, func(a, b entry) int { return int(b.level) - int(a.level) })
	if got := drained(q); !slices.Equal(got, want) {
		t.Error(got)
	}
	if q.Len() != 0 {
		t.Error(q.Len())
	}
}

// P3: a list that was answered is the caller's.
func TestListIsTheCallers(t *testing.T) {
	q, p := filled(t, 4, entry{5, 2}, entry{5, 0}, entry{5, 1})
	a, b := q.List(5), q.List(5)
	for i := range a {
		a[i] = 99
	}
	a = append(a, 98)
	if !slices.Equal(b, []int{2, 0, 1}) || len(a) != 4 {
		t.Error(b)
	}
	same(t, q, p)
	q.Remove(0)
	q.Push(5, 3)
	if !slices.Equal(b, []int{2, 0, 1}) {
		t.Error(b)
	}
	mask := q.Mask()
	mask[0] = 0
	if q.Mask() != [4]uint64{1 << 5} {
		t.Error(q.Mask())
	}
}

// P2.2, P4: a queue and its Fork are the same at first, and each its own from then on.
func TestFork(t *testing.T) {
	q, p := filled(t, 6, entry{5, 2}, entry{5, 0}, entry{255, 1}, entry{0, 3})
	f, fp := q.Fork(), p.fork()
	same(t, f, fp)
	q.Push(5, 4)
	q.Remove(2)
	q.Pop()
	p.push(5, 4)
	p.remove(2)
	p.remove(1)
	same(t, q, p)
	same(t, f, fp)
	f.Push(255, 5)
	f.Push(64, 4)
	f.Remove(0)
	f.Remove(3)
	fp.push(255, 5)
	fp.push(64, 4)
	fp.remove(0)
	fp.remove(3)
	same(t, q, p)
	same(t, f, fp)
	drained(f)
	same(t, q, p)
	same(t, f, &plain{n: 6})
	drained(q.Fork())
	same(t, q, p)
	if e := f.Push(1, 6); e != api.ErrRange {
		t.Error("a Fork takes as many as its queue:", e)
	}
}

// P2.1 to P2.4, P4, P6: long runs of all calls, wrong ones too, against the plain queue; Forks stay as they were.
func TestLongRuns(t *testing.T) {
	for _, n := range []int{1, 2, 3, 17} {
		q, p := bitq.New(n), &plain{n: n}
		f, fp := q.Fork(), p.fork()
		draw := uint64(n)
		next := func(below int) int {
			draw = draw*6364136223846793005 + 1442695040888963407
			return int(draw >> 33 % uint64(below))
		}
		levels := []byte{0, 1, 63, 64, 127, 128, 191, 192, 254, 255}
		for range 3000 {
			id, level := next(n+2)-1, levels[next(len(levels))]
			switch next(8) {
			case 0, 1, 2, 3:
				if got, want := q.Push(level, id), p.push(level, id); got != want {
					t.Fatalf("Push(%d, %d): %d, want %d", level, id, got, want)
				}
			case 4:
				if got, want := q.Remove(id), p.remove(id); got != want {
					t.Fatalf("Remove(%d): %d, want %d", id, got, want)
				}
			case 5, 6:
				level, id, ok := q.Pop()
				if l, i, o := p.top(); level != l || id != i || ok != o {
					t.Fatalf("Pop is %d %d %v, want %d %d %v", level, id, ok, l, i, o)
				}
				if ok {
					p.remove(id)
				}
			case 7:
				same(t, f, fp)
				f, fp = q.Fork(), p.fork()
				if next(2) == 0 { // go on with the Fork
					q, p, f, fp = f, fp, q, p
				}
			}
			same(t, q, p)
		}
	}
}
