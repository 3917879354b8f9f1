package pheap_test

import (
	"cmp"
	"math"
	"slices"
	"testing"

	"boatswain/api"
	"boatswain/pheap"
)

// item is what stands in a heap: an id with its deadline and number.
type item struct {
	id            int
	deadline, seq uint64
}

// plain is a heap as the document tells it: items in any order, sorted where they are told.
type plain struct {
	n int
	l []item
}

func (p *plain) find(id int) int {
	return slices.IndexFunc(p.l, func(x item) bool { return x.id == id })
}

func (p *plain) insert(x item) api.Errno {
	switch {
	case x.id < 0 || x.id >= p.n:
		return api.ErrRange
	case p.find(x.id) >= 0:
		return api.ErrKnown
	}
	p.l = append(p.l, x)
	return api.OK
}

func (p *plain) change(x item) api.Errno {
	at := p.find(x.id)
	switch {
	case x.id < 0 || x.id >= p.n:
		return api.ErrRange
	case at < 0:
		return api.ErrNone
	}
	p.l[at] = x
	return api.OK
}

func (p *plain) remove(id int) api.Errno {
	at := p.find(id)
	switch {
	case id < 0 || id >= p.n:
		return api.ErrRange
	case at < 0:
		return api.ErrNone
	}
	p.l = slices.Delete(p.l, at, at+1)
	return api.OK
}

// compare is the order of the chapter's section 'Words'.
func compare(a, b item) int {
	return cmp.Or(cmp.Compare(a.deadline, b.deadline), cmp.Compare(a.seq, b.seq), cmp.Compare(a.id, b.id))
}

func (p *plain) sorted() []int {
	l := slices.Clone(p.l)
	slices.SortFunc(l, compare)
	var ids []int
	for _, x := range l {
		ids = append(ids, x.id)
	}
	return ids
}

func (p *plain) min() (int, bool) {
	if len(p.l) == 0 {
		return 0, false
	}
	return slices.MinFunc(p.l, compare).id, true
}

func (p *plain) fork() *plain { return &plain{p.n, slices.Clone(p.l)} }

// same holds all that a heap tells against what it should tell.
func same(t *testing.T, h *pheap.Heap, p *plain) {
	t.Helper()
	if h.Len() != len(p.l) {
		t.Fatalf("Len is %d, want %d", h.Len(), len(p.l))
	}
	if got, want := h.List(), p.sorted(); !slices.Equal(got, want) {
		t.Fatalf("List is %v, want %v", got, want)
	}
	id, ok := h.Min()
	if i, o := p.min(); id != i || ok != o {
		t.Fatalf("Min is %d %v, want %d %v", id, ok, i, o)
	}
	for id := -1; id <= p.n; id++ {
		var want item
		at := p.find(id)
		if at >= 0 {
			want = p.l[at]
		}
		if deadline, seq, ok := h.Get(id); deadline != want.deadline || seq != want.seq || ok != (at >= 0) {
			t.Fatalf("Get(%d) is %d %d %v, want %v %v", id, deadline, seq, ok, want, at >= 0)
		}
	}
}

// filled is a heap with these items, inserted one behind the other.
func filled(t *testing.T, n int, l ...item) (*pheap.Heap, *plain) {
	t.Helper()
	h, p := pheap.New(n), &plain{n: n}
	for _, x := range l {
		if e := h.Insert(x.id, x.deadline, x.seq); e != api.OK || p.insert(x) != api.OK {
			t.Fatalf("Insert %v: %d", x, e)
		}
	}
	return h, p
}

// drained is all that is Taken, one behind the other; of a heap that has no end, more than may be.
func drained(h *pheap.Heap) []int {
	var l []int
	for id, ok := h.Take(); ok && len(l) <= api.MaxThreads; id, ok = h.Take() {
		l = append(l, id)
	}
	return l
}

// P3.1: sizes.
func TestNew(t *testing.T) {
	for _, n := range []int{math.MinInt, -1, 0, api.MaxThreads + 1, math.MaxInt} {
		if pheap.New(n) != nil {
			t.Error(n, "may not be")
		}
	}
	for _, n := range []int{1, 2, api.MaxThreads - 1, api.MaxThreads} {
		h := pheap.New(n)
		if h == nil {
			t.Fatal(n, "may be")
		}
		same(t, h, &plain{n: n})
		if e := h.Insert(n-1, 7, 7); e != api.OK {
			t.Error("the last id:", e)
		}
		if e := h.Insert(n, 7, 7); e != api.ErrRange {
			t.Error("one more:", e)
		}
		same(t, h, &plain{n, []item{{n - 1, 7, 7}}})
	}
}

// P1: a nil heap.
func TestNil(t *testing.T) {
	var h *pheap.Heap
	for _, id := range []int{math.MinInt, -1, 0, 1, math.MaxInt} {
		if h.Insert(id, 1, 2) != api.ErrNil || h.Change(id, 1, 2) != api.ErrNil || h.Delete(id) != api.ErrNil {
			t.Error("errors")
		}
		if deadline, seq, ok := h.Get(id); deadline != 0 || seq != 0 || ok {
			t.Error("Get")
		}
	}
	if id, ok := h.Min(); id != 0 || ok {
		t.Error("Min")
	}
	if id, ok := h.Take(); id != 0 || ok {
		t.Error("Take")
	}
	if len(h.List()) != 0 || h.Len() != 0 || h.Fork() != nil {
		t.Error("zero values")
	}
}

// P3.1, P2: an empty heap has nothing, and says so with zero values.
func TestEmpty(t *testing.T) {
	h := pheap.New(3)
	for range 2 {
		if id, ok := h.Min(); id != 0 || ok {
			t.Error("Min", id, ok)
		}
		if id, ok := h.Take(); id != 0 || ok {
			t.Error("Take", id, ok)
		}
		if e := h.Delete(0); e != api.ErrNone {
			t.Error("Delete", e)
		}
		if e := h.Change(0, 1, 1); e != api.ErrNone {
			t.Error("Change", e)
		}
		same(t, h, &plain{n: 3})
		h.Insert(2, 5, 6)
		if id, ok := h.Take(); id != 2 || !ok {
			t.Error("Take", id, ok)
		}
	}
}

// P3.1, P2: what is refused has its error, the first one that is named, and changes nothing.
func TestRefused(t *testing.T) {
	h, p := filled(t, 4, item{2, 9, 1}, item{0, 9, 0}, item{3, 0, 5})
	for _, id := range []int{math.MinInt, -4, -1, 4, 5, api.MaxThreads, math.MaxInt} {
		for _, x := range []uint64{0, 9, api.MaxTime} {
			if e := h.Insert(id, x, x); e != api.ErrRange {
				t.Error("Insert", id, e)
			}
			if e := h.Change(id, x, x); e != api.ErrRange {
				t.Error("Change", id, e)
			}
		}
		if e := h.Delete(id); e != api.ErrRange {
			t.Error("Delete", id, e)
		}
		if deadline, seq, ok := h.Get(id); deadline != 0 || seq != 0 || ok {
			t.Error("Get", id, deadline, seq, ok)
		}
		same(t, h, p)
	}
	for _, id := range []int{0, 2, 3} {
		for _, x := range []uint64{0, 9, api.MaxTime} {
			if e := h.Insert(id, x, x); e != api.ErrKnown {
				t.Error("Insert", id, e)
			}
		}
		same(t, h, p)
	}
	if e := h.Change(1, 0, 0); e != api.ErrNone {
		t.Error("Change", e)
	}
	if e := h.Delete(1); e != api.ErrNone {
		t.Error("Delete", e)
	}
	same(t, h, p)
}

// P3.1: the document's example.
func TestExample(t *testing.T) {
	h, _ := filled(t, 3, item{1, 9, 0}, item{2, 4, 0})
	if e := h.Change(1, 3, 0); e != api.OK {
		t.Error(e)
	}
	if got := drained(h); !slices.Equal(got, []int{1, 2}) {
		t.Error(got)
	}
	same(t, h, &plain{n: 3})
}

// P3.1, P3.3: deadlines go ahead of numbers, numbers ahead of ids, at their edges too, however they came.
func TestOrder(t *testing.T) {
	const most = api.MaxTime
	want := []item{{7, 0, 0}, {8, 0, 0}, {5, 0, 1}, {4, 0, most}, {9, 1, 0}, {3, 1 << 63, 5}, {6, most - 1, most}, {2, most, 0}, {0, most, most}, {1, most, most}}
	var ids []int
	for _, x := range want {
		ids = append(ids, x.id)
	}
	for step := range len(want) {
		for _, by := range []int{1, 3, 7, 9} { // all of them, since 10 has no part of these
			var l []item
			for i := range want {
				l = append(l, want[(step+i*by)%len(want)])
			}
			h, p := filled(t, len(want), l...)
			same(t, h, p)
			if got := drained(h); !slices.Equal(got, ids) {
				t.Error(l, got)
			}
		}
	}
}

// P3.1: a Change may go to the front, to the end, to the midst, or nowhere; of the root and of others.
func TestChange(t *testing.T) {
	for id := range 7 {
		for _, to := range []item{{id, 0, 0}, {id, 0, 1}, {id, 25, 0}, {id, 30, 0}, {id, 30, api.MaxTime}, {id, api.MaxTime, 0}, {id, 10 * uint64(id), 3}} {
			h, p := filled(t, 8, item{3, 30, 3}, item{1, 10, 3}, item{5, 50, 3}, item{0, 0, 3}, item{7, 0, 0}, item{6, 60, 3}, item{2, 20, 3}, item{4, 40, 3})
			h.Take() // so that there is more than one row
			p.remove(7)
			for range 2 {
				if e := h.Change(to.id, to.deadline, to.seq); e != api.OK || p.change(to) != api.OK {
					t.Fatal(to, e)
				}
				same(t, h, p)
			}
			if got, want := drained(h), p.sorted(); !slices.Equal(got, want) {
				t.Error(to, got, want)
			}
		}
	}
}

// P3.1, P3.2: each one is taken out, of a heap as it was filled and of one that was taken from.
func TestDelete(t *testing.T) {
	for taken := range 4 {
		for id := range 12 {
			var l []item
			for i := range 12 {
				l = append(l, item{i, uint64(i * 5 % 12), 0})
			}
			h, p := filled(t, 12, l...)
			for range taken {
				x, _ := h.Take()
				p.remove(x)
			}
			if got, want := h.Delete(id), p.remove(id); got != want {
				t.Fatal(id, got, want)
			}
			same(t, h, p)
			if e := h.Delete(id); e != api.ErrNone {
				t.Error("once more:", e)
			}
			if e := h.Insert(id, 6, 1); e != api.OK || p.insert(item{id, 6, 1}) != api.OK {
				t.Error("again:", e)
			}
			same(t, h, p)
			if got, want := drained(h), p.sorted(); !slices.Equal(got, want) {
				t.Error(got, want)
			}
		}
	}
}

// P3.1, P3.2: Min, Get and List change nothing.
func TestLooks(t *testing.T) {
	h, p := filled(t, 4, item{3, 8, 0}, item{1, 2, 9}, item{0, 2, 4})
	for range 3 {
		if id, ok := h.Min(); id != 0 || !ok {
			t.Error(id, ok)
		}
		if deadline, seq, ok := h.Get(1); deadline != 2 || seq != 9 || !ok {
			t.Error(deadline, seq, ok)
		}
		same(t, h, p)
	}
}

// P3.3: of a full heap, filled in several ways, what is Taken rises in the order.
func TestTakeRises(t *testing.T) {
	const n = api.MaxThreads
	for _, deadline := range []func(i int) uint64{
		func(i int) uint64 { return uint64(i) },
		func(i int) uint64 { return uint64(n - i) },
		func(i int) uint64 { return 5 },
		func(i int) uint64 { return uint64(i * i / 7 % 50) },
	} {
		var l []item
		for i := range n {
			id := i * 389 % n // all of them, since 389 is odd
			l = append(l, item{id, deadline(i), uint64(i % 3)})
		}
		h, p := filled(t, n, l...)
		if e := h.Insert(5, 1, 1); e != api.ErrKnown {
			t.Fatal(e)
		}
		want := p.sorted()
		if got := h.List(); !slices.Equal(got, want) {
			t.Error(got)
		}
		if got := drained(h); !slices.Equal(got, want) {
			t.Error(got)
		}
		if h.Len() != 0 {
			t.Error(h.Len())
		}
	}
}

// P3: a list that was answered is the caller's.
func TestListIsTheCallers(t *testing.T) {
	h, p := filled(t, 4, item{2, 1, 0}, item{0, 3, 0}, item{1, 2, 0})
	a, b := h.List(), h.List()
	for i := range a {
		a[i] = 99
	}
	a = append(a, 98)
	if !slices.Equal(b, []int{2, 1, 0}) || len(a) != 4 {
		t.Error(b)
	}
	same(t, h, p)
	h.Delete(1)
	h.Insert(3, 0, 0)
	if !slices.Equal(b, []int{2, 1, 0}) {
		t.Error(b)
	}
}

// P3.2, P4: a heap and its Fork are the same at first, and each its own from then on.
func TestFork(t *testing.T) {
	h, p := filled(t, 6, item{2, 5, 0}, item{0, 5, 1}, item{1, 0, 0}, item{3, api.MaxTime, 7})
	h.Take() // so that there is more than one row
	p.remove(1)
	f, fp := h.Fork(), p.fork()
	same(t, f, fp)
	h.Insert(4, 3, 3)
	h.Change(3, 1, 1)
	h.Delete(2)
	p.insert(item{4, 3, 3})
	p.change(item{3, 1, 1})
	p.remove(2)
	same(t, h, p)
	same(t, f, fp)
	f.Insert(5, 0, 0)
	f.Change(0, 9, 9)
	f.Delete(3)
	fp.insert(item{5, 0, 0})
	fp.change(item{0, 9, 9})
	fp.remove(3)
	same(t, h, p)
	same(t, f, fp)
	drained(f)
	same(t, h, p)
	same(t, f, &plain{n: 6})
	drained(h.Fork())
	same(t, h, p)
	if e := f.Insert(6, 1, 1); e != api.ErrRange {
		t.Error("a Fork takes as many as its heap:", e)
	}
}

// P3.1 to P3.3, P4, P6: long runs of all calls, wrong ones too, against the plain heap; Forks stay as they were.
func TestLongRuns(t *testing.T) {
	for _, n := range []int{1, 2, 3, 5, 24} {
		h, p := pheap.New(n), &plain{n: n}
		f, fp := h.Fork(), p.fork()
		draw := uint64(n)
		next := func(below int) int {
			draw = draw*6364136223846793005 + 1442695040888963407
			return int(draw >> 33 % uint64(below))
		}
		numbers := []uint64{0, 1, 2, 3, 1 << 63, api.MaxTime - 1, api.MaxTime}
		for range 4000 {
			x := item{next(n+2) - 1, numbers[next(len(numbers))], numbers[next(len(numbers))]}
			switch next(9) {
			case 0, 1, 2, 3:
				if got, want := h.Insert(x.id, x.deadline, x.seq), p.insert(x); got != want {
					t.Fatalf("Insert %v: %d, want %d", x, got, want)
				}
			case 4, 5:
				if got, want := h.Change(x.id, x.deadline, x.seq), p.change(x); got != want {
					t.Fatalf("Change %v: %d, want %d", x, got, want)
				}
			case 6:
				if got, want := h.Delete(x.id), p.remove(x.id); got != want {
					t.Fatalf("Delete(%d): %d, want %d", x.id, got, want)
				}
			case 7:
				id, ok := h.Take()
				if i, o := p.min(); id != i || ok != o {
					t.Fatalf("Take is %d %v, want %d %v", id, ok, i, o)
				}
				if ok {
					p.remove(id)
				}
			case 8:
				same(t, f, fp)
				f, fp = h.Fork(), p.fork()
				if next(2) == 0 { // go on with the Fork
					h, p, f, fp = f, fp, h, p
				}
			}
			same(t, h, p)
		}
	}
}
