package wheel_test

import (
	"cmp"
	"math"
	"slices"
	"testing"

	"boatswain/api"
	"boatswain/wheel"
)

const most = api.MaxTime

// item is what is set: an id, and when it is due.
type item struct {
	id int
	at uint64
}

// plain is a wheel as the document tells it: items as they were Set, gone through at each call.
type plain struct {
	n   int
	now uint64
	l   []item
}

func (p *plain) find(id int) int {
	return slices.IndexFunc(p.l, func(x item) bool { return x.id == id })
}

func (p *plain) set(id int, at uint64) api.Errno {
	switch {
	case id < 0 || id >= p.n:
		return api.ErrRange
	case p.find(id) >= 0:
		return api.ErrKnown
	}
	p.l = append(p.l, item{id, at})
	return api.OK
}

func (p *plain) cancel(id int) api.Errno {
	at := p.find(id)
	switch {
	case id < 0 || id >= p.n:
		return api.ErrRange
	case at < 0:
		return api.ErrNone
	}
	p.l = slices.Delete(p.l, at, at+1)
	return api.OK
}

func (p *plain) advance(to uint64) []int {
	p.now = max(p.now, to)
	var due, left []item
	for _, x := range p.l {
		if x.at <= p.now {
			due = append(due, x)
		} else {
			left = append(left, x)
		}
	}
	slices.SortStableFunc(due, func(a, b item) int { return cmp.Compare(a.at, b.at) })
	p.l = left
	var ids []int
	for _, x := range due {
		ids = append(ids, x.id)
	}
	return ids
}

func (p *plain) next() (uint64, bool) {
	if len(p.l) == 0 {
		return 0, false
	}
	return slices.MinFunc(p.l, func(a, b item) int { return cmp.Compare(a.at, b.at) }).at, true
}

func (p *plain) fork() *plain { return &plain{p.n, p.now, slices.Clone(p.l)} }

// same holds all that a wheel tells against what it should tell.
func same(t *testing.T, w *wheel.Wheel, p *plain) {
	t.Helper()
	if w.Now() != p.now {
		t.Fatalf("Now is %d, want %d", w.Now(), p.now)
	}
	if w.Len() != len(p.l) {
		t.Fatalf("Len is %d, want %d", w.Len(), len(p.l))
	}
	at, ok := w.Next()
	if a, o := p.next(); at != a || ok != o {
		t.Fatalf("Next is %d %v, want %d %v", at, ok, a, o)
	}
	for id := -1; id <= p.n; id++ {
		var want item
		place := p.find(id)
		if place >= 0 {
			want = p.l[place]
		}
		if at, ok := w.At(id); at != want.at || ok != (place >= 0) {
			t.Fatalf("At(%d) is %d %v, want %d %v", id, at, ok, want.at, place >= 0)
		}
	}
}

// both does a step on a wheel and on a plain one, and holds them against each other.
type both struct {
	t *testing.T
	w *wheel.Wheel
	p *plain
}

func begin(t *testing.T, n int) both {
	return both{t, wheel.New(n), &plain{n: n}}
}

func (b both) set(id int, at uint64) {
	b.t.Helper()
	if got, want := b.w.Set(id, at), b.p.set(id, at); got != want {
		b.t.Fatalf("Set(%d, %d): %d, want %d", id, at, got, want)
	}
	same(b.t, b.w, b.p)
}

func (b both) cancel(id int) {
	b.t.Helper()
	if got, want := b.w.Cancel(id), b.p.cancel(id); got != want {
		b.t.Fatalf("Cancel(%d): %d, want %d", id, got, want)
	}
	same(b.t, b.w, b.p)
}

func (b both) advance(to uint64) {
	b.t.Helper()
	if got, want := b.w.Advance(to), b.p.advance(to); !slices.Equal(got, want) {
		b.t.Fatalf("Advance(%d): %v, want %v", to, got, want)
	}
	same(b.t, b.w, b.p)
}

func (b both) fork() both { return both{b.t, b.w.Fork(), b.p.fork()} }

// P4.1: sizes, and the time at first.
func TestNew(t *testing.T) {
	for _, n := range []int{math.MinInt, -1, 0, api.MaxThreads + 1, math.MaxInt} {
		if wheel.New(n) != nil {
			t.Error(n, "may not be")
		}
	}
	for _, n := range []int{1, 2, api.MaxThreads - 1, api.MaxThreads} {
		w := wheel.New(n)
		if w == nil {
			t.Fatal(n, "may be")
		}
		same(t, w, &plain{n: n})
		if e := w.Set(n-1, 7); e != api.OK {
			t.Error("the last id:", e)
		}
		if e := w.Set(n, 7); e != api.ErrRange {
			t.Error("one more:", e)
		}
		same(t, w, &plain{n: n, l: []item{{n - 1, 7}}})
	}
}

// P1: a nil wheel.
func TestNil(t *testing.T) {
	var w *wheel.Wheel
	for _, id := range []int{math.MinInt, -1, 0, 1, math.MaxInt} {
		if w.Set(id, 1) != api.ErrNil || w.Cancel(id) != api.ErrNil {
			t.Error("errors")
		}
		if at, ok := w.At(id); at != 0 || ok {
			t.Error("At")
		}
	}
	for _, to := range []uint64{0, 1, most} {
		if len(w.Advance(to)) != 0 || w.Now() != 0 {
			t.Error("Advance")
		}
	}
	if at, ok := w.Next(); at != 0 || ok {
		t.Error("Next")
	}
	if w.Len() != 0 || w.Fork() != nil {
		t.Error("zero values")
	}
}

// P4.1, P4.2, P2: an empty wheel has nothing, and says so with zero values; its time goes on.
func TestEmpty(t *testing.T) {
	b := begin(t, 3)
	for _, to := range []uint64{0, 1, 1, 0, 63, 64, 5, 1 << 40, most, 3, most} {
		b.advance(to)
		b.cancel(0)
	}
	if b.w.Now() != most {
		t.Error(b.w.Now())
	}
}

// P4.1, P2: what is refused has its error, the first one that is named, and changes nothing.
func TestRefused(t *testing.T) {
	b := begin(t, 5)
	b.advance(10)
	b.set(2, 12)
	b.set(0, 5)
	b.set(3, 5000)
	for _, id := range []int{math.MinInt, -5, -1, 5, 6, api.MaxThreads, math.MaxInt} {
		for _, at := range []uint64{0, 10, 12, 5000, most} {
			if e := b.w.Set(id, at); e != api.ErrRange {
				t.Error("Set", id, e)
			}
		}
		if e := b.w.Cancel(id); e != api.ErrRange {
			t.Error("Cancel", id, e)
		}
		if at, ok := b.w.At(id); at != 0 || ok {
			t.Error("At", id, at, ok)
		}
		same(t, b.w, b.p)
	}
	for _, id := range []int{0, 2, 3} {
		for _, at := range []uint64{0, 10, 12, 5000, most} {
			if e := b.w.Set(id, at); e != api.ErrKnown {
				t.Error("Set", id, e)
			}
		}
		same(t, b.w, b.p)
	}
	for _, id := range []int{1, 4} {
		if e := b.w.Cancel(id); e != api.ErrNone {
			t.Error("Cancel", id, e)
		}
		same(t, b.w, b.p)
	}
	b.advance(most)
	for _, id := range []int{0, 2, 3} {
		if e := b.w.Cancel(id); e != api.ErrNone {
			t.Error("what was due is set no more:", id, e)
		}
	}
}

// P4.1: the document's example.
func TestExample(t *testing.T) {
	w := wheel.New(3)
	if w.Set(1, 5) != api.OK || w.Set(2, 3) != api.OK {
		t.Error("Set")
	}
	if l := w.Advance(4); !slices.Equal(l, []int{2}) {
		t.Error(l)
	}
	if l := w.Advance(5); !slices.Equal(l, []int{1}) {
		t.Error(l)
	}
}

// P4.1: just what is not above the time is due: at it, and not one below it; near and far, at the edges of numbers too.
func TestJustInTime(t *testing.T) {
	for _, now := range []uint64{0, 1, 62, 63, 64, 1000, 1 << 63, most - 130} {
		for _, ahead := range []uint64{1, 2, 62, 63, 64, 65, 127, 128, 129} {
			b := begin(t, 1)
			b.advance(now)
			b.set(0, now+ahead)
			b.advance(now + ahead - 1)
			if b.w.Len() != 1 {
				t.Fatal("too early", now, ahead)
			}
			b.advance(now + ahead)
			if b.w.Len() != 0 {
				t.Fatal("too late", now, ahead)
			}
		}
	}
}

// P4.1: a time that is not above the wheel's own is due at the next Advance, wherever it goes; by times, of the same as Set.
func TestPastTimes(t *testing.T) {
	for _, now := range []uint64{5, 64, 70, 1000, most} {
		for _, to := range []uint64{0, now - 1, now, most} {
			b := begin(t, 9)
			b.advance(now)
			for id, at := range []uint64{now, now - 1, 3, now, 0, 3, now - 1, now, 0} {
				b.set(id, at)
			}
			b.cancel(5)
			b.set(5, 3)
			b.cancel(7)
			b.advance(to)
			if b.w.Len() != 0 {
				t.Fatal(now, to)
			}
		}
	}
}

// P4.1: in an Advance to less than it was the time stays, and what is due at it is answered.
func TestBack(t *testing.T) {
	b := begin(t, 3)
	b.set(0, 200)
	b.set(1, 201)
	b.advance(200)
	b.advance(100)
	if b.w.Now() != 200 {
		t.Error(b.w.Now())
	}
	b.set(2, 150)
	b.advance(0)
	b.advance(201)
}

// P4.1: times of all kinds at once, in the order of times; of the same one as Set, whether it was near or far then.
func TestOrder(t *testing.T) {
	b := begin(t, 14)
	b.advance(10)
	for id, at := range []uint64{500, 11, most, 70, 500, 63, 64, 9, most, 11, 0, 500} {
		b.set(id, at)
	}
	b.advance(460) // 500 is near from now on
	b.set(12, 500)
	b.cancel(4)
	b.set(4, 500)
	f := b.fork()
	if l := f.w.Advance(500); !slices.Equal(l, []int{0, 11, 12, 4}) {
		t.Error(l)
	}
	b.advance(499)
	b.set(13, 500)
	b.set(3, 499)
	b.advance(most)
	if b.w.Len() != 0 {
		t.Error(b.w.Len())
	}
}

// P4.1, P4.2: the first one, the last one, one in the midst and the only one of a time are taken out, near and far and past.
func TestCancel(t *testing.T) {
	for _, at := range []uint64{3, 100, 110, 127, 128, 5000, most} {
		for _, order := range [][]int{{0, 1, 2, 3}, {3, 2, 1, 0}, {1, 2, 0, 3}, {2, 0, 3, 1}} {
			b := begin(t, 5)
			b.advance(100)
			b.set(4, 6000)
			for id := range 4 {
				b.set(id, at)
			}
			for _, id := range order {
				b.cancel(id)
				b.cancel(id) // there is none
				f := b.fork()
				f.advance(at)
			}
			b.set(2, at)
			b.set(1, at)
			b.advance(at)
		}
	}
}

// P4.2: Next is the least time: of what is past, near and far; it and At change nothing.
func TestNext(t *testing.T) {
	b := begin(t, 6)
	b.advance(100)
	for id, at := range []uint64{most, 100000, 128, 127, 100, 7} {
		b.set(id, at)
		if next, ok := b.w.Next(); next != at || !ok {
			t.Error(next, ok)
		}
	}
	for id := 5; id >= 0; id-- {
		b.cancel(id)
	}
	if next, ok := b.w.Next(); next != 0 || ok {
		t.Error(next, ok)
	}
}

// P4.3: what is due is answered once, and may be Set again.
func TestOnce(t *testing.T) {
	b := begin(t, 4)
	for _, to := range []uint64{0, 5, 64, 65, 1000, 1000, most} {
		for id, at := range []uint64{to, 0, to / 2, most} {
			b.set(id, at)
		}
		if l := b.w.Fork().Advance(to); len(l) < 3 {
			t.Error(to, l)
		}
		b.advance(to)
		for range 2 {
			if l := b.w.Advance(to); len(l) != 0 {
				t.Error(to, l)
			}
		}
		same(t, b.w, b.p)
	}
}

// P4.4: in two steps just that is answered which is in one; over many slots, and over all of them at once.
func TestTwoSteps(t *testing.T) {
	edges := []uint64{0, 1, 40, 63, 64, 65, 100, 127, 128, 129, 500, 4096, 1 << 20, most - 64, most - 63, most - 1, most}
	for _, now := range []uint64{0, 40, 64, 127} {
		w := wheel.New(3 * len(edges))
		w.Advance(now)
		for i := range 3 * len(edges) {
			if e := w.Set(i, edges[i*5%len(edges)]); e != api.OK {
				t.Fatal(e)
			}
		}
		for i, end := range edges {
			one := w.Fork()
			want := one.Advance(end)
			for _, half := range edges[:i+1] {
				two := w.Fork()
				got := two.Advance(half)
				got = append(got, two.Advance(end)...)
				if !slices.Equal(got, want) {
					t.Errorf("from %d by %d to %d: %v, want %v", now, half, end, got, want)
				}
				if two.Now() != one.Now() || two.Len() != one.Len() || !slices.Equal(two.Advance(most), one.Fork().Advance(most)) {
					t.Errorf("from %d by %d to %d: what stays is another", now, half, end)
				}
			}
		}
	}
}

// P4.1, P4.4: of a full wheel, step by step and at once.
func TestFull(t *testing.T) {
	b := begin(t, api.MaxThreads)
	for i := range api.MaxThreads {
		id := i * 389 % api.MaxThreads // all of them, since 389 is odd
		if e := b.w.Set(id, uint64(i*i%700)); e != api.OK || b.p.set(id, uint64(i*i%700)) != api.OK {
			t.Fatal(e)
		}
	}
	if e := b.w.Set(5, 1); e != api.ErrKnown {
		t.Error(e)
	}
	f := b.fork()
	for to := range uint64(700) {
		if got, want := b.w.Advance(to), b.p.advance(to); !slices.Equal(got, want) {
			t.Fatalf("Advance(%d): %v, want %v", to, got, want)
		}
	}
	same(t, b.w, b.p)
	f.advance(699)
	if b.w.Len() != 0 || f.w.Len() != 0 {
		t.Error(b.w.Len(), f.w.Len())
	}
}

// P3: a list that was answered is the caller's.
func TestListIsTheCallers(t *testing.T) {
	b := begin(t, 6)
	for id, at := range []uint64{5, 5, 70, 70, 300, 300} {
		b.set(id, at)
	}
	first := b.w.Advance(5)
	b.p.advance(5)
	for i := range first {
		first[i] = 99
	}
	first = append(first, 98, 97, 96)
	same(t, b.w, b.p)
	second := b.w.Advance(70)
	b.p.advance(70)
	b.set(0, 70)
	b.set(1, 70)
	b.advance(300)
	if !slices.Equal(first, []int{99, 99, 98, 97, 96}) || !slices.Equal(second, []int{2, 3}) {
		t.Error(first, second)
	}
}

// P4.2, P4: a wheel and its Fork are the same at first, and each its own from then on.
func TestFork(t *testing.T) {
	b := begin(t, 8)
	b.advance(20)
	for id, at := range []uint64{3, 25, 25, 900, 900, most} {
		b.set(id, at)
	}
	f := b.fork()
	same(t, f.w, f.p)
	b.set(6, 25)
	b.set(7, 900)
	b.cancel(1)
	b.cancel(3)
	same(t, f.w, f.p)
	f.set(7, 3)
	f.set(6, 900)
	f.cancel(5)
	f.cancel(2)
	same(t, b.w, b.p)
	f.advance(30)
	same(t, b.w, b.p)
	b.advance(850)
	same(t, f.w, f.p)
	f.advance(most)
	same(t, b.w, b.p)
	b.advance(900)
	b.advance(most)
	same(t, f.w, f.p)
	if e := f.w.Set(8, 1); e != api.ErrRange {
		t.Error("a Fork takes as many as its wheel:", e)
	}
}

// P4.1 to P4.4, P4, P6: long runs of all calls, wrong ones too, against the plain wheel; Forks stay as they were.
func TestLongRuns(t *testing.T) {
	for _, n := range []int{1, 2, 3, 17, 40} {
		b := begin(t, n)
		f := b.fork()
		draw := uint64(n)
		next := func(below int) int {
			draw = draw*6364136223846793005 + 1442695040888963407
			return int(draw >> 33 % uint64(below))
		}
		for range 6000 {
			id, now := next(n+2)-1, b.w.Now()
			times := []uint64{now, now + 1, now + uint64(next(70)), now + uint64(next(70)), now + uint64(next(300)), now - min(now, uint64(next(70))), now / 2, most, most - uint64(next(200))}
			switch next(9) {
			case 0, 1, 2, 3:
				b.set(id, times[next(len(times))])
			case 4, 5:
				b.cancel(id)
			case 6, 7:
				b.advance(times[next(len(times)-2)]) // not yet to the end of time
			case 8:
				same(t, f.w, f.p)
				old := f
				f = b.fork()
				if next(2) == 0 { // go on with the Fork
					b, f = f, b
				}
				old.advance(most)
			}
		}
		b.advance(most - 100)
		for range 2000 { // near the end of time
			id, at := next(n+2)-1, most-uint64(next(160))
			switch next(5) {
			case 0, 1, 2:
				b.set(id, at)
			case 3:
				b.cancel(id)
			case 4:
				b.advance(min(at, b.w.Now()+uint64(next(2))))
			}
		}
		b.advance(most)
	}
}
