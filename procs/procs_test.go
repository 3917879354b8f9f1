package procs_test

import (
	"math"
	"slices"
	"testing"

	"boatswain/api"
	"boatswain/key"
	"boatswain/procs"
)

const last = uint64(api.MaxTime)

// one is an id with its key and its place.
type one struct {
	id int
	k  api.Key
	at int
}

// plain are processors as the document tells them: all that stand anywhere, as they were put.
type plain struct {
	procs, threads, queue int
	l                     []one
}

func (p *plain) find(id int) int {
	return slices.IndexFunc(p.l, func(o one) bool { return o.id == id })
}

func (p *plain) isProc(proc int) bool { return proc >= 0 && proc < p.procs }

func (p *plain) isId(id int) bool { return id >= 0 && id < p.threads }

// order is all of a place: each goes ahead of the first one that it is more urgent than.
func (p *plain) order(at int) []one {
	var l []one
	for _, o := range p.l {
		if o.at != at {
			continue
		}
		i := slices.IndexFunc(l, func(other one) bool { return key.Above(o.k, other.k) })
		if i < 0 {
			i = len(l)
		}
		l = slices.Insert(l, i, o)
	}
	return l
}

func (p *plain) put(proc, id int, k api.Key) api.Errno {
	switch {
	case !p.isProc(proc) || !p.isId(id) || !key.Right(k):
		return api.ErrRange
	case p.find(id) >= 0:
		return api.ErrKnown
	}
	at := proc
	if len(p.order(proc)) >= p.queue {
		at = p.procs
	}
	p.l = append(p.l, one{id, k, at})
	return api.OK
}

func (p *plain) change(id int, k api.Key) api.Errno {
	i := p.find(id)
	switch {
	case !p.isId(id) || !key.Right(k):
		return api.ErrRange
	case i < 0:
		return api.ErrNone
	case p.l[i].k != k:
		at := p.l[i].at
		p.l = append(slices.Delete(p.l, i, i+1), one{id, k, at})
	}
	return api.OK
}

func (p *plain) remove(id int) api.Errno {
	i := p.find(id)
	switch {
	case !p.isId(id):
		return api.ErrRange
	case i < 0:
		return api.ErrNone
	}
	p.l = slices.Delete(p.l, i, i+1)
	return api.OK
}

// best goes through the places one behind the other: own, shared, the others from proc + 1 + draw on.
func (p *plain) best(proc int, draw uint64) (one, bool) {
	if !p.isProc(proc) || len(p.l) == 0 {
		return one{}, false
	}
	places := []int{proc, p.procs}
	n := uint64(p.procs)
	for i := range n {
		places = append(places, int((uint64(proc)+1+draw%n+i)%n)) // proc's own again, which changes nothing
	}
	var tops []one
	for _, at := range places {
		tops = append(tops, p.order(at)[:min(1, len(p.order(at)))]...)
	}
	best := tops[0]
	for _, o := range tops {
		if key.Above(o.k, best.k) {
			best = o
		}
	}
	return best, true
}

func (p *plain) take(proc int, draw uint64) (one, bool) {
	o, ok := p.best(proc, draw)
	if ok {
		p.remove(o.id)
	}
	return o, ok
}

func (p *plain) fork() *plain { return &plain{p.procs, p.threads, p.queue, slices.Clone(p.l)} }

// draws are those at which the order of the others turns.
func (p *plain) draws() []uint64 {
	n := uint64(p.procs)
	return []uint64{0, 1, 2, n - 1, n, n + 1, 7 * n, last - 1, last}
}

// both does a step on processors and on plain ones, and holds what they answer against each other.
type both struct {
	t *testing.T
	s *procs.Procs
	p *plain
}

func begin(t *testing.T, count, threads, queue int) both {
	t.Helper()
	s := procs.New(count, threads, queue)
	if s == nil {
		t.Fatal(count, threads, queue, "may be")
	}
	return both{t, s, &plain{procs: count, threads: threads, queue: queue}}
}

func (b both) put(proc, id int, k api.Key) api.Errno {
	b.t.Helper()
	e := b.s.Put(proc, id, k)
	if want := b.p.put(proc, id, k); e != want {
		b.t.Fatalf("Put(%d, %d, %v) is %d, want %d", proc, id, k, e, want)
	}
	return e
}

func (b both) change(id int, k api.Key) api.Errno {
	b.t.Helper()
	e := b.s.Change(id, k)
	if want := b.p.change(id, k); e != want {
		b.t.Fatalf("Change(%d, %v) is %d, want %d", id, k, e, want)
	}
	return e
}

func (b both) remove(id int) api.Errno {
	b.t.Helper()
	e := b.s.Remove(id)
	if want := b.p.remove(id); e != want {
		b.t.Fatalf("Remove(%d) is %d, want %d", id, e, want)
	}
	return e
}

func (b both) best(proc int, draw uint64) (one, bool) {
	b.t.Helper()
	id, k, at, ok := b.s.Best(proc, draw)
	got := one{id, k, at}
	if want, there := b.p.best(proc, draw); got != want || ok != there {
		b.t.Fatalf("Best(%d, %d) is %v %v, want %v %v", proc, draw, got, ok, want, there)
	}
	return got, ok
}

func (b both) take(proc int, draw uint64) (one, bool) {
	b.t.Helper()
	id, k, at, ok := b.s.Take(proc, draw)
	got := one{id, k, at}
	if want, there := b.p.take(proc, draw); got != want || ok != there {
		b.t.Fatalf("Take(%d, %d) is %v %v, want %v %v", proc, draw, got, ok, want, there)
	}
	return got, ok
}

// stands puts an id, of which is known where it comes to stand.
func (b both) stands(proc, id int, k api.Key, want int) {
	b.t.Helper()
	if e := b.put(proc, id, k); e != api.OK {
		b.t.Fatalf("Put(%d, %d, %v) is %d", proc, id, k, e)
	}
	if at, ok := b.s.Where(id); at != want || !ok {
		b.t.Fatalf("behind Put(%d, %d, %v) it stands at %d %v, want %d", proc, id, k, at, ok, want)
	}
	b.same()
}

// tells asks for Best, of which is known which id it is.
func (b both) tells(proc int, draw uint64, want int) {
	b.t.Helper()
	if o, ok := b.best(proc, draw); o.id != want || !ok {
		b.t.Fatalf("Best(%d, %d) is %v %v, want %d", proc, draw, o, ok, want)
	}
}

func (b both) fork() both { return both{b.t, b.s.Fork(), b.p.fork()} }

// same holds all that processors tell against what they should tell.
func (b both) same() {
	b.t.Helper()
	b.places()
	b.urgent()
	if b.s.Len() != len(b.p.l) {
		b.t.Fatalf("Len is %d, want %d", b.s.Len(), len(b.p.l))
	}
	for id := -1; id <= b.p.threads; id++ {
		want, there := 0, b.p.find(id)
		if there >= 0 {
			want = b.p.l[there].at
		}
		if at, ok := b.s.Where(id); at != want || ok != (there >= 0) {
			b.t.Fatalf("Where(%d) is %d %v, want %d %v", id, at, ok, want, there >= 0)
		}
	}
}

// places holds all Lists against what they should tell; P11.4: no id is told twice.
func (b both) places() {
	b.t.Helper()
	told := map[int]int{}
	for at := -1; at <= b.p.procs+1; at++ {
		var want []int
		for _, o := range b.p.order(at) {
			want = append(want, o.id)
		}
		l := b.s.List(at)
		if !slices.Equal(l, want) {
			b.t.Fatalf("List(%d) is %v, want %v", at, l, want)
		}
		for _, id := range l {
			told[id]++
			if told[id] > 1 {
				b.t.Fatalf("%d stands at %d, and elsewhere", id, at)
			}
		}
		if at >= 0 && at < b.p.procs && len(l) > b.p.queue {
			b.t.Fatalf("%d stand at %d", len(l), at)
		}
	}
}

// urgent holds Best of some processors and draws against what it should be; P11.3: nothing is more urgent.
func (b both) urgent() {
	b.t.Helper()
	draws := b.p.draws()
	for proc := -1; proc <= b.p.procs; proc++ {
		draw := draws[(proc+1+len(b.p.l))%len(draws)]
		best, ok := b.best(proc, draw)
		for _, o := range b.p.l {
			if ok && key.Above(o.k, best.k) {
				b.t.Fatalf("%v is more urgent than Best(%d, %d), %v", o, proc, draw, best)
			}
		}
	}
}

// drain takes all out, by one processor behind the other.
func (b both) drain() {
	b.t.Helper()
	var before one
	for n := range len(b.p.l) {
		o, ok := b.take(n%b.p.procs, uint64(n))
		if !ok || n > 0 && key.Above(o.k, before.k) {
			b.t.Fatal(o, ok, "is taken behind", before)
		}
		before = o
		b.same()
	}
	if o, ok := b.take(0, 0); ok {
		b.t.Fatal("more than there were:", o)
	}
}

// P11.1: numbers of processors, of threads, and of those that a place may hold.
func TestNew(t *testing.T) {
	wrong := []int{math.MinInt, -1, 0, 1 << 32, 1<<32 + 1, math.MaxInt}
	for _, procsRight := range []int{1, 2, api.MaxProcs} {
		for _, threads := range []int{1, 3, api.MaxThreads} {
			for _, queue := range []int{1, 2, api.MaxQueue} {
				b := begin(t, procsRight, threads, queue)
				if b.s.Len() != 0 || len(b.s.List(procsRight)) != 0 {
					t.Error(b.s.Len())
				}
				b.urgent()
				for _, x := range wrong {
					if procs.New(x, threads, queue) != nil || procs.New(procsRight, x, queue) != nil || procs.New(procsRight, threads, x) != nil {
						t.Error(x, "may not be")
					}
				}
				if procs.New(api.MaxProcs+1, threads, queue) != nil || procs.New(procsRight, api.MaxThreads+1, queue) != nil || procs.New(procsRight, threads, api.MaxQueue+1) != nil {
					t.Error(procsRight, threads, queue, "and one more than may be")
				}
			}
		}
	}
}

// P1: nil processors.
func TestNil(t *testing.T) {
	var p *procs.Procs
	for _, x := range []int{math.MinInt, -1, 0, 1, api.MaxProcs, math.MaxInt} {
		for _, k := range []api.Key{key.Fixed(0), key.Dead(0), {Deadline: 1}} {
			if e := p.Put(x, x, k); e != api.ErrNil {
				t.Error("Put", e)
			}
			if e := p.Change(x, k); e != api.ErrNil {
				t.Error("Change", e)
			}
		}
		if e := p.Remove(x); e != api.ErrNil {
			t.Error("Remove", e)
		}
		if at, ok := p.Where(x); at != 0 || ok {
			t.Error("Where", at, ok)
		}
		for _, draw := range []uint64{0, 1, last} {
			if id, k, at, ok := p.Best(x, draw); id != 0 || k != (api.Key{}) || at != 0 || ok {
				t.Error("Best", id, k, at, ok)
			}
			if id, k, at, ok := p.Take(x, draw); id != 0 || k != (api.Key{}) || at != 0 || ok {
				t.Error("Take", id, k, at, ok)
			}
		}
		if len(p.List(x)) != 0 {
			t.Error("List", p.List(x))
		}
	}
	if p.Len() != 0 || p.Fork() != nil {
		t.Error("zero values")
	}
}

// P11.2: the document's example.
func TestExample(t *testing.T) {
	b := begin(t, 2, 4, 4)
	b.put(0, 1, key.Fixed(4))
	b.put(1, 2, key.Fixed(6))
	b.same()
	if id, k, at, ok := b.s.Best(0, 0); id != 2 || k != key.Fixed(6) || at != 1 || !ok {
		t.Error(id, k, at, ok)
	}
	b.drain()
}

// P11.1: a Put at a full place stands at the one that all share; again at its own when there is room.
func TestFull(t *testing.T) {
	for _, taking := range []bool{false, true} {
		b := begin(t, 2, 8, 2)
		b.stands(0, 0, key.Fixed(9), 0)
		b.stands(0, 1, key.Dead(5), 0)
		b.stands(0, 2, key.Fixed(9), 2)
		b.stands(0, 3, key.Dead(1), 2)
		b.stands(1, 4, key.Fixed(9), 1) // the other one has room of its own
		if taking {
			b.remove(3)
			b.take(0, 0) // 1, of the full place
		} else {
			b.remove(0)
		}
		b.same()
		b.stands(0, 5, key.Fixed(9), 0)
		b.stands(0, 6, key.Fixed(9), 2)
		b.stands(1, 7, key.Fixed(9), 1)
		b.drain()
	}
}

// P11.1: who stands at the shared place stays there, though there is room again elsewhere.
func TestStays(t *testing.T) {
	b := begin(t, 1, 4, 1)
	b.stands(0, 0, key.Fixed(2), 0)
	b.stands(0, 1, key.Fixed(2), 1)
	b.remove(0)
	b.change(1, key.Fixed(3))
	b.change(1, key.Dead(3))
	b.same()
	if at, ok := b.s.Where(1); at != 1 || !ok {
		t.Error(at, ok)
	}
	b.stands(0, 2, key.Fixed(2), 0)
	b.remove(1)
	b.same()
	b.stands(0, 1, key.Fixed(2), 1)
	b.remove(2)
	b.remove(1)
	b.stands(0, 1, key.Fixed(2), 0) // put anew, it goes where there is room
}

// P11.1: each place holds as many as queue says, the shared one all, whatever is the greater of queue and threads.
func TestRoom(t *testing.T) {
	for _, size := range [][3]int{{1, 1, 1}, {1, 1, api.MaxQueue}, {2, 5, 1}, {2, 5, 4}, {2, 5, 5}, {2, 5, 6}, {1, 40, api.MaxQueue}, {3, 40, 7}} {
		b := begin(t, size[0], size[1], size[2])
		for id := range size[1] {
			want := 0
			if id >= size[2] {
				want = size[0]
			}
			b.stands(0, id, key.Fixed(byte(id*7)), want)
		}
		if e := b.put(0, 0, key.Fixed(1)); e != api.ErrKnown {
			t.Error(size, e)
		}
		b.drain()
	}
}

// P11.1, the greatest ones: all threads at one processor of the last.
func TestGreatest(t *testing.T) {
	p := procs.New(api.MaxProcs, api.MaxThreads, api.MaxQueue)
	for id := range api.MaxThreads {
		if e := p.Put(api.MaxProcs-1, id, key.Fixed(8)); e != api.OK {
			t.Fatal(id, e)
		}
		want := api.MaxProcs - 1
		if id >= api.MaxQueue {
			want = api.MaxProcs
		}
		if at, ok := p.Where(id); at != want || !ok {
			t.Fatal(id, at, ok)
		}
	}
	if len(p.List(api.MaxProcs-1)) != api.MaxQueue || len(p.List(api.MaxProcs)) != api.MaxThreads-api.MaxQueue || p.Len() != api.MaxThreads {
		t.Error(len(p.List(api.MaxProcs-1)), len(p.List(api.MaxProcs)), p.Len())
	}
	for n := range api.MaxThreads { // who looks from elsewhere takes of the shared place first
		want, place := n+api.MaxQueue, api.MaxProcs
		if n >= api.MaxThreads-api.MaxQueue {
			want, place = n-(api.MaxThreads-api.MaxQueue), api.MaxProcs-1
		}
		if id, k, at, ok := p.Take(n%(api.MaxProcs-1), uint64(n)); id != want || at != place || k != key.Fixed(8) || !ok {
			t.Fatal(n, id, k, at, ok)
		}
	}
	if p.Len() != 0 {
		t.Error(p.Len())
	}
}

// P11.1, P11.4: an id that stands at another place, Put, Changed, Removed.
func TestElsewhere(t *testing.T) {
	for at := range 4 { // places 0, 1, 2, and the shared one
		b := begin(t, 3, 5, 1)
		b.put(0, 1, key.Fixed(5))
		b.put(1, 2, key.Fixed(5))
		b.put(2, 3, key.Fixed(5))
		b.put(2, 4, key.Fixed(5))
		b.same()
		id := at + 1
		for proc := range 3 {
			for _, k := range []api.Key{key.Fixed(5), key.Fixed(9), key.Dead(0)} {
				if e := b.put(proc, id, k); e != api.ErrKnown {
					t.Error(proc, id, e)
				}
				b.same()
			}
		}
		for _, k := range []api.Key{key.Fixed(5), key.Fixed(6), key.Dead(6), key.Fixed(0), key.Dead(last)} {
			if e := b.change(id, k); e != api.OK {
				t.Error(id, e)
			}
			b.same()
			if now, ok := b.s.Where(id); now != at || !ok {
				t.Error(id, "went to", now, ok)
			}
		}
		if e := b.remove(id); e != api.OK {
			t.Error(id, e)
		}
		b.same()
		if e := b.remove(id); e != api.ErrNone {
			t.Error(id, e)
		}
		if e := b.change(id, key.Fixed(5)); e != api.ErrNone {
			t.Error(id, e)
		}
		b.same()
		if e := b.put(0, id, key.Fixed(5)); e != api.OK {
			t.Error(id, e)
		}
		b.same()
		b.drain()
	}
}

// P11.1: a Change at the place that all share: the order there is that of ready.
func TestChangeAtTheShared(t *testing.T) {
	b := begin(t, 1, 6, 1)
	for id := range 6 {
		b.put(0, id, key.Fixed(3))
	}
	for _, step := range []struct {
		id   int
		k    api.Key
		want []int
	}{
		{2, key.Fixed(3), []int{1, 2, 3, 4, 5}}, // the same key: nothing changes
		{2, key.Fixed(2), []int{1, 3, 4, 5, 2}},
		{2, key.Fixed(3), []int{1, 3, 4, 5, 2}},
		{5, key.Fixed(4), []int{5, 1, 3, 4, 2}},
		{4, key.Dead(9), []int{4, 5, 1, 3, 2}},
		{1, key.Dead(8), []int{1, 4, 5, 3, 2}},
		{1, key.Dead(9), []int{4, 1, 5, 3, 2}},
		{4, key.Fixed(3), []int{1, 5, 3, 2, 4}},
	} {
		if e := b.change(step.id, step.k); e != api.OK {
			t.Error(step, e)
		}
		b.same()
		if l := b.s.List(1); !slices.Equal(l, step.want) {
			t.Error(step, l)
		}
		if l := b.s.List(0); !slices.Equal(l, []int{0}) {
			t.Error(step, l)
		}
	}
	b.drain()
}

// P11.2: Best and Take with nothing anywhere: of new ones, and of ones that became empty.
func TestEmpty(t *testing.T) {
	b := begin(t, 3, 4, 1)
	for range 2 {
		for proc := -1; proc <= 4; proc++ {
			for _, draw := range b.p.draws() {
				if id, k, at, ok := b.s.Best(proc, draw); id != 0 || k != (api.Key{}) || at != 0 || ok {
					t.Error("Best", id, k, at, ok)
				}
				if id, k, at, ok := b.s.Take(proc, draw); id != 0 || k != (api.Key{}) || at != 0 || ok {
					t.Error("Take", id, k, at, ok)
				}
			}
		}
		b.same()
		b.put(2, 3, key.Dead(4))
		b.put(2, 2, key.Dead(4))
		b.drain()
	}
}

// P11.2: with one alone, at each of the places: each processor finds it, whatever is drawn.
func TestAlone(t *testing.T) {
	for _, n := range []int{1, 2, 3, 5, 9, api.MaxProcs} {
		for place := range n + 1 {
			b := begin(t, n, 2, 1)
			if place == n { // the shared one takes what a full place does not
				b.put(n-1, 0, key.Fixed(1))
				b.put(n-1, 1, key.Fixed(0))
				b.remove(0)
			} else {
				b.put(place, 1, key.Fixed(0))
			}
			want := one{1, key.Fixed(0), place}
			for proc := range n {
				for _, draw := range b.p.draws() {
					if o, ok := b.best(proc, draw); o != want || !ok {
						t.Fatal(n, proc, draw, o, ok)
					}
				}
				f, draw := b.fork(), b.p.draws()[(proc+place)%9]
				if o, ok := f.take(proc, draw); o != want || !ok || f.s.Len() != 0 {
					t.Fatal(n, proc, draw, o, ok)
				}
			}
			b.same()
		}
	}
}

// crowd is so many processors, each with its own number at its place, and n, too, at the shared one: all of one key.
func crowd(t *testing.T, n int, k api.Key) both {
	t.Helper()
	b := begin(t, n, n+1, 1)
	for proc := range n {
		b.stands(proc, proc, k, proc)
	}
	b.stands(0, n, k, n)
	return b
}

// P11.2: of the same key that of proc's own place goes first, then that of the shared one, then the others from proc + 1 + draw on.
func TestTheSame(t *testing.T) {
	for _, k := range []api.Key{key.Fixed(0), key.Fixed(255), key.Dead(0), key.Dead(last)} {
		for _, n := range []int{1, 2, 3, 5, 8} {
			for proc := range n {
				for _, draw := range crowd(t, n, k).p.draws() {
					b := crowd(t, n, k)
					b.tells(proc, draw, proc)
					b.take(proc, draw)
					b.tells(proc, draw, n)
					b.take(proc, draw)
					first := (proc + 1 + int(draw%uint64(n))) % n
					for i := range n {
						want := (first + i) % n
						if want == proc {
							continue
						}
						b.tells(proc, draw, want)
						b.take(proc, draw)
					}
					if b.s.Len() != 0 {
						t.Fatal(n, proc, draw, b.s.Len())
					}
				}
			}
		}
	}
}

// P11.2: the same, told one by one, of four processors.
func TestDraws(t *testing.T) {
	b := crowd(t, 4, key.Fixed(7))
	b.remove(1)
	b.remove(4)
	for _, c := range []struct {
		draw uint64
		want int
	}{
		{0, 2}, {1, 3}, {2, 0}, {3, 2}, // 3 comes to processor 1 itself, where nothing stands: on to the next one
		{4, 2}, {5, 3}, {6, 0}, {7, 2}, {last, 2}, {last - 1, 0}, {last - 2, 3}, {last - 3, 2}, {1 << 63, 2}, {1<<63 + 1, 3},
	} {
		b.tells(1, c.draw, c.want)
	}
	b = crowd(t, 3, key.Dead(7))
	b.remove(2)
	b.remove(3)
	for draw, want := range []int{0, 1, 0, 0, 1, 0} {
		b.tells(2, uint64(draw), want)
	}
	b.tells(2, last, 0)   // 2^64 - 1 is a multiple of 3
	b.tells(2, last-1, 0) // comes to processor 2 itself
	b.tells(2, last-2, 1)
}

// P11.2: the more urgent one goes ahead, wherever it stands: places say something of the same keys alone.
func TestMoreUrgent(t *testing.T) {
	for _, pair := range [][2]api.Key{
		{key.Fixed(0), key.Fixed(1)}, {key.Fixed(254), key.Fixed(255)}, {key.Fixed(255), key.Dead(last)},
		{key.Dead(last), key.Dead(last - 1)}, {key.Dead(1), key.Dead(0)},
	} {
		for urgent := range 6 {
			b := crowd(t, 5, pair[0])
			b.change(urgent, pair[1])
			for proc := range 5 {
				for _, draw := range b.p.draws() {
					b.tells(proc, draw, urgent)
				}
			}
			b.drain()
		}
	}
}

// P11.2: of a place it is the first one in order that is told, and no other one of the same key.
func TestTops(t *testing.T) {
	b := begin(t, 2, 8, 3)
	for _, id := range []int{5, 1, 3, 7, 0} {
		b.put(0, id, key.Fixed(6))
	}
	b.put(1, 2, key.Fixed(6))
	b.same()
	for _, want := range []int{5, 1, 3, 7, 0, 2} {
		b.tells(0, 0, want)
		b.take(0, 0)
		b.same()
	}
}

// P11.1, P11.2, P2: processors of which there is none; nothing changes.
func TestWrongProcs(t *testing.T) {
	for _, n := range []int{1, 2, api.MaxProcs} {
		b := begin(t, n, 4, 1)
		b.put(0, 0, key.Fixed(4))
		b.put(0, 1, key.Fixed(4)) // at the shared place, which is of no processor
		for _, proc := range []int{math.MinInt, -n, -1, n, n + 1, 1 << 32, math.MaxInt} {
			for id := -1; id <= 4; id++ {
				if e := b.put(proc, id, key.Fixed(1)); e != api.ErrRange {
					t.Error("Put", proc, id, e)
				}
			}
			for _, draw := range b.p.draws() {
				if o, ok := b.best(proc, draw); o != (one{}) || ok {
					t.Error("Best", proc, o, ok)
				}
				if o, ok := b.take(proc, draw); o != (one{}) || ok {
					t.Error("Take", proc, o, ok)
				}
			}
		}
		b.same()
	}
}

// P11.1, P11.2, P2: ids of which there is none; nothing changes.
func TestWrongIds(t *testing.T) {
	for _, threads := range []int{1, 3, api.MaxThreads} {
		b := begin(t, 2, threads, 1)
		b.put(0, threads-1, key.Fixed(7))
		for _, id := range []int{math.MinInt, -threads, -1, threads, threads + 1, 1 << 32, math.MaxInt} {
			for _, k := range []api.Key{key.Fixed(7), key.Dead(7), {Deadline: 7}} {
				for proc := range 2 { // a full place and an empty one
					if e := b.put(proc, id, k); e != api.ErrRange {
						t.Error("Put", proc, id, e)
					}
				}
				if e := b.change(id, k); e != api.ErrRange {
					t.Error("Change", id, e)
				}
			}
			if e := b.remove(id); e != api.ErrRange {
				t.Error("Remove", id, e)
			}
			if at, ok := b.s.Where(id); at != 0 || ok {
				t.Error("Where", id, at, ok)
			}
		}
		b.same()
	}
}

// P11.1, P2: keys that are not right, of ids that stand at each place, or nowhere; nothing changes.
func TestWrongKeys(t *testing.T) {
	b := begin(t, 2, 5, 1)
	b.put(0, 0, key.Fixed(4))
	b.put(1, 1, key.Dead(4))
	b.put(1, 2, key.Fixed(4))
	for _, k := range []api.Key{
		{Deadline: 1}, {Deadline: last}, {Deadline: 4, Level: 4},
		{Edf: true, Level: 1}, {Edf: true, Deadline: 4, Level: 4}, {Edf: true, Deadline: last, Level: 255},
	} {
		for id := -1; id <= 5; id++ {
			for proc := -1; proc <= 2; proc++ {
				if e := b.put(proc, id, k); e != api.ErrRange {
					t.Error("Put", proc, id, k, e)
				}
			}
			if e := b.change(id, k); e != api.ErrRange {
				t.Error("Change", id, k, e)
			}
		}
		b.same()
	}
}

// P11.1: each key that is right may be put, at a processor and at the shared place, and is told again.
func TestKeys(t *testing.T) {
	for _, k := range []api.Key{
		key.Fixed(0), key.Fixed(1), key.Fixed(64), key.Fixed(254), key.Fixed(255),
		key.Dead(0), key.Dead(1), key.Dead(255), key.Dead(1 << 63), key.Dead(last - 1), key.Dead(last),
	} {
		b := begin(t, 2, 3, 1)
		b.stands(1, 0, k, 1)
		b.stands(1, 1, k, 2)
		for _, want := range []one{{1, k, 2}, {0, k, 1}} {
			if o, ok := b.take(0, 0); o != want || !ok {
				t.Error(k, o, ok)
			}
			b.same()
		}
	}
}

// P11.1, P2: ids that stand nowhere, while others do.
func TestNone(t *testing.T) {
	b := begin(t, 2, 6, 1)
	b.put(0, 1, key.Fixed(4))
	b.put(1, 2, key.Dead(4))
	b.put(1, 3, key.Fixed(4))
	for range 2 {
		for _, id := range []int{0, 4, 5} {
			for _, k := range []api.Key{key.Fixed(4), key.Dead(4), {}} {
				if e := b.change(id, k); e != api.ErrNone {
					t.Error(id, k, e)
				}
			}
			if e := b.remove(id); e != api.ErrNone {
				t.Error(id, e)
			}
			if at, ok := b.s.Where(id); at != 0 || ok {
				t.Error(id, at, ok)
			}
		}
		b.same()
		b.drain()
	}
}

// P11.2: List of places of which there is none.
func TestListOfNone(t *testing.T) {
	for _, n := range []int{1, 2, api.MaxProcs} {
		b := begin(t, n, 3, 1)
		b.put(0, 0, key.Fixed(4))
		b.put(0, 1, key.Fixed(4))
		for _, at := range []int{math.MinInt, -n, -2, -1, n + 1, n + 2, api.MaxProcs + 1, 1 << 32, math.MaxInt} {
			if l := b.s.List(at); len(l) != 0 {
				t.Error(n, at, l)
			}
		}
		if l := b.s.List(0); !slices.Equal(l, []int{0}) {
			t.Error(l)
		}
		if l := b.s.List(n); !slices.Equal(l, []int{1}) {
			t.Error(l)
		}
	}
}

// P11.2: looks change nothing.
func TestLooks(t *testing.T) {
	b := crowd(t, 3, key.Fixed(2))
	for range 3 {
		for proc := range 3 {
			for _, draw := range b.p.draws() {
				b.tells(proc, draw, proc)
			}
		}
		for at := range 4 {
			if l := b.s.List(at); !slices.Equal(l, []int{at}) {
				t.Error(at, l)
			}
		}
		b.same()
	}
}

// P3: a list that was answered is the caller's, with the room behind it.
func TestListIsTheCallers(t *testing.T) {
	b := begin(t, 1, 9, 3)
	for id := range 7 {
		b.put(0, id, key.Fixed(byte(id%3)))
	}
	for at := range 2 {
		l, m := b.s.List(at), b.s.List(at)
		before := slices.Clone(m)
		for i, whole := 0, l[:cap(l)]; i < len(whole); i++ {
			whole[i] = 8
		}
		b.same()
		b.put(0, 7+at, key.Dead(0))
		b.take(0, 0)
		b.take(0, 0)
		b.same()
		if !slices.Equal(m, before) {
			t.Error(m, before)
		}
	}
}

// P11.2, P4: processors and their Fork are the same at first, and each its own from then on.
func TestFork(t *testing.T) {
	b := begin(t, 2, 9, 2)
	b.put(0, 0, key.Fixed(3))
	b.put(0, 1, key.Dead(9))
	b.put(0, 2, key.Fixed(3))
	b.put(1, 3, key.Dead(9))
	f := b.fork()
	f.same()
	for _, step := range []func(){
		func() { b.put(1, 4, key.Dead(9)) },
		func() { f.put(1, 4, key.Fixed(9)) },
		func() { b.put(1, 5, key.Dead(9)) }, // shared: full
		func() { f.remove(3) },
		func() { f.put(1, 5, key.Dead(9)) }, // its own: room
		func() { b.remove(0) },
		func() { b.change(2, key.Dead(1)) },
		func() { f.change(2, key.Fixed(9)) },
		func() { f.change(1, key.Fixed(3)) },
		func() { b.take(1, 0) },
		func() { f.take(0, 1) },
		func() { f.take(1, 1) },
		func() { b.put(0, 6, key.Fixed(0)) },
		func() { f.put(0, 7, key.Fixed(0)) },
		func() { f.put(0, 8, key.Fixed(0)) },
	} {
		step()
		b.same()
		f.same()
	}
	g := f.fork()
	g.same()
	g.drain()
	b.same()
	f.same()
	f.drain()
	b.drain()
	begin(t, 1, 1, 1).fork().same()
	e := begin(t, 3, 4, 1).fork() // what may be is the same of an empty one's
	e.stands(2, 3, key.Fixed(1), 2)
	e.stands(2, 2, key.Fixed(1), 3)
	if e.put(3, 1, key.Fixed(1)) != api.ErrRange || e.put(0, 4, key.Fixed(1)) != api.ErrRange {
		t.Error("a Fork is for as many")
	}
}

// rolls draws numbers below one, always the same ones.
func rolls(seed uint64) func(below int) int {
	return func(below int) int {
		seed = seed*6364136223846793005 + 1442695040888963407
		return int(seed >> 33 % uint64(below))
	}
}

// keys are some, most of them several times, that many come to be the same; two are not right.
var keys = []api.Key{
	key.Fixed(0), key.Fixed(1), key.Fixed(1), key.Fixed(64), key.Fixed(64), key.Fixed(255), key.Dead(0), key.Dead(1),
	key.Dead(1), key.Dead(64), key.Dead(last), {Deadline: 1}, {Edf: true, Level: 1},
}

// P11.1 to P11.4, P4, P6: long runs of every deed, wrong ones too, against plain ones; Forks stay as they were.
func TestLongRuns(t *testing.T) {
	for _, size := range [][3]int{{1, 1, 1}, {1, 4, 2}, {2, 3, 1}, {2, 6, 3}, {3, 9, 2}, {4, 12, 12}, {7, 20, 1}, {5, 30, 4}} {
		b := begin(t, size[0], size[1], size[2])
		f := b.fork()
		next := rolls(uint64(size[0]*100 + size[1]))
		seen, places := map[api.Errno]int{}, map[int]int{}
		for range 400000 / (size[0] * (size[1] + 10)) {
			proc, id, k := next(size[0]+2)-1, next(size[1]+2)-1, keys[next(len(keys))]
			draw := b.p.draws()[next(9)]
			switch kind := next(24); {
			case kind < 12:
				seen[b.put(proc, id, k)]++
			case kind < 16:
				seen[b.change(id, k)]++
			case kind < 18:
				seen[b.remove(id)]++
			case kind < 22:
				if o, ok := b.take(proc, draw); ok {
					places[o.at]++
				}
			case kind == 22:
				g := b.fork()
				g.drain()
			case kind == 23:
				f.same()
				f = b.fork()
				if next(2) == 0 { // go on with the Fork
					b, f = f, b
				}
			}
			b.same()
		}
		for _, e := range []api.Errno{api.OK, api.ErrRange, api.ErrKnown, api.ErrNone} {
			if seen[e] == 0 {
				t.Error(size, "never came to", e)
			}
		}
		if size[2] <= 2 && size[1] > 1 && places[size[0]] == 0 {
			t.Error(size, "never took of the shared place")
		}
		b.drain()
	}
}

// P11.3, P11.4: many processors and threads, of which each look is held against all that stand.
func TestManyProcs(t *testing.T) {
	b := begin(t, api.MaxProcs, 200, 2)
	next := rolls(64)
	for n := range 3000 {
		proc, id, k := next(api.MaxProcs), next(200), keys[next(len(keys)-2)]
		switch draw := uint64(next(1 << 30)); next(4) {
		case 0, 1:
			b.put(proc%8, id, k) // few of them: so that their places are full
		case 2:
			b.change(id, k)
		case 3:
			b.take(proc, draw)
		}
		if n%100 == 0 {
			b.same()
		}
	}
	b.same()
	b.drain()
}
