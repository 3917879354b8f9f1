package gtab_test

import (
	"maps"
	"math"
	"slices"
	"testing"

	"boatswain/api"
	"boatswain/gtab"
)

// states are all that there are.
var states = []api.State{api.Free, api.Ready, api.Running, api.Blocked, api.Sleeping}

// noStates are some that are none.
var noStates = []api.State{math.MinInt, -256, -1, api.Sleeping + 1, api.Sleeping + 2, 256 + api.Ready, 1<<32 + api.Running, math.MaxInt}

// plainMay is the document's list of what may follow.
func plainMay(from, to api.State) bool {
	switch [2]api.State{from, to} {
	case [2]api.State{api.Ready, api.Running},
		[2]api.State{api.Running, api.Ready}, [2]api.State{api.Running, api.Blocked}, [2]api.State{api.Running, api.Sleeping},
		[2]api.State{api.Blocked, api.Ready},
		[2]api.State{api.Sleeping, api.Ready}:
		return true
	}
	return false
}

// plain is a table as the document tells it: the states of the ids that are given out, and how often each place was.
type plain struct {
	often []uint32
	live  map[api.Id]api.State
}

func plainOf(n int) *plain { return &plain{make([]uint32, n), map[api.Id]api.State{}} }

func (p *plain) alloc() (api.Id, api.Errno) {
	for place := range p.often {
		if !slices.ContainsFunc(p.ids(), func(id api.Id) bool { return id.Place == place }) {
			p.often[place]++
			id := api.Id{Place: place, Gen: p.often[place]}
			p.live[id] = api.Ready
			return id, api.OK
		}
	}
	return api.Id{}, api.ErrFull
}

func (p *plain) release(id api.Id) api.Errno {
	if _, ok := p.live[id]; !ok {
		return api.ErrNone
	}
	delete(p.live, id)
	return api.OK
}

func (p *plain) move(id api.Id, s api.State) api.Errno {
	from, ok := p.live[id]
	switch {
	case !ok:
		return api.ErrNone
	case !plainMay(from, s):
		return api.ErrState
	}
	p.live[id] = s
	return api.OK
}

func (p *plain) ids() []api.Id {
	return slices.SortedFunc(maps.Keys(p.live), func(a, b api.Id) int { return a.Place - b.Place })
}

func (p *plain) fork() *plain { return &plain{slices.Clone(p.often), maps.Clone(p.live)} }

// near are ids of every place, and of two beside them, with Gens about those that were given out.
func (p *plain) near() []api.Id {
	var l []api.Id
	for place := -1; place <= len(p.often); place++ {
		top := uint32(0)
		if place >= 0 && place < len(p.often) {
			top = p.often[place]
		}
		for gen := max(top, 2) - 2; gen <= top+1; gen++ {
			l = append(l, api.Id{Place: place, Gen: gen})
		}
	}
	return append(l, api.Id{}, api.Id{Gen: math.MaxUint32})
}

// same holds all that a table tells against what it should tell.
func same(t *testing.T, x *gtab.Table, p *plain) {
	t.Helper()
	if x.Len() != len(p.live) {
		t.Fatalf("Len is %d, want %d", x.Len(), len(p.live))
	}
	if got := x.Live(); !slices.Equal(got, p.ids()) {
		t.Fatalf("Live is %v, want %v", got, p.ids())
	}
	for _, id := range p.near() {
		want, there := p.live[id]
		if s, ok := x.State(id); s != want || ok != there {
			t.Fatalf("State(%v) is %d %v, want %d %v", id, s, ok, want, there)
		}
	}
}

// both does a step on a table and on a plain one, and holds what they answer against each other.
type both struct {
	t *testing.T
	x *gtab.Table
	p *plain
}

func begin(t *testing.T, n int) both {
	t.Helper()
	x := gtab.New(n)
	if x == nil {
		t.Fatal(n, "may be")
	}
	return both{t, x, plainOf(n)}
}

func (b both) alloc() api.Id {
	b.t.Helper()
	id, e := b.x.Alloc()
	if want, f := b.p.alloc(); id != want || e != f {
		b.t.Fatalf("Alloc is %v %d, want %v %d", id, e, want, f)
	}
	return id
}

func (b both) release(id api.Id) {
	b.t.Helper()
	if e, want := b.x.Release(id), b.p.release(id); e != want {
		b.t.Fatalf("Release(%v) is %d, want %d", id, e, want)
	}
}

func (b both) move(id api.Id, s api.State) {
	b.t.Helper()
	if e, want := b.x.Move(id, s), b.p.move(id, s); e != want {
		b.t.Fatalf("Move(%v, %d) is %d, want %d", id, s, e, want)
	}
}

func (b both) fork() both { return both{b.t, b.x.Fork(), b.p.fork()} }

func (b both) same() {
	b.t.Helper()
	same(b.t, b.x, b.p)
}

// lead brings a Ready thread into a state.
func (b both) lead(id api.Id, s api.State) {
	b.t.Helper()
	if s != api.Ready {
		b.move(id, api.Running)
	}
	if s != api.Ready && s != api.Running {
		b.move(id, s)
	}
	if got, ok := b.x.State(id); got != s || !ok {
		b.t.Fatalf("State(%v) is %d %v, want %d", id, got, ok, s)
	}
}

// P6.1: sizes.
func TestNew(t *testing.T) {
	for _, n := range []int{math.MinInt, -1, 0, api.MaxThreads + 1, api.MaxThreads + 2, 1 << 40, math.MaxInt} {
		if gtab.New(n) != nil {
			t.Error(n, "may not be")
		}
	}
	for _, n := range []int{1, 2, 3, api.MaxThreads - 1, api.MaxThreads} {
		b := begin(t, n)
		b.same()
		for place := range n {
			if id, e := b.x.Alloc(); id != (api.Id{Place: place, Gen: 1}) || e != api.OK {
				t.Fatal(n, place, id, e)
			}
		}
		for range 2 {
			if id, e := b.x.Alloc(); id != (api.Id{}) || e != api.ErrFull || b.x.Len() != n {
				t.Error("one more than", n, id, e)
			}
		}
	}
}

// P1: a nil table.
func TestNil(t *testing.T) {
	var x *gtab.Table
	if id, e := x.Alloc(); id != (api.Id{}) || e != api.ErrNil {
		t.Error("Alloc", id, e)
	}
	for _, id := range []api.Id{{}, {Gen: 1}, {Place: -1, Gen: 1}, {Place: math.MaxInt, Gen: math.MaxUint32}} {
		if e := x.Release(id); e != api.ErrNil {
			t.Error("Release", e)
		}
		for _, s := range slices.Concat(states, noStates) {
			if e := x.Move(id, s); e != api.ErrNil {
				t.Error("Move", e)
			}
		}
		if s, ok := x.State(id); s != api.Free || ok {
			t.Error("State", s, ok)
		}
	}
	if len(x.Live()) != 0 || x.Len() != 0 || x.Fork() != nil {
		t.Error("zero values")
	}
}

// P6.1: the document's example.
func TestExample(t *testing.T) {
	x := gtab.New(1)
	for gen := range uint32(3) {
		want := api.Id{Place: 0, Gen: gen + 1}
		if id, e := x.Alloc(); id != want || e != api.OK {
			t.Error(id, e)
		}
		if e := x.Release(want); e != api.OK {
			t.Error(e)
		}
	}
}

// P6.1: who is new is Ready, whatever the one ahead of it at that place was.
func TestNewOnesAreReady(t *testing.T) {
	for _, s := range states[1:] {
		b := begin(t, 2)
		id := b.alloc()
		b.lead(id, s)
		b.release(id)
		b.same()
		again := b.alloc()
		if got, ok := b.x.State(again); again != (api.Id{Place: 0, Gen: 2}) || got != api.Ready || !ok {
			t.Error(s, again, got, ok)
		}
		b.same()
	}
}

// P6.1: the least free place goes first, in whatever order they became free.
func TestLeastFreePlace(t *testing.T) {
	for _, order := range [][]int{{0, 1, 2, 3, 4}, {4, 3, 2, 1, 0}, {2, 0, 4, 1}, {3}, {1, 3}, {4, 2}} {
		b := begin(t, 5)
		var ids []api.Id
		for range 5 {
			ids = append(ids, b.alloc())
		}
		for _, place := range order {
			b.release(ids[place])
			b.same()
		}
		for _, place := range slices.Sorted(slices.Values(order)) {
			if id := b.alloc(); id != (api.Id{Place: place, Gen: 2}) {
				t.Error(order, place, id)
			}
			b.same()
		}
		if b.alloc() != (api.Id{}) {
			t.Error("full")
		}
	}
}

// P6.1, P6.3: a place that is given out again and again has a Gen one greater each time; its neighbour's stays.
func TestAgainAndAgain(t *testing.T) {
	b := begin(t, 3)
	first := b.alloc()
	for gen := range uint32(5000) {
		id := b.alloc()
		if id != (api.Id{Place: 1, Gen: gen + 1}) {
			t.Fatal(id)
		}
		b.release(id)
		if e := b.x.Release(id); e != api.ErrNone {
			t.Fatal("once more:", e)
		}
	}
	b.same()
	if s, ok := b.x.State(first); s != api.Ready || !ok || first.Gen != 1 {
		t.Error(first, s, ok)
	}
	b.release(first)
	if id := b.alloc(); id != (api.Id{Place: 0, Gen: 2}) {
		t.Error(id)
	}
}

// P6.1, P6.2, P6.4: an id whose place is out of range or free, or whose Gen is an older or a later one, is not there; nothing changes.
func TestNotThere(t *testing.T) {
	b := begin(t, 3)
	old := b.alloc()
	b.release(old)
	id := b.alloc()
	free := b.alloc()
	b.lead(id, api.Running)
	b.release(free)
	wrong := []api.Id{
		old, free, {}, {Gen: 3}, {Gen: math.MaxUint32}, {Place: 1}, {Place: 1, Gen: 2}, {Place: 2}, {Place: 2, Gen: 1},
		{Place: 3, Gen: 2}, {Place: 3}, {Place: -1, Gen: 2}, {Place: math.MinInt, Gen: 2}, {Place: math.MaxInt, Gen: 2}, {Place: 1 << 32, Gen: 2},
	}
	for _, w := range wrong {
		if e := b.x.Release(w); e != api.ErrNone {
			t.Error("Release", w, e)
		}
		for _, s := range slices.Concat(states, noStates) {
			if e := b.x.Move(w, s); e != api.ErrNone {
				t.Error("Move", w, s, e)
			}
		}
		if s, ok := b.x.State(w); s != api.Free || ok {
			t.Error("State", w, s, ok)
		}
		b.same()
	}
}

// P6.2: every pair of states, also such as are none.
func TestMay(t *testing.T) {
	all := slices.Concat(states, noStates)
	count := 0
	for _, from := range all {
		for _, to := range all {
			if got := gtab.May(from, to); got != plainMay(from, to) {
				t.Errorf("May(%d, %d) is %v", from, to, got)
			} else if got {
				count++
			}
		}
	}
	if count != 6 {
		t.Error("what may follow is", count, "pairs, want 6")
	}
	for from := api.State(-300); from < 300; from++ {
		for to := api.State(-300); to < 300; to++ {
			if gtab.May(from, to) != plainMay(from, to) {
				t.Fatal(from, to)
			}
		}
	}
}

// P6.1: Move from each state to each, also to such as are none; what is refused changes nothing.
func TestMove(t *testing.T) {
	for _, from := range states[1:] {
		for _, to := range slices.Concat(states, noStates) {
			b := begin(t, 3)
			beside := b.alloc()
			id := b.alloc()
			behind := b.alloc()
			b.lead(id, from)
			want, state := api.ErrState, from
			if plainMay(from, to) {
				want, state = api.OK, to
			}
			if e := b.x.Move(id, to); e != want || b.p.move(id, to) != want {
				t.Errorf("Move from %d to %d is %d", from, to, e)
			}
			if s, ok := b.x.State(id); s != state || !ok {
				t.Errorf("from %d to %d it is %d %v", from, to, s, ok)
			}
			for _, other := range []api.Id{beside, behind} {
				if s, ok := b.x.State(other); s != api.Ready || !ok {
					t.Errorf("from %d to %d another one is %d %v", from, to, s, ok)
				}
			}
			b.same()
		}
	}
}

// P6.1, P6.4: from each state it may be Released, and then is no more.
func TestRelease(t *testing.T) {
	for _, s := range states[1:] {
		b := begin(t, 2)
		id := b.alloc()
		other := b.alloc()
		b.lead(id, s)
		b.lead(other, s)
		if e := b.x.Release(id); e != api.OK || b.p.release(id) != api.OK {
			t.Error(s, e)
		}
		b.same()
		for range 2 {
			b.release(id)
			b.move(id, api.Running)
			b.move(id, api.Ready)
			b.same()
			b.alloc() // the place is another one's now, and id is none all the same
		}
		if _, ok := b.x.State(id); ok {
			t.Error(s, "is there again")
		}
	}
}

// P6.2: Live and Len with gaps, at the ends too.
func TestLive(t *testing.T) {
	b := begin(t, 6)
	for range 6 {
		b.alloc()
	}
	for _, place := range []int{0, 5, 2, 3} {
		b.release(api.Id{Place: place, Gen: 1})
		b.same()
	}
	b.lead(api.Id{Place: 4, Gen: 1}, api.Sleeping)
	if got := b.x.Live(); !slices.Equal(got, []api.Id{{Place: 1, Gen: 1}, {Place: 4, Gen: 1}}) || b.x.Len() != 2 {
		t.Error(got, b.x.Len())
	}
	b.alloc()
	if got := b.x.Live(); !slices.Equal(got, []api.Id{{Place: 0, Gen: 2}, {Place: 1, Gen: 1}, {Place: 4, Gen: 1}}) || b.x.Len() != 3 {
		t.Error(got, b.x.Len())
	}
}

// P3: a list that was answered is the caller's.
func TestLiveIsTheCallers(t *testing.T) {
	b := begin(t, 3)
	first := b.alloc()
	b.alloc()
	l, m := b.x.Live(), b.x.Live()
	clear(l[:cap(l)])
	if !slices.Equal(m, b.p.ids()) {
		t.Error(m)
	}
	b.same()
	want := slices.Clone(m)
	b.release(first)
	b.alloc()
	b.alloc()
	if !slices.Equal(m, want) {
		t.Error(m, want)
	}
}

// P6.2, P4: a table and its Fork are the same at first, and each its own from then on.
func TestFork(t *testing.T) {
	a := begin(t, 4)
	for _, s := range []api.State{api.Running, api.Blocked, api.Sleeping} {
		a.lead(a.alloc(), s)
	}
	gone := api.Id{Place: 1, Gen: 1}
	a.release(gone)
	f := a.fork()
	f.same()
	a.move(api.Id{Place: 0, Gen: 1}, api.Blocked)
	a.release(api.Id{Place: 2, Gen: 1})
	a.alloc()
	a.same()
	f.same()
	f.move(api.Id{Place: 2, Gen: 1}, api.Ready)
	f.release(api.Id{Place: 0, Gen: 1})
	if id := f.alloc(); id != (api.Id{Place: 0, Gen: 2}) {
		t.Error(id)
	}
	if id := f.alloc(); id != (api.Id{Place: 1, Gen: 2}) { // how often it was given out goes along
		t.Error(id)
	}
	f.same()
	a.same()
	f.alloc()
	f.alloc() // it takes as many as its table
	f.same()
	a.same()
	if g := begin(t, 2).fork(); g.x == nil || g.x.Len() != 0 || g.alloc() != (api.Id{Gen: 1}) {
		t.Error("a Fork of an empty one")
	}
}

// P6: two tables know nothing of each other.
func TestTablesAreTheirOwn(t *testing.T) {
	a, b := begin(t, 2), begin(t, 2)
	a.release(a.alloc())
	a.alloc()
	if id := b.alloc(); id != (api.Id{Place: 0, Gen: 1}) {
		t.Error(id)
	}
	a.same()
	b.same()
}

// P6.3, P6.4: over a long time no id is given out twice, and none that was Released is there again.
func TestNoIdTwice(t *testing.T) {
	b := begin(t, 7)
	ever := map[api.Id]int{}
	var gone []api.Id
	draw := uint64(9)
	next := func(below int) int {
		draw = draw*6364136223846793005 + 1442695040888963407
		return int(draw >> 33 % uint64(below))
	}
	for range 4000 {
		if l := b.x.Live(); len(l) == 7 || len(l) > 0 && next(2) == 0 {
			id := l[next(len(l))]
			b.release(id)
			gone = append(gone, id)
		} else {
			id := b.alloc()
			ever[id]++
			if ever[id] != 1 {
				t.Fatal(id, "twice")
			}
		}
	}
	for _, id := range gone {
		if _, ok := b.x.State(id); ok || b.x.Release(id) != api.ErrNone || b.x.Move(id, api.Running) != api.ErrNone {
			t.Fatal(id, "is there")
		}
	}
	b.same()
}

// P6.1 to P6.4, P4: long runs of all calls, wrong ones too, against the plain table; Forks stay as they were.
func TestLongRuns(t *testing.T) {
	for _, n := range []int{1, 2, 3, 17} {
		b := begin(t, n)
		f := b.fork()
		draw := uint64(n)
		next := func(below int) int {
			draw = draw*6364136223846793005 + 1442695040888963407
			return int(draw >> 33 % uint64(below))
		}
		for range 3000 {
			near := b.p.near()
			id := near[next(len(near))]
			if l := b.p.ids(); len(l) > 0 && next(2) == 0 {
				id = l[next(len(l))]
			}
			switch next(8) {
			case 0, 1:
				b.alloc()
			case 2:
				b.release(id)
			case 3, 4, 5, 6:
				b.move(id, api.State(next(7)-1))
			case 7:
				f.same()
				if next(2) == 0 { // go on with the Fork
					b, f = b.fork(), b
				} else {
					f = b.fork()
				}
			}
			b.same()
		}
		f.same()
	}
}
