package pimutex_test

import (
	"math"
	"slices"
	"testing"

	"boatswain/api"
	"boatswain/key"
	"boatswain/pimutex"
)

const last = uint64(api.MaxTime)

// wait is that a thread waits for a lock.
type wait struct{ t, m int }

// plain is a graph as the document tells it: who holds what, and all that wait, as they came.
type plain struct {
	threads, mutexes int
	own              []api.Key
	holder           []int
	line             []wait
}

func newPlain(threads, mutexes int) *plain {
	p := &plain{threads: threads, mutexes: mutexes, own: make([]api.Key, threads), holder: make([]int, mutexes)}
	for m := range p.holder {
		p.holder[m] = -1
	}
	return p
}

func (p *plain) thread(t int) bool { return t >= 0 && t < p.threads }
func (p *plain) lock(m int) bool   { return m >= 0 && m < p.mutexes }

func (p *plain) owner(m int) int {
	if !p.lock(m) {
		return -1
	}
	return p.holder[m]
}

func (p *plain) waits(t int) int {
	for _, w := range p.line {
		if w.t == t {
			return w.m
		}
	}
	return -1
}

func (p *plain) waiters(m int) []int {
	var l []int
	for _, w := range p.line {
		if w.m == m {
			l = append(l, w.t)
		}
	}
	return l
}

func (p *plain) held(t int) []int {
	var l []int
	for m, holder := range p.holder {
		if holder == t && p.thread(t) {
			l = append(l, m)
		}
	}
	return l
}

// ahead are those that a thread waits for, through whatever locks; it stops when it comes to one again.
func (p *plain) ahead(t int) []int {
	var l []int
	for m := p.waits(t); m != -1; m = p.waits(l[len(l)-1]) {
		if slices.Contains(l, p.holder[m]) {
			break
		}
		l = append(l, p.holder[m])
	}
	return l
}

// key is told the other way round: each one that waits for t, through whatever locks, hands its own one on.
func (p *plain) key(t int) api.Key {
	if !p.thread(t) {
		return api.Key{}
	}
	k := p.own[t]
	for _, w := range p.line {
		if slices.Contains(p.ahead(w.t), t) && key.Above(p.own[w.t], k) {
			k = p.own[w.t]
		}
	}
	return k
}

func (p *plain) base(t int, k api.Key) api.Errno {
	if !p.thread(t) || !key.Right(k) {
		return api.ErrRange
	}
	p.own[t] = k
	return api.OK
}

func (p *plain) take(t, m int) (bool, api.Errno) {
	switch {
	case !p.thread(t) || !p.lock(m):
		return false, api.ErrRange
	case p.waits(t) != -1:
		return false, api.ErrState
	case p.holder[m] == t:
		return false, api.ErrOwn
	case p.holder[m] == -1:
		p.holder[m] = t
		return true, api.OK
	case slices.Contains(p.ahead(p.holder[m]), t):
		return false, api.ErrCycle
	}
	p.line = append(p.line, wait{t, m})
	return false, api.OK
}

func (p *plain) give(t, m int) (int, api.Errno) {
	switch {
	case !p.thread(t) || !p.lock(m):
		return -1, api.ErrRange
	case p.waits(t) != -1:
		return -1, api.ErrState
	case p.holder[m] != t:
		return -1, api.ErrOwner
	}
	l := p.waiters(m)
	p.holder[m] = -1
	for _, next := range l {
		if !slices.ContainsFunc(l, func(other int) bool { return key.Above(p.key(other), p.key(next)) }) {
			p.holder[m] = next
			p.line = slices.DeleteFunc(p.line, func(w wait) bool { return w.t == next })
			break
		}
	}
	return p.holder[m], api.OK
}

func (p *plain) fork() *plain {
	return &plain{p.threads, p.mutexes, slices.Clone(p.own), slices.Clone(p.holder), slices.Clone(p.line)}
}

// same holds all that a graph tells against what it should tell, and against what follows.
func same(t *testing.T, g *pimutex.Graph, p *plain) {
	t.Helper()
	for i := -1; i <= p.threads; i++ {
		if got, want := g.Key(i), p.key(i); got != want {
			t.Fatalf("Key(%d) is %v, want %v", i, got, want)
		}
		if got, want := g.Waits(i), p.waits(i); got != want {
			t.Fatalf("Waits(%d) is %d, want %d", i, got, want)
		}
		if got, want := g.Held(i), p.held(i); !slices.Equal(got, want) {
			t.Fatalf("Held(%d) is %v, want %v", i, got, want)
		}
	}
	for m := -1; m <= p.mutexes; m++ {
		if got, want := g.Owner(m), p.owner(m); got != want {
			t.Fatalf("Owner(%d) is %d, want %d", m, got, want)
		}
		if got, want := g.Waiters(m), p.waiters(m); !slices.Equal(got, want) {
			t.Fatalf("Waiters(%d) is %v, want %v", m, got, want)
		}
	}
	follows(t, g, p)
}

// follows holds what a graph tells against P9.3, P9.4 and P9.6, whatever the plain one says.
func follows(t *testing.T, g *pimutex.Graph, p *plain) {
	t.Helper()
	holders, lines := make([]int, p.mutexes), make([]int, p.threads)
	for i := range p.threads {
		for _, m := range g.Held(i) {
			holders[m]++
			if g.Owner(m) != i {
				t.Fatalf("%d holds %d, whose Owner is %d", i, m, g.Owner(m))
			}
		}
		if key.Above(p.own[i], g.Key(i)) {
			t.Fatalf("Key(%d) is %v, its own %v", i, g.Key(i), p.own[i])
		}
		at := i
		for steps := 0; g.Waits(at) != -1; steps++ {
			before := at
			at = g.Owner(g.Waits(at))
			if at == i || steps > p.threads {
				t.Fatalf("%d waits for itself", i)
			}
			if key.Above(g.Key(before), g.Key(at)) {
				t.Fatalf("Key(%d) is %v; %d waits for it with %v", at, g.Key(at), before, g.Key(before))
			}
		}
	}
	for m := range p.mutexes {
		for _, i := range g.Waiters(m) {
			lines[i]++
			if g.Waits(i) != m {
				t.Fatalf("%d waits for %d and for %d", i, m, g.Waits(i))
			}
		}
		if want := min(g.Owner(m)+1, 1); holders[m] != want {
			t.Fatalf("%d has %d holders, its Owner is %d", m, holders[m], g.Owner(m))
		}
	}
	for i, n := range lines {
		if want := min(g.Waits(i)+1, 1); n != want {
			t.Fatalf("%d waits %d times, Waits is %d", i, n, g.Waits(i))
		}
	}
}

// both does a step on a graph and on a plain one, and holds what they answer against each other.
type both struct {
	t *testing.T
	g *pimutex.Graph
	p *plain
}

func begin(t *testing.T, threads, mutexes int) both {
	t.Helper()
	g := pimutex.New(threads, mutexes)
	if g == nil {
		t.Fatal(threads, mutexes, "may be")
	}
	return both{t, g, newPlain(threads, mutexes)}
}

func (b both) base(i int, k api.Key) api.Errno {
	b.t.Helper()
	e := b.g.Base(i, k)
	if want := b.p.base(i, k); e != want {
		b.t.Fatalf("Base(%d, %v) is %d, want %d", i, k, e, want)
	}
	return e
}

func (b both) lock(i, m int) (bool, api.Errno) {
	b.t.Helper()
	got, e := b.g.Lock(i, m)
	if want, f := b.p.take(i, m); got != want || e != f {
		b.t.Fatalf("Lock(%d, %d) is %v %d, want %v %d", i, m, got, e, want, f)
	}
	return got, e
}

func (b both) unlock(i, m int) (int, api.Errno) {
	b.t.Helper()
	next, e := b.g.Unlock(i, m)
	if want, f := b.p.give(i, m); next != want || e != f {
		b.t.Fatalf("Unlock(%d, %d) is %d %d, want %d %d", i, m, next, e, want, f)
	}
	return next, e
}

// locks asks for a lock, of which the answer is known.
func (b both) locks(i, m int, want bool, f api.Errno) {
	b.t.Helper()
	if got, e := b.lock(i, m); got != want || e != f {
		b.t.Fatalf("Lock(%d, %d) is %v %d, want %v %d", i, m, got, e, want, f)
	}
	b.same()
}

// unlocks gives a lock up, of which the answer is known.
func (b both) unlocks(i, m, want int, f api.Errno) {
	b.t.Helper()
	if next, e := b.unlock(i, m); next != want || e != f {
		b.t.Fatalf("Unlock(%d, %d) is %d %d, want %d %d", i, m, next, e, want, f)
	}
	b.same()
}

// bases gives the first threads these keys.
func (b both) bases(keys ...api.Key) {
	b.t.Helper()
	for i, k := range keys {
		if e := b.base(i, k); e != api.OK {
			b.t.Fatal(i, k, e)
		}
	}
	b.same()
}

func (b both) keyIs(i int, want api.Key) {
	b.t.Helper()
	if k := b.g.Key(i); k != want {
		b.t.Fatalf("Key(%d) is %v, want %v", i, k, want)
	}
}

func (b both) fork() both { return both{b.t, b.g.Fork(), b.p.fork()} }

func (b both) same() {
	b.t.Helper()
	same(b.t, b.g, b.p)
}

// P9.1: numbers of threads and of locks; nobody holds or waits at first, and all keys are Fixed(0).
func TestNew(t *testing.T) {
	for _, threads := range []int{math.MinInt, -1, 0, api.MaxThreads + 1, api.MaxThreads + 2, 1<<32 + 1, math.MaxInt} {
		for _, mutexes := range []int{-1, 0, 1, api.MaxMutexes, api.MaxMutexes + 1} {
			if pimutex.New(threads, mutexes) != nil {
				t.Error(threads, mutexes, "may not be")
			}
		}
	}
	for _, mutexes := range []int{math.MinInt, -1, api.MaxMutexes + 1, api.MaxMutexes + 2, 1 << 32, math.MaxInt} {
		for _, threads := range []int{0, 1, 2, api.MaxThreads, api.MaxThreads + 1} {
			if pimutex.New(threads, mutexes) != nil {
				t.Error(threads, mutexes, "may not be")
			}
		}
	}
	for _, threads := range []int{1, 2, api.MaxThreads - 1, api.MaxThreads} {
		for _, mutexes := range []int{0, 1, 2, api.MaxMutexes - 1, api.MaxMutexes} {
			b := begin(t, threads, mutexes)
			b.same()
			b.keyIs(threads-1, key.Fixed(0))
			want := api.ErrRange
			if mutexes > 0 {
				want = api.OK
			}
			b.locks(threads-1, mutexes-1, mutexes > 0, want)
			b.locks(threads, mutexes-1, false, api.ErrRange)
			b.locks(threads-1, mutexes, false, api.ErrRange)
		}
	}
}

// P1: a nil graph.
func TestNil(t *testing.T) {
	var g *pimutex.Graph
	for _, i := range []int{math.MinInt, -1, 0, 1, api.MaxThreads, math.MaxInt} {
		for _, k := range []api.Key{key.Fixed(1), key.Dead(1), {Deadline: 1}} {
			if e := g.Base(i, k); e != api.ErrNil {
				t.Error("Base", e)
			}
		}
		for _, m := range []int{math.MinInt, -1, 0, 1, math.MaxInt} {
			if got, e := g.Lock(i, m); got || e != api.ErrNil {
				t.Error("Lock", got, e)
			}
			if next, e := g.Unlock(i, m); next != -1 || e != api.ErrNil {
				t.Error("Unlock", next, e)
			}
		}
		if g.Key(i) != (api.Key{}) || g.Owner(i) != -1 || g.Waits(i) != -1 || len(g.Waiters(i)) != 0 || len(g.Held(i)) != 0 {
			t.Error("answers of", i)
		}
	}
	if g.Fork() != nil {
		t.Error("Fork")
	}
}

// P9.1, P9.2: the document's example.
func TestExample(t *testing.T) {
	b := begin(t, 2, 1)
	b.bases(key.Fixed(7), key.Dead(5))
	b.locks(0, 0, true, api.OK)
	b.locks(1, 0, false, api.OK)
	b.keyIs(0, key.Dead(5))
	b.unlocks(0, 0, 1, api.OK)
	b.keyIs(0, key.Fixed(7))
	b.keyIs(1, key.Dead(5))
	if b.g.Owner(0) != 1 || b.g.Waits(1) != -1 {
		t.Error(b.g.Owner(0), b.g.Waits(1))
	}
}

// P9.1: Base takes the keys that are right, and those alone; a thread that nobody waits for has just that one.
func TestBase(t *testing.T) {
	b := begin(t, 3, 1)
	for _, k := range []api.Key{
		key.Fixed(0), key.Fixed(1), key.Fixed(254), key.Fixed(255), key.Fixed(0),
		key.Dead(0), key.Dead(1), key.Dead(last - 1), key.Dead(last), key.Fixed(3),
	} {
		if e := b.base(1, k); e != api.OK {
			t.Error(k, e)
		}
		b.keyIs(1, k)
		b.same()
	}
	for _, k := range []api.Key{
		{Deadline: 1}, {Deadline: last}, {Deadline: 1, Level: 1},
		{Edf: true, Level: 1}, {Edf: true, Level: 255}, {Edf: true, Deadline: 5, Level: 9}, {Edf: true, Deadline: last, Level: 255},
	} {
		if e := b.base(1, k); e != api.ErrRange {
			t.Error(k, e)
		}
		b.keyIs(1, key.Fixed(3))
		b.same()
	}
}

// P9.1, P9.2, P9.5: threads and locks of which there is none; nothing changes.
func TestWrongNumbers(t *testing.T) {
	for _, size := range [][2]int{{1, 0}, {1, 1}, {4, 3}, {api.MaxThreads, api.MaxMutexes}} {
		threads, mutexes := size[0], size[1]
		b := begin(t, threads, mutexes)
		b.base(0, key.Fixed(4))
		b.lock(0, 0)
		if threads > 1 {
			b.base(1, key.Dead(4))
			b.lock(1, 0)
		}
		for _, i := range []int{math.MinInt, -threads, -1, threads, threads + 1, 1 << 32, math.MaxInt} {
			if e := b.base(i, key.Fixed(200)); e != api.ErrRange {
				t.Error("Base", i, e)
			}
			for _, m := range []int{-1, 0, mutexes - 1, mutexes} {
				if got, e := b.lock(i, m); got || e != api.ErrRange {
					t.Error("Lock", i, m, got, e)
				}
				if next, e := b.unlock(i, m); next != -1 || e != api.ErrRange {
					t.Error("Unlock", i, m, next, e)
				}
			}
			if b.g.Key(i) != (api.Key{}) || b.g.Waits(i) != -1 || len(b.g.Held(i)) != 0 {
				t.Error("answers of", i)
			}
		}
		for _, m := range []int{math.MinInt, -mutexes - 1, -1, mutexes, mutexes + 1, 1 << 32, math.MaxInt} {
			for _, i := range []int{-1, 0, threads - 1, threads} {
				if got, e := b.lock(i, m); got || e != api.ErrRange {
					t.Error("Lock", i, m, got, e)
				}
				if next, e := b.unlock(i, m); next != -1 || e != api.ErrRange {
					t.Error("Unlock", i, m, next, e)
				}
			}
			if b.g.Owner(m) != -1 || len(b.g.Waiters(m)) != 0 {
				t.Error("answers of", m)
			}
		}
		b.same()
	}
}

// P9.1: a lock that nobody holds, that one holds oneself, and that another one holds.
func TestLock(t *testing.T) {
	b := begin(t, 3, 3)
	b.locks(0, 1, true, api.OK)
	b.locks(0, 1, false, api.ErrOwn)
	b.locks(1, 1, false, api.OK)
	b.locks(0, 1, false, api.ErrOwn)
	b.locks(2, 1, false, api.OK)
	b.locks(0, 2, true, api.OK)
	b.locks(0, 0, true, api.OK)
	if l := b.g.Held(0); !slices.Equal(l, []int{0, 1, 2}) {
		t.Error(l)
	}
	if l := b.g.Waiters(1); !slices.Equal(l, []int{1, 2}) {
		t.Error(l)
	}
}

// P9.1: those that wait stand as they came, not by their numbers or keys.
func TestWaitersAsTheyCame(t *testing.T) {
	b := begin(t, 7, 2)
	b.bases(key.Fixed(0), key.Fixed(1), key.Dead(9), key.Fixed(8), key.Dead(3), key.Fixed(8), key.Fixed(2))
	b.lock(0, 1)
	order := []int{5, 1, 4, 6, 2, 3}
	for n, i := range order {
		b.locks(i, 1, false, api.OK)
		if l := b.g.Waiters(1); !slices.Equal(l, order[:n+1]) {
			t.Error(l)
		}
	}
	b.unlocks(0, 1, 4, api.OK)
	if l := b.g.Waiters(1); !slices.Equal(l, []int{5, 1, 6, 2, 3}) {
		t.Error(l)
	}
	b.locks(0, 1, false, api.OK)
	if l := b.g.Waiters(1); !slices.Equal(l, []int{5, 1, 6, 2, 3, 0}) {
		t.Error(l)
	}
}

// P9.1: who waits may neither lock nor unlock, whatever it is; its own key may change.
func TestWhoWaits(t *testing.T) {
	b := begin(t, 3, 4)
	b.lock(0, 0)
	b.lock(1, 1)
	b.lock(2, 3)
	b.locks(1, 0, false, api.OK)
	for m := range 4 { // the one that it waits for, its own, a free one, another one's
		b.locks(1, m, false, api.ErrState)
		b.unlocks(1, m, -1, api.ErrState)
	}
	if e := b.base(1, key.Dead(2)); e != api.OK {
		t.Error(e)
	}
	b.same()
	b.keyIs(0, key.Dead(2))
	b.unlocks(0, 0, 1, api.OK)
	b.locks(1, 2, true, api.OK)
	b.unlocks(1, 1, -1, api.OK)
}

// P2: of several errors the one that is named first.
func TestErrorsInOrder(t *testing.T) {
	b := begin(t, 2, 2)
	b.lock(0, 0)
	b.lock(1, 1)
	b.lock(1, 0)
	b.locks(1, 2, false, api.ErrRange)             // it waits, too
	b.unlocks(1, 2, -1, api.ErrRange)              // it waits, too
	b.locks(1, 1, false, api.ErrState)             // it holds that one, too
	b.unlocks(1, 0, -1, api.ErrState)              // it does not hold that one, too
	b.locks(0, 0, false, api.ErrOwn)               // its holder is 0, too
	b.locks(0, 1, false, api.ErrCycle)             // not the false of one that waits
	b.unlocks(0, 1, -1, api.ErrOwner)              // another one holds it
	begin(t, 1, 1).unlocks(0, 0, -1, api.ErrOwner) // nobody holds it
}

// P9.1, P9.6: a circle of two.
func TestCircleOfTwo(t *testing.T) {
	b := begin(t, 2, 2)
	b.locks(0, 0, true, api.OK)
	b.locks(1, 1, true, api.OK)
	b.locks(0, 1, false, api.OK)
	b.locks(1, 0, false, api.ErrCycle)
	b.unlocks(1, 1, 0, api.OK) // who was refused may go on
	b.locks(1, 0, false, api.OK)
	b.unlocks(0, 0, 1, api.OK)
}

// P9.1, P9.6: circles of many, closed from each place of the chain; a lock that no chain leads to is no circle.
func TestCircleOfMany(t *testing.T) {
	for _, long := range []int{2, 3, 4, 9, api.MaxMutexes} {
		b := begin(t, long+1, long)
		for i := range long {
			b.lock(i, i)
		}
		for i := range long - 1 {
			b.locks(i, i+1, false, api.OK)
		}
		for m := range long - 1 { // the last one is waited for by all
			b.locks(long-1, m, false, api.ErrCycle)
		}
		b.locks(long-1, long-1, false, api.ErrOwn)
		for m := range long { // one that holds nothing closes none
			f := b.fork()
			f.locks(long, m, false, api.OK)
		}
		b.unlocks(long-1, long-1, long-2, api.OK)
		b.locks(long-1, 0, false, api.OK)
	}
}

// P9.6: a circle through several locks of one, of which only one is waited for.
func TestCircleThroughSeveral(t *testing.T) {
	b := begin(t, 4, 6)
	for m, i := range []int{0, 0, 1, 1, 2, 2} {
		b.locks(i, m, true, api.OK)
	}
	b.locks(0, 3, false, api.OK)
	b.locks(1, 4, false, api.OK)
	for m := range 4 {
		b.locks(2, m, false, api.ErrCycle)
	}
	b.locks(3, 1, false, api.OK)
	b.unlocks(2, 5, -1, api.OK)
	b.unlocks(2, 4, 1, api.OK)
	b.locks(2, 0, false, api.OK)
	b.locks(1, 1, false, api.ErrCycle)
}

// P9.1: Unlock with none, with one and with many that wait.
func TestUnlock(t *testing.T) {
	b := begin(t, 5, 2)
	b.locks(0, 0, true, api.OK)
	b.unlocks(0, 0, -1, api.OK)
	b.unlocks(0, 0, -1, api.ErrOwner)
	b.locks(1, 0, true, api.OK)
	b.locks(2, 0, false, api.OK)
	b.unlocks(2, 0, -1, api.ErrState)
	b.unlocks(0, 0, -1, api.ErrOwner)
	b.unlocks(1, 0, 2, api.OK)
	b.unlocks(1, 0, -1, api.ErrOwner)
	for _, i := range []int{4, 1, 3, 0} {
		b.locks(i, 0, false, api.OK)
	}
	for _, step := range [][2]int{{2, 4}, {4, 1}, {1, 3}, {3, 0}, {0, -1}} { // of the same keys as they came
		b.unlocks(step[0], 0, step[1], api.OK)
	}
	if b.g.Owner(0) != -1 {
		t.Error(b.g.Owner(0))
	}
}

// P9.1: of different keys the most urgent one goes first, of the same the one that came first.
func TestUnlockByKeys(t *testing.T) {
	b := begin(t, 10, 1)
	b.bases(key.Fixed(9), key.Fixed(0), key.Fixed(255), key.Dead(last), key.Dead(0), key.Fixed(255), key.Dead(0), key.Fixed(1), key.Dead(7), key.Dead(last))
	b.lock(0, 0)
	for _, i := range []int{1, 5, 9, 2, 6, 4, 7, 3, 8} {
		b.locks(i, 0, false, api.OK)
	}
	at := 0
	for _, next := range []int{6, 4, 8, 9, 3, 5, 2, 7, 1} {
		b.unlocks(at, 0, next, api.OK)
		at = next
	}
	b.unlocks(1, 0, -1, api.OK)
}

// P9.1: a waiter's key is the one with what was handed on to it, not its own.
func TestUnlockByWhatIsHandedOn(t *testing.T) {
	b := begin(t, 5, 3)
	b.bases(key.Fixed(0), key.Fixed(2), key.Fixed(5), key.Fixed(9), key.Fixed(9))
	b.lock(0, 0)
	b.lock(1, 1)
	b.locks(2, 0, false, api.OK)
	b.locks(4, 0, false, api.OK)
	b.locks(1, 0, false, api.OK)
	f := b.fork()
	b.base(3, key.Dead(1))
	b.locks(3, 1, false, api.OK) // 1 is as urgent as 3 from now on
	b.unlocks(0, 0, 1, api.OK)
	f.locks(3, 1, false, api.OK) // as urgent as 4, which came first
	f.unlocks(0, 0, 4, api.OK)
	f.unlocks(4, 0, 1, api.OK)
	f.unlocks(1, 0, 2, api.OK)
}

// P9.1: what counts is the key at the Unlock, not the one at the Lock.
func TestUnlockAfterBase(t *testing.T) {
	b := begin(t, 4, 1)
	b.bases(key.Fixed(1), key.Fixed(1), key.Fixed(2), key.Fixed(3))
	for i := range 4 {
		b.lock(i, 0)
	}
	b.base(1, key.Fixed(4))
	b.base(3, key.Fixed(0))
	b.unlocks(0, 0, 1, api.OK)
	b.base(3, key.Fixed(2))
	b.unlocks(1, 0, 2, api.OK)
}

// P9.2, P9.4: a chain of many threads: what its last one's key becomes, all ahead of it have.
func TestChain(t *testing.T) {
	long := api.MaxMutexes
	b := begin(t, long+1, long)
	for i := range long {
		b.base(i, key.Fixed(byte(i)))
		b.lock(i, i)
	}
	for i := 1; i < long; i++ {
		b.lock(i, i-1)
	}
	b.locks(long, long-1, false, api.OK)
	for _, k := range []api.Key{key.Fixed(100), key.Dead(last), key.Dead(5), key.Dead(0), key.Dead(6), key.Fixed(255), key.Fixed(byte(long))} {
		b.base(long, k)
		b.same()
		for i := range long {
			b.keyIs(i, k)
		}
	}
	b.base(long, key.Fixed(7)) // less than those in the midst of it
	b.same()
	b.keyIs(0, key.Fixed(byte(long-1)))
	b.keyIs(long, key.Fixed(7))
	b.base(long-1, key.Fixed(0))
	b.same()
	b.keyIs(0, key.Fixed(byte(long-2)))
	b.keyIs(long-1, key.Fixed(7))
	b.base(long, key.Dead(1))
	b.unlocks(0, 0, 1, api.OK)
	b.keyIs(0, key.Fixed(0))
	b.keyIs(1, key.Dead(1))
}

// P9.2: several locks, each with several that wait; each Unlock takes back what was handed on through it alone.
func TestSeveralLocks(t *testing.T) {
	b := begin(t, 6, 3)
	b.bases(key.Fixed(1), key.Fixed(20), key.Dead(30), key.Fixed(40), key.Fixed(50), key.Dead(8))
	for m := range 3 {
		b.lock(0, m)
	}
	b.locks(1, 0, false, api.OK)
	b.keyIs(0, key.Fixed(20))
	b.locks(2, 1, false, api.OK)
	b.keyIs(0, key.Dead(30))
	b.locks(3, 1, false, api.OK)
	b.keyIs(0, key.Dead(30))
	b.locks(4, 2, false, api.OK)
	b.locks(5, 2, false, api.OK)
	b.keyIs(0, key.Dead(8))
	b.unlocks(0, 2, 5, api.OK)
	b.keyIs(0, key.Dead(30))
	b.keyIs(5, key.Dead(8))
	b.unlocks(0, 1, 2, api.OK)
	b.keyIs(0, key.Fixed(20))
	b.unlocks(0, 0, 1, api.OK)
	b.keyIs(0, key.Fixed(1))
	b.unlocks(5, 2, 4, api.OK)
	b.keyIs(5, key.Dead(8))
}

// P9.1: all threads at one lock, and all of them at once behind a chain of all locks.
func TestMany(t *testing.T) {
	g := pimutex.New(api.MaxThreads, api.MaxMutexes)
	for i := range api.MaxThreads {
		g.Base(i, key.Dead(uint64(i%7)))
		if got, e := g.Lock(i, 31); got != (i == 0) || e != api.OK {
			t.Fatal(i, got, e)
		}
	}
	if n := len(g.Waiters(31)); n != api.MaxThreads-1 {
		t.Fatal(n)
	}
	at := 0
	for low := range 7 {
		for i := range api.MaxThreads {
			if i%7 != low || i == 0 {
				continue
			}
			if next, e := g.Unlock(at, 31); next != i || e != api.OK {
				t.Fatalf("Unlock is %d %d, want %d", next, e, i)
			}
			at = i
		}
	}
	if next, e := g.Unlock(at, 31); next != -1 || e != api.OK {
		t.Fatal(next, e)
	}
	for m := range api.MaxMutexes {
		g.Base(m, key.Fixed(byte(m)))
		g.Lock(m, m)
	}
	for m := range api.MaxMutexes - 1 {
		if got, e := g.Lock(m, m+1); got || e != api.OK {
			t.Fatal(m, got, e)
		}
	}
	if got, e := g.Lock(api.MaxMutexes-1, 0); got || e != api.ErrCycle {
		t.Fatal(got, e)
	}
	for i := api.MaxMutexes; i < api.MaxThreads; i++ {
		if got, e := g.Lock(i, 0); got || e != api.OK {
			t.Fatal(i, got, e)
		}
	}
	if k := g.Key(api.MaxMutexes - 1); k != key.Dead(0) { // somebody's was that all along
		t.Fatal(k)
	}
	for i := api.MaxMutexes; i < api.MaxThreads; i++ {
		g.Base(i, key.Fixed(7))
	}
	if k := g.Key(3); k != key.Fixed(7) {
		t.Fatal(k)
	}
	g.Base(api.MaxThreads-1, key.Dead(0))
	for i := range api.MaxMutexes {
		if k := g.Key(i); k != key.Dead(0) {
			t.Fatal(i, k)
		}
	}
}

// P9.2: looks change nothing.
func TestLooks(t *testing.T) {
	b := begin(t, 4, 3)
	b.bases(key.Fixed(1), key.Fixed(2), key.Dead(3))
	b.lock(0, 0)
	b.lock(1, 1)
	b.lock(1, 0)
	b.lock(2, 1)
	for range 3 {
		b.keyIs(0, key.Dead(3))
		if b.g.Owner(0) != 0 || b.g.Waits(2) != 1 || !slices.Equal(b.g.Waiters(0), []int{1}) || !slices.Equal(b.g.Held(1), []int{1}) {
			t.Error(b.g.Owner(0), b.g.Waits(2), b.g.Waiters(0), b.g.Held(1))
		}
		b.same()
	}
}

// P3: lists that were answered are the caller's, with the room behind them.
func TestListsAreTheCallers(t *testing.T) {
	b := begin(t, 8, 4)
	for m := range 3 {
		b.lock(0, m)
	}
	for i := 1; i < 6; i++ {
		b.lock(i, 2)
	}
	waiters, held := b.g.Waiters(2), b.g.Held(0)
	for _, l := range [][]int{b.g.Waiters(2), b.g.Held(0)} {
		l = l[:cap(l)]
		for i := range l {
			l[i] = 7
		}
	}
	b.same()
	b.locks(6, 2, false, api.OK)
	b.unlocks(0, 2, 1, api.OK)
	b.locks(7, 2, false, api.OK)
	if !slices.Equal(waiters, []int{1, 2, 3, 4, 5}) || !slices.Equal(held, []int{0, 1, 2}) {
		t.Error(waiters, held)
	}
}

// P9.2, P4: a graph and its Fork are the same at first, and each its own from then on.
func TestFork(t *testing.T) {
	b := begin(t, 6, 3)
	b.bases(key.Fixed(1), key.Fixed(2), key.Fixed(3), key.Dead(4))
	b.lock(0, 0)
	b.lock(1, 1)
	b.lock(1, 0)
	b.lock(2, 0)
	f := b.fork()
	f.same()
	b.locks(3, 0, false, api.OK)
	f.locks(4, 0, false, api.OK)
	b.same()
	f.same()
	f.base(4, key.Dead(2))
	f.unlocks(0, 0, 4, api.OK)
	b.same()
	b.unlocks(0, 0, 3, api.OK)
	f.same()
	b.locks(5, 2, true, api.OK)
	f.locks(3, 2, true, api.OK)
	f.unlocks(4, 0, 2, api.OK)
	b.base(2, key.Dead(0))
	b.same()
	f.same()
	g := f.fork()
	g.same()
	g.unlocks(2, 0, 1, api.OK)
	f.locks(5, 0, false, api.OK)
	b.same()
	f.same()
	g.same()
	begin(t, 1, 0).fork().same()
}

// P4: both let one wait behind the same ones: neither line lies in the other's room.
func TestForkWaits(t *testing.T) {
	for count := range 40 {
		b := begin(t, count+3, 1)
		for i := range count + 1 {
			b.lock(i, 0)
		}
		f := b.fork()
		b.lock(count+1, 0)
		f.lock(count+2, 0)
		b.same()
		f.same()
	}
}

// rolls draws numbers below one, always the same ones.
func rolls(seed uint64) func(below int) int {
	return func(below int) int {
		seed = seed*6364136223846793005 + 1442695040888963407
		return int(seed >> 33 % uint64(below))
	}
}

// P9.1 to P9.6, P4, P6: long runs of every deed, wrong ones too, against the plain graph; Forks stay as they were.
func TestLongRuns(t *testing.T) {
	keys := []api.Key{
		key.Fixed(0), key.Fixed(1), key.Fixed(2), key.Fixed(2), key.Fixed(9), key.Fixed(255),
		key.Dead(0), key.Dead(3), key.Dead(4), key.Dead(last), {Deadline: 3}, {Edf: true, Level: 1},
	}
	for _, size := range [][2]int{{1, 1}, {2, 2}, {3, 3}, {4, 2}, {6, 6}, {9, 5}, {16, 12}, {40, api.MaxMutexes}} {
		threads, mutexes := size[0], size[1]
		b := begin(t, threads, mutexes)
		f := b.fork()
		next := rolls(uint64(threads))
		seen := map[api.Errno]int{}
		for range 60000 / (threads + 8) {
			i, m := next(threads+2)-1, next(mutexes+2)-1
			kind := next(20)
			switch {
			case kind < 3:
				seen[b.base(i, keys[next(len(keys))])]++
			case kind < 11:
				_, e := b.lock(i, m)
				seen[e]++
			case kind < 18:
				if l := b.g.Held(i); len(l) > 0 && kind < 16 {
					m = l[next(len(l))]
				}
				_, e := b.unlock(i, m)
				seen[e]++
			case kind == 19:
				f.same()
				f = b.fork()
				if next(2) == 0 { // go on with the Fork
					b, f = f, b
				}
			}
			b.same()
		}
		for _, e := range []api.Errno{api.OK, api.ErrRange, api.ErrOwn, api.ErrOwner} {
			if seen[e] == 0 {
				t.Error(size, "never came to", e)
			}
		}
		if threads > 1 && (seen[api.ErrState] == 0 || seen[api.ErrCycle] == 0) {
			t.Error(size, "nobody waited, or no circle was tried:", seen)
		}
	}
}
