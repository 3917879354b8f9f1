package sched_test

import (
	"math"
	"slices"
	"testing"

	"boatswain/api"
	"boatswain/key"
	"boatswain/sched"
)

// wrongPrograms are such that are not right, each otherwise.
func wrongPrograms() [][]api.Instr {
	return [][]api.Instr{
		nil,
		{},
		{{}},
		{yield()},
		{exit(), yield()},
		{compute(0), exit()},
		{compute(api.MaxArg + 1), exit()},
		{sleep(0), exit()},
		{sleep(-1), exit()},
		{sleep(api.MaxArg + 1), exit()},
		{lock(-1), exit()},
		{lock(api.MaxMutexes), exit()},
		{unlock(api.MaxMutexes), exit()},
		{spawn(-1), exit()},
		{spawn(api.MaxProgs), exit()},
		{prio(256), exit()},
		{prio(-1), exit()},
		{jump(1)},
		{jump(-1)},
		{{Op: api.Yield, Arg: 1}, exit()},
		{{Op: api.Exit, Arg: 1}},
		{{Op: api.Exit + 1}, exit()},
		{{Op: math.MinInt, Arg: math.MaxInt}, exit()},
		slices.Repeat([]api.Instr{exit()}, api.MaxCode+1),
	}
}

// P14.1: each field at its least and its greatest, and one beyond.
func TestNew(t *testing.T) {
	least := api.Config{Procs: 1, Threads: 1, Queue: 1, Mutexes: 0, Quantum: 1, Aging: 1}
	most := api.Config{Procs: api.MaxProcs, Threads: api.MaxThreads, Queue: api.MaxQueue, Mutexes: api.MaxMutexes, Quantum: last, Aging: last}
	for _, c := range []api.Config{least, most} {
		m := sched.New(c)
		if m == nil || m.Now() != 0 || len(m.Threads()) != 0 {
			t.Error(c, m)
		}
		for proc := range c.Procs {
			if _, ok := m.Runs(proc); ok {
				t.Error(c, proc)
			}
		}
	}
	fields := []struct {
		set         func(c *api.Config, n int)
		least, most int
	}{
		{func(c *api.Config, n int) { c.Procs = n }, 1, api.MaxProcs},
		{func(c *api.Config, n int) { c.Threads = n }, 1, api.MaxThreads},
		{func(c *api.Config, n int) { c.Queue = n }, 1, api.MaxQueue},
		{func(c *api.Config, n int) { c.Mutexes = n }, 0, api.MaxMutexes},
	}
	for _, c := range []api.Config{least, most} {
		for i, f := range fields {
			for _, n := range append(odd, f.least-1, f.least, f.least+1, f.most-1, f.most, f.most+1) {
				other := c
				f.set(&other, n)
				if got := sched.New(other) != nil; got != (n >= f.least && n <= f.most) {
					t.Error("field", i, n, got)
				}
			}
		}
		for _, n := range []uint64{0, 1, 2, 1 << 63, last} {
			quantum, aging := c, c
			quantum.Quantum, aging.Aging = n, n
			if got := sched.New(quantum) != nil; got != (n > 0) {
				t.Error("Quantum", n, got)
			}
			if got := sched.New(aging) != nil; got != (n > 0) {
				t.Error("Aging", n, got)
			}
		}
	}
	if sched.New(api.Config{}) != nil {
		t.Error("a config of zeros")
	}
}

// P1: a nil machine answers nothing, and ErrNil ahead of all else.
func TestNil(t *testing.T) {
	var m *sched.Machine
	for _, n := range append(odd, 0, 1) {
		if l, e := m.Start(n, 0, n); l != nil || e != api.ErrNil {
			t.Error("Start", l, e)
		}
		if l, e := m.Step(n, 3); l != nil || e != api.ErrNil {
			t.Error("Step", l, e)
		}
		if id, ok := m.Runs(n); ok || id != (api.Id{}) {
			t.Error("Runs", id, ok)
		}
		if l := m.Waiting(n); l != nil {
			t.Error("Waiting", l)
		}
		if owner := m.Owner(n); owner != -1 {
			t.Error("Owner", owner)
		}
		if m.Left(n) != 0 || m.Deadline(n) != 0 {
			t.Error("Left", m.Left(n), "Deadline", m.Deadline(n))
		}
	}
	for _, p := range append(wrongPrograms(), []api.Instr{exit()}) {
		if n, e := m.Load(p); n != 0 || e != api.ErrNil {
			t.Error("Load", n, e)
		}
	}
	for _, n := range []uint64{0, 1, last} {
		if i, e := m.Admit(n, n); i != 0 || e != api.ErrNil {
			t.Error("Admit", i, e)
		}
	}
	if m.Tick() != nil || m.Now() != 0 || m.Threads() != nil || m.Fork() != nil {
		t.Error("Tick, Now, Threads, Fork")
	}
}

// P14.1: programs have their numbers, up to MaxProgs of them; what is not right is told ahead of what has no room.
func TestLoad(t *testing.T) {
	b := small(t, 1)
	for n := range api.MaxProgs {
		for _, p := range wrongPrograms() {
			if _, e := b.tryLoad(p); e != api.ErrForm {
				t.Fatal(p, e)
			}
		}
		if got := b.load(prio(n), exit()); got != n {
			t.Fatal(got, n)
		}
	}
	for range 2 {
		if n, e := b.tryLoad([]api.Instr{exit()}); n != 0 || e != api.ErrFull {
			t.Error(n, e)
		}
	}
	if n, e := b.tryLoad([]api.Instr{yield()}); n != 0 || e != api.ErrForm {
		t.Error(n, e)
	}
	for n := range api.MaxProgs { // each number is that of its program
		f := b.fork()
		f.start(n, 200, -1)
		f.act(0, dispatch(0, 0, 0))
		f.act(0, ran(0, 0, api.Prio))
		f.keyIs(0, key.Fixed(byte(n)))
	}
}

// P3: a program that was handed in is not kept, nor is it changed; what is answered is the caller's.
func TestHandedInAndOut(t *testing.T) {
	b := small(t, 2)
	room := []api.Instr{prio(7), yield(), exit(), lock(1), lock(2)}
	b.load(room[:3]...)
	b.load(exit())
	if !slices.Equal(room, []api.Instr{prio(7), yield(), exit(), lock(1), lock(2)}) {
		t.Error(room)
	}
	clear(room)
	for range 4 {
		b.start(0, 1, -1)
	}
	b.act(0, dispatch(0, 0, 0))
	b.act(0, ran(0, 0, api.Prio))

	born, _ := b.m.Start(1, 1, -1)
	b.p.start(1, 1, -1)
	told, _ := b.m.Step(1, 0)
	b.p.step(1, 0)
	b.same()
	tocks, threads := b.m.Tick(), b.m.Threads()
	b.p.tick()
	keep := [][]api.Event{slices.Clone(born), slices.Clone(told), slices.Clone(tocks)}
	again := b.m.Threads()
	clear(threads)
	for at := range 3 {
		l := b.m.Waiting(at)
		clear(l)
		_ = append(l, 9, 9)
	}
	b.same()
	for range 5 { // later answers do not lie in earlier ones
		b.step(0, 1)
		b.step(1, 1)
		b.tick()
	}
	if !slices.Equal(born, keep[0]) || !slices.Equal(told, keep[1]) || !slices.Equal(tocks, keep[2]) {
		t.Error(born, told, tocks)
	}
	if again[0].Id != first(0) || again[0].Level != 7 {
		t.Error(again)
	}
	clear(born)
	clear(told)
	clear(tocks)
	b.same()
}

// P14.1: Admit's answers are those of cbs.
func TestAdmit(t *testing.T) {
	b := small(t, 2)
	for _, v := range []struct {
		budget, period uint64
		n              int
		e              api.Errno
	}{
		{0, 5, 0, api.ErrRange},
		{6, 5, 0, api.ErrRange},
		{0, 0, 0, api.ErrRange},
		{1, 23, 0, api.ErrRange},
		{last, last, 0, api.ErrRange},
		{5, 5, 0, api.OK},
		{1, 2, 1, api.OK},
		{3, 5, 0, api.ErrLoad},
		{2, 4, 2, api.OK},
		{1, api.Hyper, 0, api.ErrLoad},
	} {
		if n, e := b.admit(v.budget, v.period); n != v.n || e != v.e {
			t.Error(v, n, e)
		}
	}
	full := small(t, 1)
	for n := range api.MaxServers {
		if got, e := full.admit(1, 60); got != n || e != api.OK {
			t.Error(n, got, e)
		}
	}
	if n, e := full.admit(1, api.Hyper); n != 0 || e != api.ErrFull {
		t.Error(n, e)
	}
}

// P14.1: what is not there is told ahead of what has no room, and changes nothing.
func TestStartIsRefused(t *testing.T) {
	b := begin(t, api.Config{Procs: 2, Threads: 2, Queue: 1, Quantum: 1, Aging: 1})
	if e := b.start(0, 1, -1); e != api.ErrRange {
		t.Error("no program at all:", e)
	}
	b.load(exit())
	b.load(yield(), exit())
	b.admit(1, 2)
	refused := func(full bool) {
		t.Helper()
		for _, prog := range append(odd, 2, 3, api.MaxProgs) {
			for _, server := range []int{-1, 0} {
				if e := b.start(prog, 1, server); e != api.ErrRange {
					t.Error(prog, server, e)
				}
			}
		}
		for _, server := range append(slices.DeleteFunc(slices.Clone(odd), func(n int) bool { return n == -1 }), 1, 2, api.MaxServers) {
			if e := b.start(0, 1, server); e != api.ErrRange {
				t.Error(server, e)
			}
		}
		if full {
			for _, server := range []int{-1, 0} {
				if e := b.start(1, 255, server); e != api.ErrFull {
					t.Error(server, e)
				}
			}
		}
	}
	refused(false)
	b.start(0, 4, -1)
	refused(false)
	b.start(1, 5, 0)
	refused(true)
	b.ticks(3)
	refused(true)
	if b.m.Deadline(0) != 2 {
		t.Error("a Start that is refused woke a server:", b.m.Deadline(0))
	}
}

// P14.1: who is Started is told as Born, and is Ready at processor 0; when that is full, at the place that all share.
func TestStart(t *testing.T) {
	b := begin(t, api.Config{Procs: 3, Threads: 4, Queue: 2, Quantum: 1, Aging: 10})
	b.load(exit())
	b.load(yield(), exit())
	b.admit(2, 10)
	b.ticks(7)
	for n, v := range []struct {
		prog   int
		level  byte
		server int
		k      api.Key
	}{
		{1, 0, -1, key.Fixed(0)},
		{0, 255, -1, key.Fixed(255)},
		{1, 9, 0, key.Dead(17)},
		{0, 9, -1, key.Fixed(9)},
	} {
		l, e := b.m.Start(v.prog, v.level, v.server)
		if e != api.OK || !slices.Equal(l, []api.Event{born(0, n, v.prog)}) {
			t.Fatal(l, e)
		}
		b.p.start(v.prog, v.level, v.server)
		b.same()
		want := sched.Thread{Id: first(n), State: api.Ready, Key: v.k, Level: v.level, Server: v.server}
		if got := b.thread(n); got != want {
			t.Error(got, want)
		}
	}
	if got := b.m.Waiting(0); !slices.Equal(got, []int{1, 0}) {
		t.Error("at processor 0:", got)
	}
	if got := b.m.Waiting(3); !slices.Equal(got, []int{2, 3}) {
		t.Error("at the shared place:", got)
	}
}

// P14.2: which processors there are.
func TestStepOfNoProcessor(t *testing.T) {
	for _, procs := range []int{1, 2, api.MaxProcs} {
		b := small(t, procs)
		b.load(exit())
		b.start(0, 1, -1)
		for _, proc := range append(odd, procs, procs+1) {
			if l, e := b.m.Step(proc, 0); l != nil || e != api.ErrRange {
				t.Error(proc, l, e)
			}
			b.same()
		}
		b.act(procs-1, dispatch(procs-1, 0, 0))
	}
}

// The example of chapter 14.
func TestExample(t *testing.T) {
	b := small(t, 1)
	b.load(exit())
	b.start(0, 5, -1)
	b.act(0, dispatch(0, 0, 0))
	b.act(0, ran(0, 0, api.Exit), gone(0, 0))
	b.act(0, idle(0))
}

// The first example of the whole: urgency is handed on till the lock is given up.
func TestExampleOfUrgency(t *testing.T) {
	b := small(t, 1)
	b.load(lock(0), compute(1), unlock(0), exit())
	b.start(0, 1, -1)
	b.act(0, dispatch(0, 0, 0))
	b.act(0, ran(0, 0, api.Lock), granted(0, 0, 0))
	b.start(0, 9, -1)
	b.act(0, preempt(0, 0), dispatch(0, 1, 0))
	b.act(0, ran(0, 1, api.Lock), waits(0, 1, 0))
	b.keyIs(0, key.Fixed(9))
	b.stateIs(1, api.Blocked)
	b.start(0, 8, -1) // less urgent than what was handed on
	b.act(0, dispatch(0, 0, 0))
	b.act(0, ran(0, 0, api.Compute))
	b.act(0, busy(0, 0))
	b.tock()
	b.act(0, ran(0, 0, api.Unlock), granted(0, 1, 0))
	b.keyIs(0, key.Fixed(1))
	b.act(0, preempt(0, 0), dispatch(0, 1, 0))
}

// The second example of the whole: by deadline for 2 ticks, then by level till the period is over.
func TestExampleOfBudget(t *testing.T) {
	b := small(t, 1)
	b.load(compute(9), exit())
	b.admit(2, 5)
	b.start(0, 3, 0)
	b.keyIs(0, key.Dead(5))
	b.act(0, dispatch(0, 0, 0))
	b.act(0, ran(0, 0, api.Compute))
	b.tock()
	b.keyIs(0, key.Dead(5))
	b.tock(spent(0, 0, 0))
	b.keyIs(0, key.Fixed(3))
	b.tock()
	b.tock()
	b.keyIs(0, key.Fixed(3))
	b.tock(refill(0))
	b.keyIs(0, key.Dead(10))
}

// P14.2: a processor that runs nothing, and finds nothing, tells Idle; nothing else becomes of it.
func TestIdle(t *testing.T) {
	b := small(t, 3)
	for proc := range 3 {
		b.act(proc, idle(proc))
	}
	b.load(compute(2), exit())
	b.start(0, 1, -1)
	b.act(2, dispatch(2, 0, 0))
	b.act(0, idle(0)) // what another one runs is not to be had
	b.tock()
	b.act(1, idle(1))
}

// P14.2: a Dispatch tells where the thread stood: at the processor's own place, at the shared one, at another processor's.
func TestDispatchTellsThePlace(t *testing.T) {
	b := begin(t, api.Config{Procs: 3, Threads: 4, Queue: 1, Quantum: 5, Aging: 100})
	b.load(sleep(1), compute(5), exit())
	b.start(0, 9, -1)
	b.act(1, dispatch(1, 0, 0))
	b.act(1, ran(1, 0, api.Sleep))
	b.start(0, 8, -1)
	b.start(0, 7, -1)
	b.tock(woke(1, 0))
	if got := [][]int{b.m.Waiting(0), b.m.Waiting(1), b.m.Waiting(2), b.m.Waiting(3)}; !slices.EqualFunc(got, [][]int{{1}, {0}, nil, {2}}, slices.Equal) {
		t.Fatal(got)
	}
	b.act(2, dispatch(2, 0, 1))
	b.act(0, dispatch(0, 1, 0))
	b.act(1, dispatch(1, 2, 3))
	for place, proc := range []int{2, 0, 1} {
		if got := b.thread(place); got.Proc != proc || got.State != api.Running {
			t.Error(got)
		}
		if id, ok := b.m.Runs(proc); id != first(place) || !ok {
			t.Error(id, ok)
		}
	}
}

// P14.2: of places that are alike, the draw says which other processor's goes first.
func TestDraw(t *testing.T) {
	b := begin(t, api.Config{Procs: 4, Threads: 8, Queue: 8, Quantum: 5, Aging: 100})
	b.load(sleep(1), exit())
	for place := range 3 {
		b.start(0, 9, -1)
		b.act(place+1, dispatch(place+1, place, 0))
		b.act(place+1, ran(place+1, place, api.Sleep))
	}
	b.tock(woke(1, 0), woke(2, 1), woke(3, 2))
	for draw, place := range map[uint64]int{0: 0, 1: 1, 2: 2, 3: 0, 4: 0, 5: 1, last - 3: 0, last - 2: 1, last - 1: 2, last: 0} {
		f := b.fork()
		if l := f.step(0, draw); !slices.Equal(l, []api.Event{dispatch(0, place, place+1)}) {
			t.Error(draw, l)
		}
	}
	b.act(2, dispatch(2, 1, 2)) // its own goes first, whatever is drawn
}

// P14.2: what is more urgent goes first; the step does nothing else.
func TestPreempt(t *testing.T) {
	b := small(t, 2)
	b.load(compute(3), exit())
	b.start(0, 4, -1)
	b.act(1, dispatch(1, 0, 0))
	b.act(1, ran(1, 0, api.Compute))
	b.start(0, 3, -1)
	b.act(1, busy(1, 0))
	b.start(0, 5, -1)
	b.act(1, preempt(1, 0), dispatch(1, 2, 0))
	if got := b.m.Waiting(1); !slices.Equal(got, []int{0}) {
		t.Error("put back elsewhere:", got)
	}
	if got := b.thread(0); got.State != api.Ready || got.Left != 3 || got.At != 1 || got.Proc != 1 {
		t.Error(got)
	}
	if got := b.thread(2); got.At != 0 || got.Left != 0 {
		t.Error("more was done than a Dispatch:", got)
	}
	b.act(0, dispatch(0, 0, 1)) // the more urgent one, from the other processor's place
	b.tock()
	if got := b.thread(0); got.Left != 2 {
		t.Error(got)
	}
}

// P14.2: a deadline goes ahead of all levels, and the less one ahead of the greater one.
func TestPreemptByDeadline(t *testing.T) {
	b := small(t, 1)
	b.load(compute(9), exit())
	b.admit(3, 10)
	b.admit(2, 5)
	b.start(0, 255, -1)
	b.act(0, dispatch(0, 0, 0))
	b.start(0, 0, 0)
	b.act(0, preempt(0, 0), dispatch(0, 1, 0))
	b.start(0, 0, 1)
	b.act(0, preempt(0, 1), dispatch(0, 2, 0))
	b.tock()
	b.act(0, ran(0, 2, api.Compute))
	b.tock(spent(0, 2, 1))
	b.act(0, preempt(0, 2), dispatch(0, 1, 1)) // processor 0 had no room for it
}

// P14.2: B that is as urgent as C: without a mark C goes on; with one it is put back, behind B.
func TestSameUrgency(t *testing.T) {
	b := small(t, 1)
	b.load(compute(9), exit())
	b.start(0, 6, -1)
	b.start(0, 6, -1)
	b.act(0, dispatch(0, 0, 0))
	b.act(0, ran(0, 0, api.Compute))
	b.ticks(2)
	b.act(0, busy(0, 0)) // 2 of 3
	b.tock()
	b.act(0, preempt(0, 0), dispatch(0, 1, 0))
	b.act(0, ran(0, 1, api.Compute)) // a Dispatch takes the mark away
	b.ticks(2)
	b.act(0, busy(0, 1))
	b.tock()
	b.act(0, preempt(0, 1), dispatch(0, 0, 0))
}

// P14.2: the same with deadlines: of two of one server.
func TestSameDeadline(t *testing.T) {
	b := begin(t, api.Config{Procs: 1, Threads: 3, Queue: 3, Quantum: 2, Aging: 100})
	b.load(compute(9), exit())
	b.admit(9, 10)
	b.start(0, 1, 0)
	b.start(0, 200, 0)
	b.act(0, dispatch(0, 0, 0))
	b.act(0, ran(0, 0, api.Compute))
	b.tock()
	b.act(0, busy(0, 0))
	b.tock()
	b.act(0, preempt(0, 0), dispatch(0, 1, 0))
}

// P14.2: a mark does nothing where C is more urgent, or nothing is ready, but it stays.
func TestMarkStays(t *testing.T) {
	b := small(t, 1)
	b.load(compute(20), exit())
	b.start(0, 6, -1)
	b.act(0, dispatch(0, 0, 0))
	b.act(0, ran(0, 0, api.Compute))
	b.ticks(3)
	b.act(0, busy(0, 0)) // nothing is ready
	b.start(0, 5, -1)
	b.act(0, busy(0, 0)) // what is ready is less urgent
	b.ticks(1)
	b.start(0, 6, -1)
	b.act(0, preempt(0, 0), dispatch(0, 2, 0))
}

// P14.2: a mark puts C back, and if B stands elsewhere, C's own place goes first: C is taken again.
func TestMarkTakesTheSameAgain(t *testing.T) {
	b := begin(t, api.Config{Procs: 2, Threads: 3, Queue: 2, Quantum: 2, Aging: 100})
	b.load(compute(20), exit())
	b.start(0, 6, -1)
	b.act(1, dispatch(1, 0, 0))
	b.start(0, 6, -1)
	b.act(1, ran(1, 0, api.Compute))
	b.ticks(2)
	b.act(1, preempt(1, 0), dispatch(1, 0, 1))
	b.act(1, busy(1, 0)) // not marked any more
	b.tock()
	b.act(1, busy(1, 0))
	b.tock()
	b.act(1, preempt(1, 0), dispatch(1, 0, 1))
}

// P14.2, P14.4: a Quantum of 1 marks at each tick.
func TestQuantumOfOne(t *testing.T) {
	b := begin(t, api.Config{Procs: 1, Threads: 3, Queue: 3, Quantum: 1, Aging: 100})
	b.load(compute(20), exit())
	b.start(0, 6, -1)
	b.start(0, 6, -1)
	b.act(0, dispatch(0, 0, 0))
	b.act(0, ran(0, 0, api.Compute))
	for n := range 6 {
		b.tock()
		b.act(0, preempt(0, n%2), dispatch(0, 1-n%2, 0))
	}
}

// P14.4: a slice comes to the Quantum just when its thread gives the processor up: the mark is not the next one's.
func TestMarkIsNotTheNextOnes(t *testing.T) {
	for _, give := range []api.Instr{yield(), sleep(1), exit(), lock(0)} {
		b := begin(t, api.Config{Procs: 1, Threads: 4, Queue: 4, Mutexes: 1, Quantum: 2, Aging: 100})
		b.load(compute(2), give, exit())
		b.load(compute(9), exit())
		if give.Op == api.Lock {
			b.load(lock(0), sleep(5), exit())
			b.start(2, 9, -1)
			b.step(0, 0)
			b.step(0, 0)
			b.step(0, 0) // it sleeps, and holds the lock
		} else {
			b.start(1, 0, -1) // takes a place, and never runs here
		}
		b.start(0, 6, -1)
		b.act(0, dispatch(0, 1, 0))
		b.act(0, ran(0, 1, api.Compute))
		b.ticks(2)
		b.step(0, 0) // it gives the processor up, marked
		if _, ok := b.m.Runs(0); ok {
			t.Fatal(give, "runs on")
		}
		b.start(1, 7, -1)
		b.start(1, 7, -1)
		l := b.step(0, 0)
		if len(l) != 1 || l[0].Kind != api.Dispatch {
			t.Fatal(l)
		}
		place := l[0].Thread.Place
		if l := b.step(0, 0); l[0].Kind != api.Ran {
			t.Error(give, "marked still:", l)
		}
		b.tick()
		if l := b.step(0, 0); l[0].Kind != api.Busy || l[0].Thread.Place != place {
			t.Error(give, "a slice that was not begun anew:", l)
		}
		b.tick()
		if l := b.step(0, 0); l[0].Kind != api.Preempt {
			t.Error(give, l)
		}
	}
}

// Words, P14.2: who waits rises; who is taken keeps what it has risen to; who becomes ready has lost it.
func TestLift(t *testing.T) {
	b := begin(t, api.Config{Procs: 1, Threads: 4, Queue: 4, Quantum: 50, Aging: 2})
	b.load(compute(20), yield(), exit())
	b.start(0, 250, -1)
	b.act(0, dispatch(0, 0, 0))
	b.start(0, 10, -1)
	b.ticks(1)
	b.keyIs(1, key.Fixed(10))
	b.ticks(1)
	b.keyIs(1, key.Fixed(11))
	b.ticks(5)
	b.keyIs(1, key.Fixed(13))
	b.keyIs(0, key.Fixed(250)) // who runs does not rise
	b.ticks(600)
	b.keyIs(1, key.Fixed(255))
	b.act(0, preempt(0, 0), dispatch(0, 1, 0))
	b.keyIs(1, key.Fixed(255))
	if got := b.thread(1).Level; got != 10 {
		t.Error("the level itself rose:", got)
	}
	b.keyIs(0, key.Fixed(250))
	b.tock()
	b.act(0, ran(0, 1, api.Compute))
	b.tock()
	b.keyIs(1, key.Fixed(255))
	b.keyIs(0, key.Fixed(251))
	b.ticks(7)
	b.keyIs(0, key.Fixed(254))
	b.tock()
	b.act(0, busy(0, 1)) // as urgent, and no mark
	b.ticks(40)
	b.act(0, preempt(0, 1), dispatch(0, 0, 0)) // marked
	b.keyIs(1, key.Fixed(10))
	b.keyIs(0, key.Fixed(255))
}

// Words, P14.3: a lift is lost by Prio, also by one to the same level.
func TestLiftIsLostByPrio(t *testing.T) {
	for _, level := range []int{0, 10, 13, 255} {
		b := begin(t, api.Config{Procs: 1, Threads: 4, Queue: 4, Quantum: 50, Aging: 2})
		b.load(prio(level), compute(9), exit())
		b.start(0, 10, -1)
		b.ticks(6)
		b.act(0, dispatch(0, 0, 0))
		b.keyIs(0, key.Fixed(13))
		b.start(0, 12, -1)
		b.act(0, ran(0, 0, api.Prio))
		b.keyIs(0, key.Fixed(byte(level)))
		if got := b.thread(0).Level; got != byte(level) {
			t.Error(got)
		}
		if level < 12 {
			b.act(0, preempt(0, 0), dispatch(0, 1, 0))
		} else {
			b.act(0, ran(0, 0, api.Compute))
		}
	}
}

// Words: a lift is lost by becoming ready (Yield), and by what comes ahead of that (Sleep, Lock): there the level alone counts.
func TestLiftIsLostByBecomingReady(t *testing.T) {
	b := begin(t, api.Config{Procs: 1, Threads: 4, Queue: 4, Mutexes: 1, Quantum: 50, Aging: 2})
	b.load(yield(), sleep(2), lock(0), exit())
	b.load(lock(0), sleep(9), exit())
	b.start(0, 10, -1)
	b.ticks(6)
	b.act(0, dispatch(0, 0, 0))
	b.keyIs(0, key.Fixed(13))
	b.act(0, ran(0, 0, api.Yield))
	b.keyIs(0, key.Fixed(10))
	b.ticks(2)
	b.act(0, dispatch(0, 0, 0))
	b.keyIs(0, key.Fixed(11))
	b.act(0, ran(0, 0, api.Sleep))
	b.keyIs(0, key.Fixed(10))
	b.start(1, 3, -1)
	b.act(0, dispatch(0, 1, 0))
	b.act(0, ran(0, 1, api.Lock), granted(0, 1, 0))
	b.act(0, ran(0, 1, api.Sleep))
	b.tock()
	b.tock(woke(0, 0))
	b.ticks(4)
	b.act(0, dispatch(0, 0, 0))
	b.keyIs(0, key.Fixed(12))
	b.act(0, ran(0, 0, api.Lock), waits(0, 0, 0))
	b.keyIs(0, key.Fixed(10))
	b.keyIs(1, key.Fixed(10))
}

// TO SETTLE goes by places: two that rise to one level at one tick stand then by their places, however they stood.
func TestSettleGoesByPlaces(t *testing.T) {
	b := begin(t, api.Config{Procs: 1, Threads: 4, Queue: 4, Quantum: 50, Aging: 3})
	b.load(exit())
	b.load(yield(), yield(), exit())
	b.start(0, 1, -1)
	b.start(1, 1, -1)
	b.act(0, dispatch(0, 0, 0))
	b.act(0, ran(0, 0, api.Exit), gone(0, 0))
	b.act(0, dispatch(0, 1, 0))
	b.act(0, ran(0, 1, api.Yield))
	if l, _ := b.m.Start(1, 1, -1); l[0].Thread != (api.Id{Place: 0, Gen: 2}) {
		t.Fatal(l)
	}
	b.p.start(1, 1, -1)
	b.same()
	if got := b.m.Waiting(0); !slices.Equal(got, []int{1, 0}) {
		t.Fatal(got)
	}
	b.ticks(2)
	if got := b.m.Waiting(0); !slices.Equal(got, []int{1, 0}) {
		t.Fatal("nothing rose yet:", got)
	}
	b.ticks(1)
	if got := b.m.Waiting(0); !slices.Equal(got, []int{0, 1}) {
		t.Fatal(got)
	}
}

// P14.3: what computes, jumps and goes on, told with its Op.
func TestComputeAndJump(t *testing.T) {
	b := small(t, 1)
	b.load(compute(api.MaxArg), jump(0))
	b.load(jump(0))
	b.start(0, 5, -1)
	b.act(0, dispatch(0, 0, 0))
	b.act(0, ran(0, 0, api.Compute))
	for left := api.MaxArg; left > 0; left-- {
		if l, _ := b.m.Step(0, 0); !slices.Equal(l, []api.Event{busy(0, 0)}) {
			t.Fatal(left, l)
		}
		b.m.Tick()
	}
	for range api.MaxArg {
		b.p.tick()
	}
	b.act(0, ran(0, 0, api.Jump))
	b.act(0, ran(0, 0, api.Compute))
	b.start(1, 6, -1)
	b.act(0, preempt(0, 0), dispatch(0, 1, 0))
	for range 4 {
		b.act(0, ran(0, 1, api.Jump)) // to itself
	}
}

// P14.3: of Prio the least and the greatest level; who is less urgent then gives way in the next step.
func TestPrio(t *testing.T) {
	b := small(t, 1)
	b.load(prio(255), prio(0), exit())
	b.load(exit())
	b.start(0, 7, -1)
	b.act(0, dispatch(0, 0, 0))
	b.act(0, ran(0, 0, api.Prio))
	b.keyIs(0, key.Fixed(255))
	b.start(1, 254, -1)
	b.act(0, ran(0, 0, api.Prio))
	b.keyIs(0, key.Fixed(0))
	b.act(0, preempt(0, 0), dispatch(0, 1, 0))
}

// P14.3: a Yield goes behind those that are as urgent; alone it is taken again.
func TestYield(t *testing.T) {
	b := small(t, 2)
	b.load(yield(), jump(0))
	b.start(0, 5, -1)
	b.act(1, dispatch(1, 0, 0))
	b.act(1, ran(1, 0, api.Yield))
	if _, ok := b.m.Runs(1); ok || !slices.Equal(b.m.Waiting(1), []int{0}) {
		t.Error("not here:", b.m.Waiting(1))
	}
	b.act(1, dispatch(1, 0, 1))
	b.act(1, ran(1, 0, api.Jump))
	b.start(0, 5, -1)
	b.start(0, 5, -1)
	b.act(0, dispatch(0, 1, 0))
	b.act(0, ran(0, 1, api.Yield))
	b.act(0, dispatch(0, 2, 0))
}

// P14.3: a Spawn: of the spawner's level, without a server, ready here.
func TestSpawn(t *testing.T) {
	b := small(t, 3)
	b.load(spawn(1), prio(44), spawn(0), exit())
	b.load(compute(1), exit())
	b.admit(3, 10)
	b.start(0, 33, 0)
	b.act(2, dispatch(2, 0, 0))
	b.act(2, ran(2, 0, api.Spawn), born(2, 1, 1))
	want := sched.Thread{Id: first(1), State: api.Ready, Key: key.Fixed(33), Level: 33, Server: -1}
	if got := b.thread(1); got != want {
		t.Error(got, want)
	}
	if got := b.m.Waiting(2); !slices.Equal(got, []int{1}) {
		t.Error("not here:", got)
	}
	b.act(2, ran(2, 0, api.Prio))
	b.act(2, ran(2, 0, api.Spawn), born(2, 2, 0))
	if got := b.thread(2); got.Level != 44 || got.Server != -1 || got.Key != key.Fixed(44) {
		t.Error(got)
	}
}

// P14.3: a lift is not spawned: who rose has its level still.
func TestSpawnIsOfTheLevel(t *testing.T) {
	b := begin(t, api.Config{Procs: 1, Threads: 4, Queue: 4, Quantum: 50, Aging: 2})
	b.load(spawn(0), exit())
	b.start(0, 10, -1)
	b.ticks(8)
	b.act(0, dispatch(0, 0, 0))
	b.act(0, ran(0, 0, api.Spawn), born(0, 1, 0))
	b.keyIs(0, key.Fixed(14))
	b.keyIs(1, key.Fixed(10))
}

// P14.3, P14.9: a Spawn of no program, and one into a full table.
func TestSpawnFails(t *testing.T) {
	b := begin(t, api.Config{Procs: 1, Threads: 2, Queue: 2, Quantum: 50, Aging: 2})
	b.load(spawn(1), spawn(api.MaxProgs-1), spawn(0), spawn(0), spawn(1), jump(3))
	b.start(0, 10, -1)
	b.act(0, dispatch(0, 0, 0))
	b.act(0, failed(0, 0, api.Spawn, api.ErrRange))
	b.act(0, failed(0, 0, api.Spawn, api.ErrRange))
	b.act(0, ran(0, 0, api.Spawn), born(0, 1, 0))
	b.act(0, failed(0, 0, api.Spawn, api.ErrFull))
	b.act(0, failed(0, 0, api.Spawn, api.ErrRange)) // full, but what is not there is told first
	b.load(exit())
	b.act(0, ran(0, 0, api.Jump))
	b.act(0, failed(0, 0, api.Spawn, api.ErrFull))
	b.act(0, failed(0, 0, api.Spawn, api.ErrFull)) // there now
}

// P14.3: the place of one that ended is given out again, as another one.
func TestPlaceIsGivenOutAgain(t *testing.T) {
	b := begin(t, api.Config{Procs: 1, Threads: 1, Queue: 1, Mutexes: 1, Quantum: 50, Aging: 2})
	b.load(lock(0), prio(9), exit())
	b.admit(1, 2)
	for gen := uint32(1); gen < 5; gen++ {
		id := api.Id{Gen: gen}
		b.start(0, 3, -1+int(gen%2))
		if got := b.thread(0); got.Id != id || got.At != 0 || got.Level != 3 || got.Proc != 0 {
			t.Error(got)
		}
		b.act(0, api.Event{Kind: api.Dispatch, Thread: id})
		b.act(0, api.Event{Kind: api.Ran, Thread: id, Arg: int(api.Lock)}, api.Event{Kind: api.Granted, Thread: id})
		b.act(0, api.Event{Kind: api.Ran, Thread: id, Arg: int(api.Prio)})
		b.act(0, api.Event{Kind: api.Ran, Thread: id, Arg: int(api.Exit)}, api.Event{Kind: api.Gone, Thread: id})
		if b.m.Owner(0) != -1 || len(b.m.Threads()) != 0 {
			t.Error(b.m.Owner(0), b.m.Threads())
		}
		b.tock()
	}
}

// P4, P14.5: of a machine and its Fork each goes its own way: programs, servers, threads, locks, sleepers, marks and the time.
func TestFork(t *testing.T) {
	for count := range 9 { // whatever room lists have behind their ends
		b := small(t, 2)
		for range count {
			b.load(exit())
			b.admit(1, 20)
		}
		f := b.fork()
		b.load(prio(11), exit())
		f.load(prio(22), exit())
		b.admit(1, 5)
		f.admit(2, 4)
		b.same()
		f.same()
		for _, v := range []struct {
			both
			level byte
		}{{b, 11}, {f, 22}} {
			v.start(count, 1, count)
			v.act(0, dispatch(0, 0, 0))
			v.act(0, ran(0, 0, api.Prio))
			if got := v.thread(0).Level; got != v.level {
				t.Error(count, got)
			}
		}
		if b.m.Deadline(count) != 5 || f.m.Deadline(count) != 4 {
			t.Error(b.m.Deadline(count), f.m.Deadline(count))
		}
	}
}

// P4: a Fork in the midst of all: what sleeps, waits, is ready, computes and is marked goes on in each by itself.
func TestForkInTheMidst(t *testing.T) {
	b := small(t, 2)
	b.load(lock(0), sleep(4), unlock(0), exit())
	b.load(compute(9), exit())
	b.admit(3, 6)
	b.start(0, 9, -1)
	b.act(0, dispatch(0, 0, 0))
	b.run(0, 0, 2)
	b.start(0, 8, -1)
	b.act(0, dispatch(0, 1, 0))
	b.run(0, 1, 1)
	b.start(1, 7, -1)
	b.start(1, 6, 0)
	b.act(0, dispatch(0, 3, 0))
	b.act(0, ran(0, 3, api.Compute))
	b.act(1, dispatch(1, 2, 0))
	b.ticks(2)
	f, g := b.fork(), b.fork()
	b.ticks(9)
	b.act(0, preempt(0, 3), dispatch(0, 0, 0))
	f.same()
	f.tock(spent(0, 3, 0)) // and marked
	f.tock(woke(0, 0))
	f.act(1, preempt(1, 2), dispatch(1, 0, 0))
	f.act(1, ran(1, 0, api.Unlock), granted(1, 1, 0))
	f.act(1, ran(1, 0, api.Exit), gone(1, 0))
	g.same()
	h := g.fork()
	g.start(1, 5, -1)
	g.step(1, 0)
	g.ticks(5)
	h.same()
	b.same()
}
