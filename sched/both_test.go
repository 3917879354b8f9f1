package sched_test

import (
	"math"
	"slices"
	"testing"

	"boatswain/api"
	"boatswain/sched"
)

const last = uint64(api.MaxTime)

// odd are numbers that are of nothing, whatever there is.
var odd = []int{math.MinInt, -1 << 32, -2, -1, 1 << 32, math.MaxInt}

// both does each call on a machine and on a plain one, and holds against each other what they answer and what they are then.
type both struct {
	t *testing.T
	m *sched.Machine
	p *plain
}

func begin(t *testing.T, c api.Config) both {
	t.Helper()
	m := sched.New(c)
	if m == nil {
		t.Fatal(c, "may be")
	}
	b := both{t, m, plainNew(c)}
	b.same()
	return b
}

// small is a machine of so many processors, with room for little: 6 threads, 2 at each place, 3 locks.
func small(t *testing.T, procs int) both {
	t.Helper()
	return begin(t, api.Config{Procs: procs, Threads: 6, Queue: 2, Mutexes: 3, Quantum: 3, Aging: 100})
}

// leap lets the time be a later one.
func (b both) leap(to uint64) {
	b.t.Helper()
	sched.Leap(b.m, to)
	b.p.now = to
	b.same()
}

func (b both) fork() both {
	b.t.Helper()
	f := both{b.t, b.m.Fork(), b.p.fork()}
	f.same()
	return f
}

// load takes a program in that is right.
func (b both) load(code ...api.Instr) int {
	b.t.Helper()
	n, e := b.tryLoad(code)
	if e != api.OK {
		b.t.Fatal(code, e)
	}
	return n
}

func (b both) tryLoad(code []api.Instr) (int, api.Errno) {
	b.t.Helper()
	n, e := b.m.Load(code)
	if wn, we := b.p.load(code); n != wn || e != we {
		b.t.Fatal("Load", code, "answers", n, e, "and not", wn, we)
	}
	b.same()
	return n, e
}

func (b both) admit(budget, period uint64) (int, api.Errno) {
	b.t.Helper()
	n, e := b.m.Admit(budget, period)
	if wn, we := b.p.admit(budget, period); n != wn || e != we {
		b.t.Fatal("Admit", budget, period, "answers", n, e, "and not", wn, we)
	}
	b.same()
	return n, e
}

func (b both) start(prog int, level byte, server int) api.Errno {
	b.t.Helper()
	l, e := b.m.Start(prog, level, server)
	wl, we := b.p.start(prog, level, server)
	b.check("Start", l, e, wl, we)
	return e
}

func (b both) step(proc int, draw uint64) []api.Event {
	b.t.Helper()
	l, e := b.m.Step(proc, draw)
	wl, we := b.p.step(proc, draw)
	b.check("Step", l, e, wl, we)
	return wl
}

func (b both) tick() []api.Event {
	b.t.Helper()
	l, wl := b.m.Tick(), b.p.tick()
	b.check("Tick", l, api.OK, wl, api.OK)
	return wl
}

// ticks lets so many go by.
func (b both) ticks(count int) {
	b.t.Helper()
	for range count {
		b.tick()
	}
}

func (b both) check(call string, l []api.Event, e api.Errno, wl []api.Event, we api.Errno) {
	b.t.Helper()
	if e != we || !slices.Equal(l, wl) {
		b.t.Fatalf("%s tells %v %d\nand not %v %d", call, l, e, wl, we)
	}
	b.same()
}

// act does a Step of a processor, which must tell just this.
func (b both) act(proc int, want ...api.Event) {
	b.t.Helper()
	if l := b.step(proc, 0); !slices.Equal(l, want) {
		b.t.Fatalf("told  %v\nwants %v", l, want)
	}
}

// tock does a Tick, which must tell just this, and Tock.
func (b both) tock(want ...api.Event) {
	b.t.Helper()
	want = append(want, api.Event{Kind: api.Tock})
	if l := b.tick(); !slices.Equal(l, want) {
		b.t.Fatalf("told  %v\nwants %v", l, want)
	}
}

// same holds all that the machine tells of itself against the plain one.
func (b both) same() {
	b.t.Helper()
	if b.m.Now() != b.p.now {
		b.t.Fatal("Now", b.m.Now(), b.p.now)
	}
	if l, want := b.m.Threads(), b.p.threads(); !slices.Equal(l, want) {
		b.t.Fatalf("Threads %+v\nand not %+v", l, want)
	}
	for proc, d := range b.p.desks {
		id, ok := b.m.Runs(proc)
		if ok != (d.runs != nobody) || ok && id != b.p.bodies[d.runs].id || !ok && id != (api.Id{}) {
			b.t.Fatal("Runs", proc, id, ok, d.runs)
		}
	}
	for at := range len(b.p.desks) + 1 {
		if l, want := b.m.Waiting(at), b.p.waiting(at); !slices.Equal(l, want) {
			b.t.Fatal("Waiting", at, l, want)
		}
	}
	for lock, want := range b.p.owners {
		if got := b.m.Owner(lock); got != want {
			b.t.Fatal("Owner", lock, got, want)
		}
	}
	for i, s := range b.p.purses {
		if b.m.Left(i) != s.left || b.m.Deadline(i) != s.deadline {
			b.t.Fatal("server", i, b.m.Left(i), b.m.Deadline(i), s)
		}
	}
	b.beyond()
}

// beyond asks for what there is not.
func (b both) beyond() {
	b.t.Helper()
	for _, n := range append(odd, len(b.p.desks), len(b.p.desks)+1) {
		if id, ok := b.m.Runs(n); ok || id != (api.Id{}) {
			b.t.Fatal("Runs", n, id, ok)
		}
	}
	for _, n := range append(odd, len(b.p.desks)+1, len(b.p.desks)+2) {
		if l := b.m.Waiting(n); len(l) != 0 {
			b.t.Fatal("Waiting", n, l)
		}
	}
	for _, n := range append(odd, len(b.p.owners), len(b.p.owners)+1) {
		if owner := b.m.Owner(n); owner != nobody {
			b.t.Fatal("Owner", n, owner)
		}
	}
	for _, n := range append(odd, len(b.p.purses), len(b.p.purses)+1) {
		if b.m.Left(n) != 0 || b.m.Deadline(n) != 0 {
			b.t.Fatal("server", n, b.m.Left(n), b.m.Deadline(n))
		}
	}
}

// thread is what is known of the one at a place.
func (b both) thread(place int) sched.Thread {
	b.t.Helper()
	for _, t := range b.m.Threads() {
		if t.Id.Place == place {
			return t
		}
	}
	b.t.Fatal("no thread at", place)
	return sched.Thread{}
}

// keyIs holds a thread's key.
func (b both) keyIs(place int, want api.Key) {
	b.t.Helper()
	if t := b.thread(place); t.Key != want {
		b.t.Fatal("the key of", place, "is", t.Key, "and not", want)
	}
}

// stateIs holds a thread's state.
func (b both) stateIs(place int, want api.State) {
	b.t.Helper()
	if t := b.thread(place); t.State != want {
		b.t.Fatal("the state of", place, "is", t.State, "and not", want)
	}
}

// first is the id of a place that was given out once.
func first(place int) api.Id { return api.Id{Place: place, Gen: 1} }

func compute(n int) api.Instr { return api.Instr{Op: api.Compute, Arg: n} }
func lock(n int) api.Instr    { return api.Instr{Op: api.Lock, Arg: n} }
func unlock(n int) api.Instr  { return api.Instr{Op: api.Unlock, Arg: n} }
func spawn(n int) api.Instr   { return api.Instr{Op: api.Spawn, Arg: n} }
func sleep(n int) api.Instr   { return api.Instr{Op: api.Sleep, Arg: n} }
func prio(n int) api.Instr    { return api.Instr{Op: api.Prio, Arg: n} }
func jump(n int) api.Instr    { return api.Instr{Op: api.Jump, Arg: n} }
func yield() api.Instr        { return api.Instr{Op: api.Yield} }
func exit() api.Instr         { return api.Instr{Op: api.Exit} }

func idle(proc int) api.Event { return api.Event{Kind: api.Idle, Proc: proc} }

// of is an event of a processor, of the thread at a place that was given out once.
func of(kind api.Kind, proc, place, arg int) api.Event {
	return api.Event{Kind: kind, Proc: proc, Thread: first(place), Arg: arg}
}

func busy(proc, place int) api.Event           { return of(api.Busy, proc, place, 0) }
func preempt(proc, place int) api.Event        { return of(api.Preempt, proc, place, 0) }
func dispatch(proc, place, at int) api.Event   { return of(api.Dispatch, proc, place, at) }
func ran(proc, place int, op api.Op) api.Event { return of(api.Ran, proc, place, int(op)) }
func granted(proc, place, lock int) api.Event  { return of(api.Granted, proc, place, lock) }
func waits(proc, place, lock int) api.Event    { return of(api.Wait, proc, place, lock) }
func born(proc, place, prog int) api.Event     { return of(api.Born, proc, place, prog) }
func gone(proc, place int) api.Event           { return of(api.Gone, proc, place, 0) }
func woke(proc, place int) api.Event           { return of(api.Woke, proc, place, 0) }
func spent(proc, place, server int) api.Event  { return of(api.Spent, proc, place, server) }
func refill(server int) api.Event              { return api.Event{Kind: api.Refill, Arg: server} }

func failed(proc, place int, op api.Op, e api.Errno) api.Event {
	return api.Event{Kind: api.Failed, Proc: proc, Thread: first(place), Arg: int(op), Err: e}
}

// rolls draws numbers below others, the same ones in each run.
func rolls(seed uint64) func(below int) int {
	return func(below int) int {
		seed = seed*6364136223846793005 + 1442695040888963407
		return int(seed >> 33 % uint64(below))
	}
}
