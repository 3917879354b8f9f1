package sched_test

import (
	"slices"
	"testing"

	"boatswain/api"
	"boatswain/key"
)

// drawn is a right program: what it asks for is mostly there, and now and then not.
func drawn(roll func(int) int, c api.Config) []api.Instr {
	n := 1 + roll(10)
	var p []api.Instr
	for len(p) < n-1 {
		i := api.Instr{Op: api.Op(1 + roll(9))}
		switch i.Op {
		case api.Compute, api.Sleep:
			i.Arg = 1 + roll(5)
		case api.Lock, api.Unlock:
			i.Arg = roll(min(c.Mutexes+1, api.MaxMutexes))
		case api.Spawn:
			i.Arg = roll(8)
		case api.Prio:
			i.Arg = []int{0, 1, 2, 3, 9, 254, 255}[roll(7)]
		case api.Jump:
			i.Arg = roll(n)
		case api.Exit:
			if roll(4) > 0 {
				continue
			}
		}
		p = append(p, i)
	}
	if roll(3) > 0 {
		return append(p, jump(roll(n)))
	}
	return append(p, exit())
}

// locker is a program that takes some locks, with something to do in between, and gives most of them up again.
func locker(roll func(int) int, c api.Config) []api.Instr {
	between := func() api.Instr {
		return []api.Instr{compute(1 + roll(3)), sleep(1 + roll(2)), sleep(1), yield(), prio(roll(6))}[roll(5)]
	}
	var p []api.Instr
	var taken []int
	n, way := roll(max(1, c.Mutexes)), 1+roll(max(1, c.Mutexes-1)) // one program goes up, another one down: so circles may close
	for range 1 + roll(4) {
		n = (n + way) % max(1, c.Mutexes)
		taken = append(taken, n)
		p = append(p, lock(n), between())
	}
	if roll(5) == 0 {
		return append(p, exit())
	}
	for _, n := range taken {
		p = append(p, unlock(n), between())
	}
	return append(p, jump(0))
}

// worker is a program that is there to be put back.
func worker(roll func(int) int, _ api.Config) []api.Instr {
	return []api.Instr{compute(1 + roll(9)), yield(), compute(1 + roll(9)), sleep(1 + roll(4)), jump(roll(5))}
}

// seen counts what came up in long runs: one in which something never did says nothing of it.
type seen struct {
	kinds  [api.Tock + 1]int
	fails  map[api.Errno]int
	starts map[api.Errno]int
	quiet  int // rounds of P14.7 behind which something was ready
	deep   int // threads for which others wait through several locks
}

func (s *seen) note(l []api.Event) []api.Event {
	for _, e := range l {
		s.kinds[e.Kind]++
		if e.Kind == api.Failed {
			s.fails[e.Err]++
		}
	}
	return l
}

// charges are the times at which a server was charged.
type charges struct {
	at []uint64
}

// keep holds each stretch of time against P7.4.
func (c charges) keep(t *testing.T, budget, period uint64) {
	t.Helper()
	for from := range c.at {
		for to := from; to < len(c.at); to++ {
			long := c.at[to] - c.at[from]
			if count := uint64(to - from + 1); count > (long/period+2)*budget {
				t.Fatalf("%d by %d: %d charges in the %d ticks from %d on", budget, period, count, long, c.at[from])
			}
		}
	}
}

// long is a run on and on of one machine.
type long struct {
	both
	s       *seen
	roll    func(int) int
	charges []charges
}

// holds holds a machine against what follows from its promises, by what it tells itself; only who waits for whom is asked of the plain one.
func (l *long) holds() {
	l.t.Helper()
	l.eachIsAtOnePlace()
	for place, b := range l.p.bodies {
		if b.state == api.Free {
			continue
		}
		behind := l.p.behind(place)
		if slices.Contains(behind, place) {
			l.t.Fatal("a circle at", place)
		}
		k := l.p.ownKey(b)
		for _, other := range behind {
			k = key.Max(k, l.p.ownKey(l.p.bodies[other]))
		}
		l.keyIs(place, k) // P14.6, E3
		if len(behind) > 1 {
			l.s.deep++
		}
	}
}

// eachIsAtOnePlace: E6.
func (l *long) eachIsAtOnePlace() {
	l.t.Helper()
	count := map[int]int{}
	for proc := range l.p.c.Procs {
		if id, ok := l.m.Runs(proc); ok {
			count[id.Place] += 1
		}
	}
	for at := range l.p.c.Procs + 1 {
		for _, place := range l.m.Waiting(at) {
			count[place] += 10
		}
		if at < l.p.c.Procs && len(l.m.Waiting(at)) > l.p.c.Queue {
			l.t.Fatal("too many at", at, l.m.Waiting(at))
		}
	}
	for _, th := range l.m.Threads() {
		want := map[api.State]int{api.Running: 1, api.Ready: 10, api.Blocked: 0, api.Sleeping: 0}
		if n, ok := want[th.State]; !ok || count[th.Id.Place] != n {
			l.t.Fatal(th, "is at", count[th.Id.Place])
		}
		delete(count, th.Id.Place)
	}
	if len(count) > 0 {
		l.t.Fatal("nobody is at", count)
	}
}

// round Steps each processor once, in any order; if nothing but what P14.7 names is told, it must hold.
func (l *long) round() {
	l.t.Helper()
	order := make([]int, l.p.c.Procs)
	for i := range order {
		order[i] = i
	}
	for i := range order {
		j := i + l.roll(len(order)-i)
		order[i], order[j] = order[j], order[i]
	}
	quiet := true
	for _, proc := range order {
		for _, e := range l.s.note(l.step(proc, uint64(l.roll(9)))) {
			quiet = quiet && (e.Kind == api.Dispatch || e.Kind == api.Preempt || e.Kind == api.Idle || e.Kind == api.Busy)
		}
	}
	if quiet {
		l.urgentFirst()
	}
}

// urgentFirst: P14.7, E2.
func (l *long) urgentFirst() {
	l.t.Helper()
	for _, ready := range l.m.Threads() {
		if ready.State != api.Ready {
			continue
		}
		l.s.quiet++
		for proc := range l.p.c.Procs {
			id, ok := l.m.Runs(proc)
			if !ok {
				l.t.Fatal("processor", proc, "is idle, and", ready, "is ready")
			}
			if k := l.thread(id.Place).Key; key.Above(ready.Key, k) {
				l.t.Fatal(ready, "is more urgent than", id, k)
			}
		}
	}
}

func (l *long) tickOn() {
	l.t.Helper()
	l.s.note(l.tick())
	for _, server := range l.p.charged {
		l.charges[server].at = append(l.charges[server].at, l.p.now)
	}
}

// refused asks for what may not be.
func (l *long) refused() {
	l.t.Helper()
	n := odd[l.roll(len(odd))]
	switch l.roll(5) {
	case 0:
		l.s.starts[l.start(n, 7, -1)]++
	case 1:
		l.s.starts[l.start(0, 7, len(l.p.purses)+l.roll(3))]++
	case 2:
		if got, e := l.m.Step(n, 0); got != nil || e != api.ErrRange {
			l.t.Fatal(got, e)
		}
	case 3:
		wrong := wrongPrograms()
		l.tryLoad(wrong[l.roll(len(wrong))])
	case 4:
		l.admit(uint64(l.roll(3)), 23)
	}
	l.same()
}

// other lets a Fork go its own way for some steps: nothing of the one that it was made of may change. Then it is one of both that goes on.
func (l *long) other() {
	l.t.Helper()
	f := l.fork()
	for range 1 + l.roll(12) {
		switch l.roll(6) {
		case 0:
			f.tick()
		case 1:
			f.start(l.roll(6), byte(l.roll(256)), -1)
		case 2:
			if len(f.p.progs) < 8 {
				f.load(worker(l.roll, f.p.c)...)
			}
			f.admit(1, 60)
		default:
			f.step(l.roll(f.p.c.Procs), 0)
		}
	}
	l.same()
	if l.roll(2) == 0 {
		g := l.fork()
		l.step(l.roll(l.p.c.Procs), 0)
		l.tick()
		g.same() // and what becomes of the first one changes nothing of it
		l.both = g
	}
	f.same()
}

// deed does one of all that there is.
func (l *long) deed() {
	l.t.Helper()
	switch r := l.roll(100); {
	case r < 5:
		level := byte([]int{0, 1, 2, 3, 9, 255}[l.roll(6)])
		l.s.starts[l.start(l.roll(6), level, l.roll(len(l.p.purses)+1)-1)]++
	case r < 18:
		l.tickOn()
	case r < 30:
		l.round()
	case r < 32:
		l.refused()
	case r < 33:
		l.other()
	default:
		draw := []uint64{0, 1, 2, 3, uint64(l.roll(1 << 30)), last}[l.roll(6)]
		l.s.note(l.step(l.roll(l.p.c.Procs), draw))
	}
	l.holds()
}

// beginLong is a drawn machine with programs, servers, and some threads.
func beginLong(t *testing.T, s *seen, run uint64) *long {
	t.Helper()
	roll := rolls(run)
	c := api.Config{
		Procs:   []int{1, 2, 3, 5, 8}[roll(5)],
		Threads: 1 + roll(14),
		Queue:   1 + roll(3),
		Mutexes: []int{0, 1, 2, 2, 3, 5}[roll(6)],
		Quantum: uint64(1 + roll(4)),
		Aging:   uint64(1 + roll(9)),
	}
	l := &long{both: begin(t, c), s: s, roll: roll}
	kinds := []func(func(int) int, api.Config) []api.Instr{drawn, drawn, locker, locker, locker, worker}
	for _, k := range kinds {
		l.load(k(roll, c)...)
	}
	for range roll(5) {
		period := []uint64{1, 2, 3, 5, 10, 20}[roll(6)]
		if _, e := l.admit(1+uint64(roll(int(period))), period); e == api.OK {
			l.charges = append(l.charges, charges{})
		}
	}
	for range roll(c.Threads + 1) {
		l.start(roll(6), byte(roll(10)), roll(len(l.p.purses)+1)-1)
	}
	return l
}

// P14.1 to P14.8, E1 to E6: over long runs of every kind of deed each call tells just what the plain machine tells, and what follows holds behind each.
func TestLongRuns(t *testing.T) {
	s := &seen{fails: map[api.Errno]int{}, starts: map[api.Errno]int{}}
	for run := range uint64(80) {
		l := beginLong(t, s, run)
		for range 500 {
			l.deed()
		}
		for i, c := range l.charges {
			c.keep(t, l.p.purses[i].budget, l.p.purses[i].period) // P14.8, E4
		}
	}
	for kind := api.Idle; kind <= api.Tock; kind++ {
		if s.kinds[kind] < 40 {
			t.Error("kind", kind, "came up", s.kinds[kind], "times")
		}
	}
	for _, e := range []api.Errno{api.ErrRange, api.ErrFull, api.ErrOwn, api.ErrCycle, api.ErrOwner} {
		if s.fails[e] < 50 {
			t.Error("Failed with", e, "came up", s.fails[e], "times")
		}
	}
	for _, e := range []api.Errno{api.OK, api.ErrRange, api.ErrFull} {
		if s.starts[e] < 100 {
			t.Error("a Start with", e, "came up", s.starts[e], "times")
		}
	}
	if s.quiet < 500 || s.deep < 500 {
		t.Error("rounds of quiet:", s.quiet, "and several that wait for one:", s.deep)
	}
}

// P14.1 to P14.6: the same at the last times, where the time stands still.
func TestLongRunsAtTheEnd(t *testing.T) {
	s := &seen{fails: map[api.Errno]int{}, starts: map[api.Errno]int{}}
	for run := range uint64(12) {
		l := beginLong(t, s, 1000+run)
		l.leap(last - 20)
		for range 300 {
			l.deed()
		}
		if l.m.Now() != last {
			t.Error("too far from the end:", last-l.m.Now())
		}
	}
	if s.kinds[api.Woke] < 20 || s.kinds[api.Refill] < 20 {
		t.Error(s.kinds)
	}
}

// P14.1: a machine of the greatest size is a machine.
func TestGreatest(t *testing.T) {
	roll := rolls(77)
	c := api.Config{Procs: api.MaxProcs, Threads: api.MaxThreads, Queue: api.MaxQueue, Mutexes: api.MaxMutexes, Quantum: 2, Aging: 2}
	b := begin(t, c)
	for range api.MaxProgs {
		b.load(locker(roll, c)...)
	}
	for range api.MaxServers {
		b.admit(2, 2)
	}
	for n := range api.MaxThreads {
		l, e := b.m.Start(roll(api.MaxProgs), byte(roll(256)), roll(api.MaxServers+1)-1)
		if e != api.OK || !slices.Equal(l, []api.Event{born(0, n, l[0].Arg)}) {
			t.Fatal(l, e)
		}
	}
	if l, e := b.m.Start(0, 0, 0); l != nil || e != api.ErrFull {
		t.Error(l, e)
	}
	places := map[int]int{}
	for at := range api.MaxProcs + 1 {
		for _, place := range b.m.Waiting(at) {
			places[place]++
		}
	}
	if len(places) != api.MaxThreads || len(b.m.Waiting(0)) != api.MaxQueue || len(b.m.Waiting(api.MaxProcs)) != api.MaxThreads-api.MaxQueue {
		t.Error(len(places), len(b.m.Waiting(0)), len(b.m.Waiting(api.MaxProcs)))
	}
	for range 8 {
		for proc := range api.MaxProcs {
			if l, e := b.m.Step(proc, uint64(roll(1000))); e != api.OK || len(l) == 0 {
				t.Fatal(l, e)
			}
		}
		b.m.Tick()
	}
	running := 0
	for _, th := range b.m.Threads() {
		if th.State == api.Running {
			running++
		}
	}
	if running == 0 || b.m.Now() != 8 {
		t.Error(running, b.m.Now())
	}
}
