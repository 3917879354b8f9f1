package sched_test

import (
	"slices"
	"testing"

	"boatswain/api"
	"boatswain/key"
)

// run lets a processor act till it has told so many instructions (Ran or Failed) of a thread.
func (b both) run(proc, place, count int) {
	b.t.Helper()
	for count > 0 {
		for _, e := range b.step(proc, 0) {
			if e.Thread.Place == place && (e.Kind == api.Ran || e.Kind == api.Failed) {
				count--
			}
			if e.Kind == api.Idle || e.Kind == api.Busy || e.Kind != api.Granted && e.Thread.Place != place && e.Kind != api.Preempt {
				b.t.Fatal("another way than was asked for:", e)
			}
		}
	}
}

// P14.3: a machine without locks: none is there, and nothing becomes of it.
func TestNoLocks(t *testing.T) {
	b := begin(t, api.Config{Procs: 1, Threads: 1, Queue: 1, Mutexes: 0, Quantum: 1, Aging: 1})
	b.load(lock(0), unlock(0), lock(api.MaxMutexes-1), unlock(api.MaxMutexes-1), exit())
	b.start(0, 5, -1)
	b.act(0, dispatch(0, 0, 0))
	b.act(0, failed(0, 0, api.Lock, api.ErrRange))
	b.act(0, failed(0, 0, api.Unlock, api.ErrRange))
	b.act(0, failed(0, 0, api.Lock, api.ErrRange))
	b.act(0, failed(0, 0, api.Unlock, api.ErrRange))
	b.act(0, ran(0, 0, api.Exit), gone(0, 0))
	if b.m.Owner(0) != -1 {
		t.Error(b.m.Owner(0))
	}
}

// P14.3: the last lock that there is, and one beyond.
func TestLastLock(t *testing.T) {
	b := small(t, 1)
	b.load(lock(2), lock(3), unlock(3), unlock(2), exit())
	b.start(0, 5, -1)
	b.act(0, dispatch(0, 0, 0))
	b.act(0, ran(0, 0, api.Lock), granted(0, 0, 2))
	b.act(0, failed(0, 0, api.Lock, api.ErrRange))
	b.act(0, failed(0, 0, api.Unlock, api.ErrRange))
	b.act(0, ran(0, 0, api.Unlock))
	if b.m.Owner(2) != -1 {
		t.Error(b.m.Owner(2))
	}
}

// P14.3, P14.9: a lock that is held already, and an Unlock of one that is not held: by nobody, by another one.
func TestLocksThatFail(t *testing.T) {
	b := small(t, 1)
	b.load(lock(0), lock(0), unlock(1), unlock(0), unlock(0), exit())
	b.load(unlock(0), sleep(1), exit())
	b.start(0, 5, -1)
	b.act(0, dispatch(0, 0, 0))
	b.act(0, ran(0, 0, api.Lock), granted(0, 0, 0))
	b.act(0, failed(0, 0, api.Lock, api.ErrOwn))
	b.act(0, failed(0, 0, api.Unlock, api.ErrOwner))
	b.start(1, 9, -1)
	b.act(0, preempt(0, 0), dispatch(0, 1, 0))
	b.act(0, failed(0, 1, api.Unlock, api.ErrOwner))
	if b.m.Owner(0) != 0 {
		t.Error(b.m.Owner(0))
	}
	b.act(0, ran(0, 1, api.Sleep))
	b.act(0, dispatch(0, 0, 0))
	b.act(0, ran(0, 0, api.Unlock))
	b.act(0, failed(0, 0, api.Unlock, api.ErrOwner))
}

// P14.3, E3: a Lock that would close a circle fails: of two, and through a third one.
func TestCircles(t *testing.T) {
	two := small(t, 2)
	two.load(lock(0), yield(), lock(1), unlock(0), exit())
	two.load(lock(1), lock(0), lock(0), exit())
	two.start(0, 5, -1)
	two.act(0, dispatch(0, 0, 0))
	two.act(0, ran(0, 0, api.Lock), granted(0, 0, 0))
	two.start(1, 6, -1)
	two.act(1, dispatch(1, 1, 0))
	two.run(1, 1, 1)
	two.act(1, ran(1, 1, api.Lock), waits(1, 1, 0))
	two.keyIs(0, key.Fixed(6))
	two.run(0, 0, 1)
	two.act(0, dispatch(0, 0, 0))
	two.act(0, failed(0, 0, api.Lock, api.ErrCycle))
	two.stateIs(0, api.Running)
	two.act(0, ran(0, 0, api.Unlock), granted(0, 1, 0))

	three := small(t, 1)
	three.load(lock(0), sleep(1), lock(1), exit())
	three.load(lock(1), sleep(1), lock(2), exit())
	three.load(lock(2), sleep(1), lock(0), exit())
	for n := range 3 {
		three.start(n, byte(9-n), -1)
		three.act(0, dispatch(0, n, 0))
		three.run(0, n, 2)
	}
	three.tock(woke(0, 0), woke(0, 1), woke(0, 2))
	three.act(0, dispatch(0, 0, 0))
	three.act(0, ran(0, 0, api.Lock), waits(0, 0, 1))
	three.keyIs(1, key.Fixed(9))
	three.act(0, dispatch(0, 1, 0))
	three.act(0, ran(0, 1, api.Lock), waits(0, 1, 2))
	three.keyIs(2, key.Fixed(9))
	three.act(0, dispatch(0, 2, three.p.c.Procs)) // it stood at the shared place
	three.act(0, failed(0, 2, api.Lock, api.ErrCycle))
	three.stateIs(2, api.Running)
	if three.m.Owner(0) != 0 || three.m.Owner(1) != 1 || three.m.Owner(2) != 2 {
		t.Error(three.m.Owner(0), three.m.Owner(1), three.m.Owner(2))
	}
	three.act(0, ran(0, 2, api.Exit), granted(0, 1, 2), gone(0, 2))
}

// P14.3: who waited becomes ready where it ran last, not where the lock was given up; Granted is told of the processor that acts.
func TestGrantedWhereItRanLast(t *testing.T) {
	b := small(t, 3)
	b.load(lock(0), compute(1), unlock(0), exit())
	b.start(0, 5, -1)
	b.act(0, dispatch(0, 0, 0))
	b.act(0, ran(0, 0, api.Lock), granted(0, 0, 0))
	b.start(0, 5, -1)
	b.act(2, dispatch(2, 1, 0))
	b.act(2, ran(2, 1, api.Lock), waits(2, 1, 0))
	if _, ok := b.m.Runs(2); ok {
		t.Error("it waits and runs")
	}
	b.act(2, idle(2))
	b.act(0, ran(0, 0, api.Compute))
	b.tock()
	b.act(0, ran(0, 0, api.Unlock), granted(0, 1, 0))
	if got := b.m.Waiting(2); !slices.Equal(got, []int{1}) {
		t.Error(got)
	}
	if b.m.Owner(0) != 1 {
		t.Error(b.m.Owner(0))
	}
	b.act(1, dispatch(1, 1, 2))
	b.act(1, ran(1, 1, api.Compute)) // it goes on behind its Lock
}

// P14.3: of several that wait the most urgent one has the lock; of the same the one that came first; the others hand their urgency on to it.
func TestWhoHasTheLockNext(t *testing.T) {
	b := small(t, 1)
	b.load(lock(0), sleep(1), unlock(0), exit())
	b.start(0, 9, -1)
	b.act(0, dispatch(0, 0, 0))
	b.run(0, 0, 2)
	for n, level := range []byte{3, 7, 7, 5} {
		b.start(0, level, -1)
		b.act(0, dispatch(0, n+1, 0))
		b.act(0, ran(0, n+1, api.Lock), waits(0, n+1, 0))
	}
	b.keyIs(0, key.Fixed(9))
	b.tock(woke(0, 0))
	b.act(0, dispatch(0, 0, 0))
	b.act(0, ran(0, 0, api.Unlock), granted(0, 2, 0))
	b.run(0, 0, 1) // gone
	b.act(0, dispatch(0, 2, 0))
	b.run(0, 2, 1)
	b.tock(woke(0, 2))
	b.act(0, dispatch(0, 2, 0))
	b.act(0, ran(0, 2, api.Unlock), granted(0, 3, 0))
	b.keyIs(3, key.Fixed(7))
	b.keyIs(4, key.Fixed(5))
	b.run(0, 2, 1)
	b.act(0, dispatch(0, 3, 0))
	b.run(0, 3, 1)
	b.tock(woke(0, 3))
	b.act(0, dispatch(0, 3, 0))
	b.act(0, ran(0, 3, api.Unlock), granted(0, 4, 0))
	b.keyIs(4, key.Fixed(5)) // the one of level 3 waits for it
}

// P14.6: a key goes through several locks, rises with who waits farthest behind, and a sleeper's and a ready one's rise too.
func TestUrgencyGoesThroughLocks(t *testing.T) {
	b := small(t, 1)
	b.load(lock(0), sleep(9), exit())
	b.load(lock(1), lock(0), exit())
	b.load(lock(1), exit())
	b.admit(2, 10)
	b.start(0, 1, -1)
	b.act(0, dispatch(0, 0, 0))
	b.run(0, 0, 2)
	b.keyIs(0, key.Fixed(1))
	b.start(1, 4, -1)
	b.act(0, dispatch(0, 1, 0))
	b.run(0, 1, 2)
	b.keyIs(0, key.Fixed(4))
	b.start(2, 2, 0)
	b.keyIs(2, key.Dead(10))
	b.act(0, dispatch(0, 2, 0))
	b.act(0, ran(0, 2, api.Lock), waits(0, 2, 1))
	for place := range 3 {
		b.keyIs(place, key.Dead(10)) // a server's deadline, also while it waits
	}
	b.ticks(8)
	b.tock(woke(0, 0))
	b.keyIs(0, key.Dead(10)) // ready, by what was handed on
	b.start(2, 200, -1)
	b.act(0, dispatch(0, 0, 0))
	b.act(0, ran(0, 0, api.Exit), granted(0, 1, 0), gone(0, 0))
	b.act(0, dispatch(0, 1, 0))
	b.act(0, ran(0, 1, api.Exit), granted(0, 2, 1), gone(0, 1))
	b.keyIs(2, key.Dead(10))
	b.act(0, dispatch(0, 2, 0))
}

// P14.3: an Exit that holds several locks: each goes on, rising, as by an Unlock; what nobody waits for is free.
func TestExitHandsItsLocksOn(t *testing.T) {
	b := begin(t, api.Config{Procs: 3, Threads: 8, Queue: 8, Mutexes: 6, Quantum: 50, Aging: 100})
	b.load(lock(4), lock(1), lock(3), lock(0), lock(5), exit())
	b.load(lock(4), exit())
	b.load(lock(1), exit())
	b.load(lock(3), exit())
	b.start(0, 50, -1)
	b.act(1, dispatch(1, 0, 0))
	b.run(1, 0, 5)
	for n, v := range []struct {
		prog  int
		level byte
		proc  int
	}{{1, 9, 0}, {2, 8, 2}, {3, 7, 0}, {2, 11, 0}, {1, 9, 2}} {
		b.start(v.prog, v.level, -1)
		b.act(v.proc, dispatch(v.proc, n+1, 0))
		b.run(v.proc, n+1, 1)
		b.stateIs(n+1, api.Blocked)
	}
	b.act(1, ran(1, 0, api.Exit), granted(1, 4, 1), granted(1, 3, 3), granted(1, 1, 4), gone(1, 0))
	for lock, owner := range []int{-1, 4, -1, 3, 1, -1} {
		if got := b.m.Owner(lock); got != owner {
			t.Error("lock", lock, got, owner)
		}
	}
	if got := b.m.Waiting(0); !slices.Equal(got, []int{4, 1, 3}) {
		t.Error(got)
	}
	b.keyIs(4, key.Fixed(11))
	b.keyIs(1, key.Fixed(9))
	b.stateIs(2, api.Blocked)
	b.stateIs(5, api.Blocked)
	if len(b.m.Threads()) != 5 {
		t.Error(b.m.Threads())
	}
	b.act(1, dispatch(1, 4, 0))
}

// P14.3: an Exit that holds a lock which two wait for: the second one waits on, now for the first one.
func TestExitLeavesTheOthersWaiting(t *testing.T) {
	b := small(t, 1)
	b.load(lock(0), sleep(3), exit())
	b.start(0, 1, -1)
	b.start(0, 2, -1)
	b.start(0, 3, -1)
	b.act(0, dispatch(0, 2, 1))
	b.run(0, 2, 2)
	b.act(0, dispatch(0, 1, 0))
	b.run(0, 1, 1)
	b.act(0, dispatch(0, 0, 0))
	b.run(0, 0, 1)
	b.ticks(3)
	b.act(0, dispatch(0, 2, 0))
	b.act(0, ran(0, 2, api.Exit), granted(0, 1, 0), gone(0, 2))
	b.stateIs(0, api.Blocked)
	b.stateIs(1, api.Ready)
	b.act(0, dispatch(0, 1, 0))
	b.run(0, 1, 1)
	b.ticks(3)
	b.act(0, dispatch(0, 1, 0))
	b.act(0, ran(0, 1, api.Exit), granted(0, 0, 0), gone(0, 1))
}

// P14.9: what Failed has changed nothing but its thread's frame: the one is just the other, but for At.
func TestFailedChangesNothing(t *testing.T) {
	fails := []struct {
		i api.Instr
		e api.Errno
	}{
		{lock(3), api.ErrRange}, {unlock(3), api.ErrRange},
		{lock(0), api.ErrOwn}, {lock(2), api.ErrCycle},
		{unlock(1), api.ErrOwner}, {unlock(2), api.ErrOwner},
		{spawn(9), api.ErrRange}, {spawn(0), api.ErrFull},
	}
	for _, v := range fails {
		b := begin(t, api.Config{Procs: 2, Threads: 3, Queue: 2, Mutexes: 3, Quantum: 2, Aging: 2})
		b.load(lock(0), yield(), v.i, compute(5), exit())
		b.load(lock(2), lock(0), exit())
		b.load(exit())
		b.admit(3, 10)
		b.start(0, 5, 0)
		b.act(0, dispatch(0, 0, 0))
		b.run(0, 0, 1)
		b.start(1, 9, -1)
		b.act(1, dispatch(1, 1, 0))
		b.run(1, 1, 2)
		b.run(0, 0, 1)
		b.act(0, dispatch(0, 0, 0))
		b.start(2, 1, -1)
		b.ticks(2)
		was := b.fork()
		b.act(0, failed(0, 0, v.i.Op, v.e))
		threads := b.m.Threads()
		if threads[0].At != 3 {
			t.Error(v, threads[0])
		}
		threads[0].At = 2
		if !slices.Equal(threads, was.m.Threads()) {
			t.Error(v, threads, was.m.Threads())
		}
		was.p.bodies[0].frame.At = 3
		b.p = was.p // all else must be as it was
		b.same()
		b.act(0, ran(0, 0, api.Compute))
		b.ticks(3)
	}
}
