package sched_test

import (
	"slices"
	"testing"

	"boatswain/api"
	"boatswain/key"
)

// P14.3, P14.4: who sleeps is woken when its time has come, where it ran last, and goes on behind its Sleep.
func TestSleep(t *testing.T) {
	b := small(t, 2)
	b.load(sleep(3), exit())
	b.start(0, 5, -1)
	b.act(1, dispatch(1, 0, 0))
	b.act(1, ran(1, 0, api.Sleep))
	b.stateIs(0, api.Sleeping)
	if _, ok := b.m.Runs(1); ok {
		t.Error("it sleeps and runs")
	}
	b.act(1, idle(1))
	b.tock()
	b.tock()
	b.stateIs(0, api.Sleeping)
	b.tock(woke(1, 0))
	if got := b.m.Waiting(1); !slices.Equal(got, []int{0}) {
		t.Error(got)
	}
	b.act(0, dispatch(0, 0, 1))
	b.act(0, ran(0, 0, api.Exit), gone(0, 0))
}

// P14.1, P14.3: a Sleep of 0 is of no right program; the least is 1: till the next tick. The greatest is MaxArg.
func TestLeastAndGreatestSleep(t *testing.T) {
	b := small(t, 1)
	for _, n := range []int{-1, 0, api.MaxArg + 1} {
		if _, e := b.tryLoad([]api.Instr{sleep(n), exit()}); e != api.ErrForm {
			t.Error(n, e)
		}
	}
	b.load(sleep(1), sleep(api.MaxArg), exit())
	b.start(0, 5, -1)
	b.act(0, dispatch(0, 0, 0))
	b.act(0, ran(0, 0, api.Sleep))
	b.tock(woke(0, 0))
	b.act(0, dispatch(0, 0, 0))
	b.act(0, ran(0, 0, api.Sleep))
	for range api.MaxArg - 1 {
		if l := b.m.Tick(); len(l) != 1 {
			t.Fatal(b.m.Now(), l)
		}
		b.p.tick()
	}
	b.tock(woke(0, 0))
}

// P14.4: several that wake at one tick: as they fell asleep, whatever their places and Args.
func TestSeveralWake(t *testing.T) {
	b := begin(t, api.Config{Procs: 2, Threads: 6, Queue: 2, Quantum: 50, Aging: 100})
	b.load(sleep(3), exit())
	b.load(sleep(2), exit())
	b.load(sleep(1), exit())
	b.load(compute(1), exit())
	b.start(3, 9, -1)
	b.start(2, 1, -1)
	b.start(1, 2, -1)
	b.start(0, 3, -1)
	b.start(0, 4, -1)
	b.act(1, dispatch(1, 0, 0))
	b.act(0, dispatch(0, 4, 2))
	b.act(0, ran(0, 4, api.Sleep))
	b.act(1, ran(1, 0, api.Compute))
	b.act(0, dispatch(0, 3, 2))
	b.act(0, ran(0, 3, api.Sleep))
	b.tock()
	b.act(1, ran(1, 0, api.Exit), gone(1, 0))
	b.act(1, dispatch(1, 2, 2))
	b.act(1, ran(1, 2, api.Sleep))
	b.tock()
	b.act(1, dispatch(1, 1, 0))
	b.act(1, ran(1, 1, api.Sleep))
	b.tock(woke(0, 4), woke(0, 3), woke(1, 2), woke(1, 1))
	if got := [][]int{b.m.Waiting(0), b.m.Waiting(1)}; !slices.EqualFunc(got, [][]int{{4, 3}, {2, 1}}, slices.Equal) {
		t.Error(got)
	}
}

// P14.4: those that wake find the room that there is, one behind the other.
func TestSeveralWakeIntoLittleRoom(t *testing.T) {
	b := begin(t, api.Config{Procs: 2, Threads: 4, Queue: 1, Quantum: 50, Aging: 100})
	b.load(sleep(2), exit())
	for place := range 4 {
		b.start(0, byte(9-place), -1)
		b.act(1, dispatch(1, place, 0))
		b.act(1, ran(1, place, api.Sleep))
	}
	b.tock()
	b.tock(woke(1, 0), woke(1, 1), woke(1, 2), woke(1, 3))
	if got := [][]int{b.m.Waiting(0), b.m.Waiting(1), b.m.Waiting(2)}; !slices.EqualFunc(got, [][]int{nil, {0}, {1, 2, 3}}, slices.Equal) {
		t.Error(got)
	}
}

// P14.3, P14.4: at the last times: a Sleep that would pass MaxTime ends there, and the time stays there.
func TestLastTimes(t *testing.T) {
	b := small(t, 1)
	b.load(sleep(5), sleep(1), exit())
	b.leap(last - 2)
	b.start(0, 5, -1)
	b.act(0, dispatch(0, 0, 0))
	b.act(0, ran(0, 0, api.Sleep))
	b.tock()
	b.stateIs(0, api.Sleeping)
	b.tock(woke(0, 0))
	if b.m.Now() != last {
		t.Error(b.m.Now())
	}
	b.act(0, dispatch(0, 0, 0))
	b.act(0, ran(0, 0, api.Sleep))
	b.tock(woke(0, 0)) // nothing is later than now
	if b.m.Now() != last {
		t.Error(b.m.Now())
	}
	b.act(0, dispatch(0, 0, 0))
	b.act(0, ran(0, 0, api.Exit), gone(0, 0))
	b.tock()
}

// P14.3: a Sleep that comes just to MaxTime, and one of the tick ahead.
func TestSleepUpToTheLastTime(t *testing.T) {
	for arg, ticks := range map[int]int{9: 9, 10: 10, 11: 10, api.MaxArg: 10} {
		b := small(t, 1)
		b.load(sleep(arg), exit())
		b.leap(last - 10)
		b.start(0, 5, -1)
		b.step(0, 0)
		b.step(0, 0)
		for range ticks - 1 {
			b.tock()
		}
		b.tock(woke(0, 0))
	}
}

// P14.4, E4: a server's thread is charged while it runs alone, tells Spent, runs on by its level, and by a new deadline when it is filled.
func TestServer(t *testing.T) {
	b := small(t, 1)
	b.load(compute(50), exit())
	b.admit(2, 6)
	if b.m.Left(0) != 0 || b.m.Deadline(0) != 0 {
		t.Error("it sleeps till something of it is ready")
	}
	b.tock()
	b.start(0, 3, 0)
	if b.m.Left(0) != 2 || b.m.Deadline(0) != 7 {
		t.Error(b.m.Left(0), b.m.Deadline(0))
	}
	b.ticks(2) // ready, and not charged
	b.act(0, dispatch(0, 0, 0))
	b.act(0, ran(0, 0, api.Compute))
	b.tock()
	b.start(0, 4, -1)
	b.act(0, busy(0, 0)) // a deadline, against the greater level
	b.tock(spent(0, 0, 0))
	b.keyIs(0, key.Fixed(3))
	b.act(0, preempt(0, 0), dispatch(0, 1, 0))
	b.tock()
	b.tock(refill(0)) // nothing of it runs: it is filled all the same
	b.keyIs(0, key.Dead(13))
	b.act(0, preempt(0, 1), dispatch(0, 0, 0))
}

// Words: a thread of a server that is not Active runs by its level, from its beginning on.
func TestServerThatIsNotActive(t *testing.T) {
	b := small(t, 1)
	b.load(compute(50), exit())
	b.admit(1, 10)
	b.start(0, 3, 0)
	b.act(0, dispatch(0, 0, 0))
	b.tock(spent(0, 0, 0))
	b.start(0, 8, 0) // its deadline is not over: it is not woken
	if b.m.Left(0) != 0 || b.m.Deadline(0) != 10 {
		t.Error(b.m.Left(0), b.m.Deadline(0))
	}
	b.keyIs(1, key.Fixed(8))
	b.act(0, preempt(0, 0), dispatch(0, 1, 0))
	b.tock() // no Charge of what is not Active
	b.ticks(7)
	b.tock(refill(0))
	b.keyIs(0, key.Dead(20))
	b.keyIs(1, key.Dead(20))
	b.tock(spent(0, 1, 0))
}

// P14.4: two processors that run threads of one server charge it both; what is spent by the first one is not to be had by the second one.
func TestServerOfTwoProcessors(t *testing.T) {
	b := small(t, 3)
	b.load(compute(50), exit())
	b.admit(5, 10)
	for place := range 3 {
		b.start(0, byte(place), 0)
		b.step(2-place, 0)
	}
	b.tock()
	if b.m.Left(0) != 2 {
		t.Error(b.m.Left(0))
	}
	b.tock(spent(1, 1, 0)) // processors 0 and 1, rising
	if b.m.Left(0) != 0 {
		t.Error(b.m.Left(0))
	}
	b.tock()
}

// P14.4: several servers are spent and filled at one tick: by processors, then by numbers; then who wakes; then Tock.
func TestOrderOfATick(t *testing.T) {
	b := begin(t, api.Config{Procs: 3, Threads: 6, Queue: 6, Quantum: 50, Aging: 100})
	b.load(compute(50), exit())
	b.load(sleep(6), exit())
	b.admit(3, 6)
	b.admit(6, 6)
	b.admit(1, 3)
	b.start(1, 200, -1)
	b.start(1, 200, -1)
	for place := range 2 {
		b.act(0, dispatch(0, place, 0))
		b.act(0, ran(0, place, api.Sleep))
	}
	b.start(0, 3, 1)
	b.act(2, dispatch(2, 2, 0))
	b.start(0, 3, 2)
	b.act(1, dispatch(1, 3, 0))
	b.start(0, 3, 0)
	b.act(0, dispatch(0, 4, 0))
	b.tock(spent(1, 3, 2))
	b.tock()
	b.tock(spent(0, 4, 0), refill(2))
	b.tock(spent(1, 3, 2))
	b.tock()
	b.tock(spent(2, 2, 1), refill(0), refill(1), refill(2), woke(0, 0), woke(0, 1))
	for i, deadline := range []uint64{12, 12, 9} {
		if b.m.Deadline(i) != deadline {
			t.Error(i, b.m.Deadline(i))
		}
	}
}

// Words: who was Running and becomes ready does not wake its server; who was Blocked or Sleeping does.
func TestWhoWakesAServer(t *testing.T) {
	b := small(t, 1)
	b.load(yield(), yield(), sleep(1), jump(0))
	b.admit(5, 6)
	b.start(0, 3, 0)
	b.ticks(8) // its deadline is over, its budget is whole
	b.keyIs(0, key.Dead(6))
	b.act(0, dispatch(0, 0, 0))
	b.act(0, ran(0, 0, api.Yield))
	if b.m.Deadline(0) != 6 || b.m.Left(0) != 5 {
		t.Error("woken by a Yield:", b.m.Deadline(0), b.m.Left(0))
	}
	b.act(0, dispatch(0, 0, 0))
	b.tock()
	b.load(compute(3), exit())
	b.start(1, 1, -1)
	b.act(0, ran(0, 0, api.Yield))
	b.act(0, dispatch(0, 0, 0))
	b.act(0, ran(0, 0, api.Sleep))
	b.tock(woke(0, 0))
	if b.m.Deadline(0) != 16 || b.m.Left(0) != 5 {
		t.Error("not woken behind a Sleep:", b.m.Deadline(0), b.m.Left(0))
	}
	b.keyIs(0, key.Dead(16))
}

// Words: who is put back was Running: that wakes no server either.
func TestWhoIsPutBackWakesNoServer(t *testing.T) {
	b := small(t, 1)
	b.load(compute(9), exit())
	b.admit(5, 6)
	b.start(0, 3, 0)
	b.start(0, 3, 0)
	b.ticks(8)
	b.act(0, dispatch(0, 0, 0))
	b.ticks(3)
	b.act(0, preempt(0, 0), dispatch(0, 1, 0)) // marked
	if b.m.Deadline(0) != 6 || b.m.Left(0) != 2 {
		t.Error(b.m.Deadline(0), b.m.Left(0))
	}
}

// Words: who has waited for a lock wakes its server.
func TestWhoWakesAServerBehindALock(t *testing.T) {
	b := small(t, 1)
	b.load(compute(1), lock(0), exit())
	b.load(lock(0), sleep(9), exit())
	b.admit(5, 6)
	b.start(1, 9, -1)
	b.act(0, dispatch(0, 0, 0))
	b.run(0, 0, 2)
	b.start(0, 3, 0)
	b.act(0, dispatch(0, 1, 0))
	b.act(0, ran(0, 1, api.Compute))
	b.ticks(1)
	b.act(0, ran(0, 1, api.Lock), waits(0, 1, 0))
	b.keyIs(0, key.Dead(6))
	b.ticks(7)
	b.tock(woke(0, 0))
	b.act(0, dispatch(0, 0, 0))
	b.act(0, ran(0, 0, api.Exit), granted(0, 1, 0), gone(0, 0))
	b.keyIs(1, key.Dead(15))
	if b.m.Left(0) != 5 {
		t.Error(b.m.Left(0))
	}
	b.act(0, dispatch(0, 1, 0))
	b.ticks(4)
	b.tock(spent(0, 1, 0))
	b.keyIs(1, key.Fixed(3))
	b.tock(refill(0))
	b.keyIs(1, key.Dead(21))
}

// Words: a Wake changes the keys of all that the server has, wherever they are.
func TestWakeChangesTheOthers(t *testing.T) {
	b := small(t, 1)
	b.load(sleep(7), exit())
	b.load(compute(9), exit())
	b.admit(5, 6)
	b.start(0, 3, 0)
	b.act(0, dispatch(0, 0, 0))
	b.act(0, ran(0, 0, api.Sleep))
	b.start(1, 3, 0)
	b.start(1, 200, 0)
	b.act(0, dispatch(0, 1, 0))
	b.ticks(3)
	b.keyIs(2, key.Dead(6))
	b.act(0, preempt(0, 1), dispatch(0, 2, 0)) // marked
	b.ticks(1)
	b.tock(spent(0, 2, 0))
	b.keyIs(1, key.Fixed(3))
	b.tock(refill(0))
	b.keyIs(1, key.Dead(12))
	b.keyIs(2, key.Dead(12))
	b.keyIs(0, key.Dead(12))
}

// P14.4: a Tick lets all compute that run, and none else.
func TestTickLetsThemCompute(t *testing.T) {
	b := small(t, 2)
	b.load(compute(5), exit())
	b.start(0, 3, -1)
	b.start(0, 4, -1)
	b.start(0, 5, -1)
	b.act(0, dispatch(0, 2, 2))
	b.act(1, dispatch(1, 1, 0))
	b.act(0, ran(0, 2, api.Compute))
	b.act(1, ran(1, 1, api.Compute))
	b.tock()
	b.start(0, 9, -1)
	b.act(1, preempt(1, 1), dispatch(1, 3, 0))
	b.ticks(2)
	for place, left := range []int{0, 4, 2, 0} {
		if got := b.thread(place).Left; got != left {
			t.Error(place, got, left)
		}
	}
	if b.m.Now() != 3 {
		t.Error(b.m.Now())
	}
}
