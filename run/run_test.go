package run_test

import (
	"bytes"
	"math"
	"slices"
	"testing"

	"boatswain/api"
	"boatswain/num"
	"boatswain/run"
	"boatswain/script"
)

// tells holds what a script tells against just this.
func tells(t *testing.T, c api.Config, l []script.Entry, want ...api.Event) {
	t.Helper()
	r := runs(t, c, l...)
	if !slices.Equal(r.Events, want) {
		t.Errorf("told  %v\nwants %v", r.Events, want)
	}
	if r.Counts != counted(want) {
		t.Error(r.Counts, "and not", counted(want))
	}
	for i, e := range r.Errs {
		if e != api.OK {
			t.Error("entry", i, "has the error", e)
		}
	}
	if len(r.Errs) != len(l) {
		t.Error(len(r.Errs), "errors of", len(l))
	}
}

// refused holds a Run that has an error: all else is zero.
func refused(t *testing.T, c api.Config, b []byte, want api.Errno) {
	t.Helper()
	r, e := run.Run(c, b)
	if e != want || len(r.Events) != 0 || len(r.Errs) != 0 || r.Counts != [15]int{} || !sameFloat(r.Used, 0) {
		t.Errorf("%+v %x: %+v %d, and not %d", c, b, r, e, want)
	}
}

// The chapter's example.
func TestExample(t *testing.T) {
	tells(t, small(1), []script.Entry{load(exit()), start(0, 0, -1), step(0)},
		of(api.Born, 0, 0, 0), of(api.Dispatch, 0, 0, 0))
}

// The first example of the whole, E3: who holds a lock is as urgent as who waits for it, till it unlocks; a third one must wait.
func TestUrgencyIsHandedOn(t *testing.T) {
	tells(t, small(1), []script.Entry{
		load(lock(0), compute(1), unlock(0), exit()), load(exit()),
		start(0, 1, -1), step(0), step(0),
		start(0, 9, -1), step(0), step(0),
		start(1, 5, -1), step(0), step(0), tick(1), step(0), step(0),
	},
		of(api.Born, 0, 0, 0), of(api.Dispatch, 0, 0, 0), ran(0, 0, api.Lock), of(api.Granted, 0, 0, 0),
		of(api.Born, 0, 1, 0), of(api.Preempt, 0, 0, 0), of(api.Dispatch, 0, 1, 0), ran(0, 1, api.Lock), of(api.Wait, 0, 1, 0),
		of(api.Born, 0, 2, 1), of(api.Dispatch, 0, 0, 0), ran(0, 0, api.Compute), tock(),
		ran(0, 0, api.Unlock), of(api.Granted, 0, 1, 0), of(api.Preempt, 0, 0, 0), of(api.Dispatch, 0, 1, 0))
}

// The second example of the whole, E4: a thread runs by its server's deadline for 2 ticks, then by its level till the period is over.
func TestBudget(t *testing.T) {
	tells(t, small(1), []script.Entry{
		load(compute(9), exit()), admit(2, 5),
		start(0, 1, 0), start(0, 7, -1),
		step(0), step(0), tick(2), step(0), step(0), tick(3), step(0),
	},
		of(api.Born, 0, 0, 0), of(api.Born, 0, 1, 0),
		of(api.Dispatch, 0, 0, 0), ran(0, 0, api.Compute), tock(), of(api.Spent, 0, 0, 0), tock(),
		of(api.Preempt, 0, 0, 0), of(api.Dispatch, 0, 1, 0), ran(0, 1, api.Compute),
		tock(), tock(), refill(0), tock(),
		of(api.Preempt, 0, 1, 0), of(api.Dispatch, 0, 0, 0))
}

// P16.1, E1: one script in which every kind of event is told.
func TestEveryKind(t *testing.T) {
	again := func(kind api.Kind, arg int) api.Event {
		return api.Event{Kind: kind, Thread: api.Id{Place: 0, Gen: 2}, Arg: arg} // at the place of one that is gone
	}
	l := []script.Entry{
		load(lock(1), sleep(2), unlock(1), unlock(1), exit()), load(lock(1), spawn(2), exit()), load(yield(), prio(3), jump(0)),
		admit(1, 2),
		start(0, 9, -1), step(0), step(0), step(0), step(0),
		start(1, 4, 0), step(1), step(1), tick(1), tick(1), step(0), step(0), step(0), step(0),
		step(1), step(1), tick(1), step(1), step(1), step(1), stepDrawn(0, last), step(0), step(0), step(0), step(0),
		load(compute(1), exit()), start(3, 255, -1), step(0), step(0), step(0), tick(1),
	}
	tells(t, small(2), l,
		of(api.Born, 0, 0, 0), of(api.Dispatch, 0, 0, 0), ran(0, 0, api.Lock), of(api.Granted, 0, 0, 1), ran(0, 0, api.Sleep), idle(0),
		of(api.Born, 0, 1, 1), of(api.Dispatch, 1, 1, 0), ran(1, 1, api.Lock), of(api.Wait, 1, 1, 1), tock(), of(api.Woke, 0, 0, 0), tock(),
		of(api.Dispatch, 0, 0, 0), ran(0, 0, api.Unlock), of(api.Granted, 0, 1, 1),
		of(api.Preempt, 0, 0, 0), of(api.Dispatch, 0, 1, 1), ran(0, 1, api.Spawn), of(api.Born, 0, 2, 2),
		of(api.Dispatch, 1, 0, 0), api.Event{Kind: api.Failed, Proc: 1, Thread: api.Id{Gen: 1}, Arg: int(api.Unlock), Err: api.ErrOwner},
		of(api.Spent, 0, 1, 0), tock(), ran(1, 0, api.Exit), of(api.Gone, 1, 0, 0), of(api.Dispatch, 1, 2, 0), ran(1, 2, api.Yield),
		ran(0, 1, api.Exit), of(api.Gone, 0, 1, 0), of(api.Dispatch, 0, 2, 1), ran(0, 2, api.Prio), ran(0, 2, api.Jump), ran(0, 2, api.Yield),
		again(api.Born, 3), again(api.Dispatch, 0), again(api.Ran, int(api.Compute)), again(api.Busy, 0), refill(0), tock())
	for kind, n := range runs(t, small(2), l...).Counts {
		if (n > 0) != (kind > 0) {
			t.Error("kind", kind, "is told", n, "times")
		}
	}
}

// P16.1: each field of the config at its least and greatest, and one beyond.
func TestConfigs(t *testing.T) {
	fields := []struct {
		set         func(*api.Config, int)
		least, most int
	}{
		{func(c *api.Config, n int) { c.Procs = n }, 1, 64},
		{func(c *api.Config, n int) { c.Threads = n }, 1, 1024},
		{func(c *api.Config, n int) { c.Queue = n }, 1, 256},
		{func(c *api.Config, n int) { c.Mutexes = n }, 0, 32},
	}
	b := encode(t, []script.Entry{load(exit()), start(0, 0, -1), tick(1)})
	for _, f := range fields {
		for _, n := range []int{f.least, f.least + 1, f.most - 1, f.most} {
			c := small(2)
			f.set(&c, n)
			if r, e := run.Run(c, b); e != api.OK || len(r.Errs) != 3 || r.Used != 0 {
				t.Error(c, r, e)
			}
		}
		for _, n := range []int{math.MinInt, -1 << 32, -1, f.least - 1, f.most + 1, 1<<32 + f.least, math.MaxInt} {
			c := small(2)
			f.set(&c, n)
			refused(t, c, b, api.ErrRange)
			refused(t, c, nil, api.ErrRange)
			refused(t, c, []byte{9}, api.ErrRange) // ahead of what is wrong with the bytes
		}
	}
	for _, n := range []uint64{0, 1, 2, 1 << 63, last} {
		quantum, aging := small(1), small(1)
		quantum.Quantum, aging.Aging = n, n
		for _, c := range []api.Config{quantum, aging} {
			if n == 0 {
				refused(t, c, b, api.ErrRange)
				refused(t, c, []byte{2}, api.ErrRange)
			} else if r, e := run.Run(c, b); e != api.OK || len(r.Errs) != 3 {
				t.Error(c, r, e)
			}
		}
	}
	refused(t, api.Config{}, nil, api.ErrRange)
}

// P16.1: the quantum and the aging of the config are those of the machine.
func TestQuantumAndAging(t *testing.T) {
	l := []script.Entry{load(compute(9), exit()), start(0, 5, -1), start(0, 4, -1), step(0), step(0), tick(2), start(0, 5, -1), step(0), tick(2), step(0)}
	for _, v := range []struct {
		quantum, aging uint64
		preempts       int
	}{{last, last, 0}, {2, last, 2}, {3, last, 1}, {4, last, 1}, {5, last, 0}, {last, 2, 1}, {last, 4, 0}} {
		c := small(1)
		c.Quantum, c.Aging = v.quantum, v.aging
		if r := runs(t, c, l...); r.Counts[api.Preempt] != v.preempts {
			t.Error(v, r.Events)
		}
	}
}

// P16.1: bytes that are no script: nothing is done.
func TestWrongBytes(t *testing.T) {
	whole := encode(t, []script.Entry{load(exit()), start(0, 0, -1), step(0), tick(2)})
	for _, b := range [][]byte{{0}, {6}, {9}, {255}, {2}, {2, 0}, {2, 0, 0}, {3, 0}, {3, 1, 1, 0, 0, 1}, append(slices.Clone(whole), 0), append([]byte{0}, whole...)} {
		refused(t, small(1), b, api.ErrForm)
	}
	for end := range whole {
		if _, e, _ := script.Decode(whole[:end]); e != api.OK {
			refused(t, small(1), whole[:end], api.ErrForm)
		}
	}
}

// P16.1, P1: bytes of any kind, with any config: an error or a Result of just the entries that they are.
func TestAnyBytes(t *testing.T) {
	roll := rolls(11)
	seen := map[api.Errno]int{}
	for range 20000 {
		c := api.Config{Procs: roll(4), Threads: 1 + roll(4), Queue: 1 + roll(2), Mutexes: roll(3), Quantum: 1 + uint64(roll(3)), Aging: 1 + uint64(roll(3))}
		b := encode(t, drawnScript(roll, small(2), roll(12)))
		if roll(2) == 0 && len(b) > 0 {
			b[roll(len(b))] = byte(roll(7))
		}
		if roll(3) == 0 {
			b = b[:roll(len(b)+1)]
		}
		l, fault, _ := script.Decode(b)
		if !slices.ContainsFunc(l, func(e script.Entry) bool { return e.N > 300 }) { // or it takes long
			r, e := run.Run(c, b)
			seen[e]++
			switch {
			case c.Procs == 0:
				refused(t, c, b, api.ErrRange)
			case fault != api.OK:
				refused(t, c, b, api.ErrForm)
			case e != api.OK || !sameResult(r, plainRun(c, l)):
				t.Fatal(c, l, r, e)
			}
		}
	}
	for _, e := range []api.Errno{api.OK, api.ErrRange, api.ErrForm} {
		if seen[e] < 1000 {
			t.Error(e, "came up", seen[e], "times")
		}
	}
}

// P16.1, P16.4: a script of no entries, and one of no Ticks: what was used is no number.
func TestNoEntriesNoTicks(t *testing.T) {
	for _, b := range [][]byte{nil, {}} {
		r, e := run.Run(small(1), b)
		if e != api.OK || len(r.Events) != 0 || len(r.Errs) != 0 || r.Counts != [15]int{} || !math.IsNaN(r.Used) {
			t.Error(r, e)
		}
	}
	if r := runs(t, small(1), load(exit()), start(0, 3, -1), step(0), step(0)); !math.IsNaN(r.Used) || len(r.Errs) != 4 || len(r.Events) != 4 {
		t.Error(r)
	}
}

// P16.1: what is refused has its error at its own place, tells nothing, and all behind it is done.
func TestRefusedEntries(t *testing.T) {
	c := small(2)
	c.Threads = 2
	l := []script.Entry{
		start(0, 1, -1), load(exit()), start(1, 1, -1), start(0, 1, 0), admit(0, 5), admit(3, 5), admit(2, 23), admit(2, 1), admit(1, 1), admit(3, 5),
		start(0, 1, 2), start(0, 1, 254), start(255, 0, -1), start(0, 1, 1), start(0, 2, -1), start(0, 3, -1), start(9, 3, -1),
		step(2), step(255), step(1), tick(1), step(0),
	}
	want := []api.Errno{
		api.ErrRange, api.OK, api.ErrRange, api.ErrRange, api.ErrRange, api.OK, api.ErrRange, api.ErrRange, api.OK, api.ErrLoad,
		api.ErrRange, api.ErrRange, api.ErrRange, api.OK, api.OK, api.ErrFull, api.ErrRange,
		api.ErrRange, api.ErrRange, api.OK, api.OK, api.OK,
	}
	r := runs(t, c, l...)
	if !slices.Equal(r.Errs, want) {
		t.Errorf("%v\n%v", r.Errs, want)
	}
	told := []api.Event{of(api.Born, 0, 0, 0), of(api.Born, 0, 1, 0), of(api.Dispatch, 1, 0, 0), of(api.Spent, 1, 0, 1), refill(1), tock(), of(api.Dispatch, 0, 1, 0)}
	if !slices.Equal(r.Events, told) || r.Used != 0.5 {
		t.Errorf("%v %v\n%v", r.Events, r.Used, told)
	}
}

// P16.1: too many programs, servers and threads: just those that are too many are refused.
func TestTooMany(t *testing.T) {
	c := small(64)
	for _, v := range []struct {
		e          script.Entry
		most, more int
	}{{load(exit()), api.MaxProgs, 3}, {admit(1, 1), api.MaxServers, 3}, {start(0, 7, -1), c.Threads, 3}} {
		l := append([]script.Entry{load(jump(0))}, slices.Repeat([]script.Entry{v.e}, v.most+v.more)...)
		most := v.most
		if v.e.Do == script.Load {
			most--
		}
		want := slices.Concat(make([]api.Errno, 1+most), slices.Repeat([]api.Errno{api.ErrFull}, len(l)-1-most))
		if r := runs(t, c, l...); !slices.Equal(r.Errs, want) {
			t.Error(v.e, r.Errs)
		}
	}
}

// P16.1: so many Ticks in an entry are as many entries of one.
func TestManyTicks(t *testing.T) {
	head := []script.Entry{load(compute(3), sleep(2), jump(0)), admit(2, 5), start(0, 4, 0), start(0, 4, -1), step(0), step(0), step(1)}
	for _, n := range []int{1, 2, 3, 5, 9, 40} {
		one := runs(t, small(2), append(slices.Clone(head), tick(n), step(0))...)
		many := runs(t, small(2), slices.Concat(head, slices.Repeat([]script.Entry{tick(1)}, n), []script.Entry{step(0)})...)
		if !slices.Equal(one.Events, many.Events) || one.Counts != many.Counts || one.Used != many.Used || one.Counts[api.Tock] != n {
			t.Error(n, one, many)
		}
		if len(one.Errs) != len(head)+2 || len(many.Errs) != len(head)+n+1 {
			t.Error(n, one.Errs, many.Errs)
		}
	}
}

// P16.1: the greatest number of Ticks in an entry; a thread that sleeps for longer than that wakes in the next one.
func TestMostTicks(t *testing.T) {
	r := runs(t, small(1), load(sleep(65536), exit()), start(0, 1, -1), step(0), step(0), tick(65535), step(0), tick(1), step(0))
	if r.Counts[api.Tock] != 65536 || r.Counts[api.Woke] != 1 || r.Counts[api.Idle] != 1 || r.Counts[api.Dispatch] != 2 || r.Used != 0 {
		t.Error(r.Counts, r.Used)
	}
	if at := len(r.Events) - 3; r.Events[at].Kind != api.Woke || len(r.Events) != 3+65535+1+3 {
		t.Error(len(r.Events), r.Events[at:])
	}
}

// P16.1, P16.4: what was used, by how many processors ran something at the beginning of each Tick.
func TestUsed(t *testing.T) {
	loaded := []script.Entry{load(compute(2), exit()), load(sleep(1), exit()), load(yield(), exit())}
	for _, v := range []struct {
		procs int
		l     []script.Entry
		want  float64
	}{
		{1, []script.Entry{tick(3)}, 0},                                    // none is busy
		{1, []script.Entry{start(0, 1, -1), tick(3)}, 0},                   // ready is not run
		{1, []script.Entry{start(0, 1, -1), step(0), tick(3)}, 1},          // also what computes nothing
		{1, []script.Entry{start(0, 1, -1), step(0), step(0), tick(9)}, 1}, // and what has computed enough
		{1, []script.Entry{start(1, 1, -1), step(0), step(0), tick(3)}, 0}, // asleep
		{1, []script.Entry{start(1, 1, -1), step(0), step(0), tick(3), step(0), tick(2)}, 0.4},
		{1, []script.Entry{start(2, 1, -1), step(0), step(0), tick(3)}, 0}, // given up
		{1, []script.Entry{start(2, 1, -1), step(0), tick(1), step(0), tick(2)}, 1.0 / 3},
		{2, []script.Entry{start(0, 1, -1), start(0, 1, -1), step(0), step(1), tick(5)}, 1},
		{2, []script.Entry{start(0, 1, -1), start(0, 1, -1), step(0), tick(1), step(1), tick(1)}, 0.75},
		{3, []script.Entry{start(0, 1, -1), step(2), tick(7)}, 1.0 / 3},
		{3, []script.Entry{start(0, 1, -1), start(0, 1, -1), step(2), step(0), tick(7)}, 2.0 / 3},
		{7, []script.Entry{tick(1), start(0, 1, -1), step(6), tick(1)}, 1.0 / 14},
		{64, []script.Entry{start(0, 1, -1), step(63), tick(3)}, 1.0 / 64},
	} {
		if r := runs(t, small(v.procs), append(slices.Clone(loaded), v.l...)...); !sameFloat(r.Used, v.want) {
			t.Error(v, r.Used)
		}
	}
}

// P16.1, P16.4: every processor of the greatest machine is busy; then none.
func TestAllBusy(t *testing.T) {
	c := api.Config{Procs: 64, Threads: 1024, Queue: 256, Mutexes: 32, Quantum: 1, Aging: 1}
	l := append([]script.Entry{load(exit())}, slices.Repeat([]script.Entry{start(0, 0, -1)}, 64)...)
	for proc := range 64 {
		l = append(l, step(proc))
	}
	busy := runs(t, c, append(l, tick(20))...)
	if busy.Used != 1 || busy.Counts[api.Dispatch] != 64 {
		t.Error(busy.Used, busy.Counts)
	}
	for proc := range 64 {
		l = append(l, step(proc))
	}
	none := runs(t, c, append(l, tick(20))...)
	if !sameFloat(none.Used, 0) || none.Counts[api.Gone] != 64 {
		t.Error(none.Used, none.Counts)
	}
}

// P3, P6: bytes stay as they are, and a script that is run again comes to the same, whatever became of the first Result.
func TestRunAgain(t *testing.T) {
	roll := rolls(4)
	for range 40 {
		c := drawnConfig(roll)
		b := encode(t, drawnScript(roll, c, 60))
		in := append(make([]byte, 0, len(b)+5), b...)
		in[:len(b)+1][len(b)] = 2
		first, e := run.Run(c, in)
		if e != api.OK || !bytes.Equal(in[:len(b)+1], append(slices.Clone(b), 2)) {
			t.Fatal("the bytes were changed", e)
		}
		second, _ := run.Run(c, in)
		if !sameResult(first, second) {
			t.Fatal(first, second)
		}
		clear(in)
		clear(first.Events[:cap(first.Events)])
		clear(first.Errs[:cap(first.Errs)])
		if third, _ := run.Run(c, b); !sameResult(second, third) {
			t.Fatal(second, third)
		}
	}
}

// plainLoads: each share from 0 to 1, added one behind the other, by how many there are, times how many there are.
func plainLoads(l [][2]uint64) float64 {
	if len(l) == 0 {
		return 0
	}
	sum := 0.0
	for _, v := range l {
		share := float64(v[0]) / float64(v[1])
		switch {
		case math.IsNaN(share):
			share = 0
		case share > 1:
			share = 1
		}
		sum += share
	}
	mean := sum / float64(len(l))
	return mean * float64(len(l))
}

// P16.2: Loads of none, of one, of many, of a period of 0.
func TestLoads(t *testing.T) {
	for _, v := range []struct {
		l    [][2]uint64
		want float64
	}{
		{nil, 0},
		{[][2]uint64{}, 0},
		{[][2]uint64{{0, 5}}, 0},
		{[][2]uint64{{1, 4}}, 0.25},
		{[][2]uint64{{1, 3}}, 1.0 / 3},
		{[][2]uint64{{5, 5}}, 1},
		{[][2]uint64{{6, 5}}, 1}, // no more than one processor
		{[][2]uint64{{last, 1}}, 1},
		{[][2]uint64{{1, last}}, num.Share(1, last)},
		{[][2]uint64{{last, last}}, 1},
		{[][2]uint64{{0, 0}}, 0}, // no number
		{[][2]uint64{{1, 0}}, 1}, // without bound
		{[][2]uint64{{last, 0}}, 1},
		{[][2]uint64{{1, 4}, {1, 2}}, 0.75},
		{[][2]uint64{{1, 0}, {0, 0}}, 1},
		{[][2]uint64{{1, 0}, {0, 0}, {1, 2}, {9, 3}}, 2.5},
		{slices.Repeat([][2]uint64{{1, 2}}, 1000), 500},
		{slices.Repeat([][2]uint64{{0, 0}}, 1000), 0},
		{slices.Repeat([][2]uint64{{1, 1}}, 100000), 100000},
	} {
		if got := run.Loads(v.l...); !sameFloat(got, v.want) || !sameFloat(got, plainLoads(v.l)) {
			t.Error(v.l, got, v.want)
		}
	}
}

// P16.2: of many, in which each step is rounded; the order stands.
func TestLoadsRounded(t *testing.T) {
	roll := rolls(21)
	sums := 0
	for range 5000 {
		var l [][2]uint64
		for range roll(9) {
			l = append(l, [2]uint64{uint64(roll(12)), uint64(roll(30))})
		}
		in := append(make([][2]uint64, 0, len(l)+1), l...)
		in[:len(l)+1][len(l)] = [2]uint64{7, 7}
		got, want := run.Loads(in...), plainLoads(l)
		if !sameFloat(got, want) {
			t.Fatal(l, got, want)
		}
		if !slices.Equal(in[:len(l)+1], append(slices.Clone(l), [2]uint64{7, 7})) {
			t.Fatal("the list was changed")
		}
		sum := 0.0
		for _, v := range l {
			sum += num.Clamp(num.Share(v[0], v[1]))
		}
		if sum != got {
			sums++
		}
		if again := run.Loads(l...); !sameFloat(got, again) || got < 0 || got > float64(len(l)) {
			t.Fatal(l, got, again)
		}
	}
	if sums == 0 {
		t.Error("the mean times how many there are was always the sum")
	}
}
