package run_test

import (
	"slices"
	"testing"

	"boatswain/api"
	"boatswain/run"
	"boatswain/script"
)

// drawnConfig is one of a small machine.
func drawnConfig(roll func(int) int) api.Config {
	return api.Config{
		Procs:   []int{1, 2, 3, 5}[roll(4)],
		Threads: 1 + roll(12),
		Queue:   1 + roll(3),
		Mutexes: []int{0, 1, 2, 2, 3, 5}[roll(6)],
		Quantum: uint64(1 + roll(4)),
		Aging:   uint64(1 + roll(9)),
	}
}

// drawnCode is a right program of any instructions.
func drawnCode(roll func(int) int, c api.Config) []api.Instr {
	n := 1 + roll(9)
	var p []api.Instr
	for len(p) < n-1 {
		p = append(p, []api.Instr{
			compute(1 + roll(5)), sleep(1 + roll(5)), lock(roll(c.Mutexes + 1)), unlock(roll(c.Mutexes + 1)),
			spawn(roll(8)), prio([]int{0, 1, 2, 3, 9, 255}[roll(6)]), yield(), jump(roll(n)),
		}[roll(8)])
	}
	return append(p, []api.Instr{exit(), jump(roll(n))}[roll(2)])
}

// locker takes some locks, with something to do in between, and gives most of them up again.
func locker(roll func(int) int, c api.Config) []api.Instr {
	between := func() api.Instr {
		return []api.Instr{compute(1 + roll(3)), sleep(1 + roll(2)), sleep(1), yield(), prio(roll(6))}[roll(5)]
	}
	locks := max(1, c.Mutexes)
	var p, back []api.Instr
	n, way := roll(locks), 1+roll(locks) // one program goes up, another one down: so circles may close
	for range 1 + roll(4) {
		n = (n + way) % locks
		p = append(p, lock(n), between())
		back = append(back, unlock(n), between())
	}
	if roll(5) == 0 {
		return append(p, exit())
	}
	return append(append(p, back...), jump(0))
}

// drawnEntry is one of every kind, now and then one that is refused.
func drawnEntry(roll func(int) int, c api.Config) []script.Entry {
	switch r := roll(100); {
	case r < 6:
		return []script.Entry{start(roll(7), []byte{0, 1, 2, 3, 9, 255}[roll(6)], roll(4)-1)}
	case r < 9:
		return []script.Entry{load(locker(roll, c)...)}
	case r < 11:
		return []script.Entry{load(drawnCode(roll, c)...)}
	case r < 13:
		period := []uint64{0, 1, 2, 3, 5, 10, 20, 23}[roll(8)]
		return []script.Entry{admit(uint64(roll(int(period)+2)), period)}
	case r < 27:
		return []script.Entry{tick(1 + roll(3)*roll(3))}
	case r < 29:
		return []script.Entry{stepDrawn(c.Procs+roll(3)*roll(80), uint64(roll(9)))}
	case r < 40:
		var l []script.Entry
		from := roll(c.Procs)
		for i := range c.Procs {
			l = append(l, stepDrawn((from+i)%c.Procs, uint64(roll(9))))
		}
		return l
	}
	return []script.Entry{stepDrawn(roll(c.Procs), []uint64{0, 1, 2, uint64(roll(1 << 30)), last}[roll(5)])}
}

// drawnScript is one of so many entries, behind some programs, servers and threads.
func drawnScript(roll func(int) int, c api.Config, count int) []script.Entry {
	l := []script.Entry{
		load(locker(roll, c)...), load(locker(roll, c)...), load(drawnCode(roll, c)...), load(drawnCode(roll, c)...),
		load(compute(1+roll(9)), yield(), compute(1+roll(9)), sleep(1+roll(4)), jump(roll(5))),
		admit(1, 5), admit(2, 10), start(0, 3, 0), start(1, 5, -1), start(4, 4, 1),
	}
	for len(l) < count {
		l = append(l, drawnEntry(roll, c)...)
	}
	return l[:count]
}

// P16.1, E1 to E4, E6: over long scripts of every kind of entry, all that is told, each error, the counts and the share are just what the document says.
func TestLongScripts(t *testing.T) {
	s := newSeen()
	for seed := range uint64(300) {
		roll := rolls(seed)
		c := drawnConfig(roll)
		l := drawnScript(roll, c, 900)
		r := runs(t, c, l...)
		if want := plainRun(c, l); !sameResult(r, want) {
			t.Fatalf("%+v\nand not %+v", r, want)
		}
		watch(t, s, c, l, r)
	}
	for kind := api.Idle; kind <= api.Tock; kind++ {
		if s.kinds[kind] < 100 {
			t.Error("kind", kind, "came up", s.kinds[kind], "times")
		}
	}
	for do, l := range map[script.Do][]api.Errno{
		script.Step:  {api.OK, api.ErrRange},
		script.Tick:  {api.OK},
		script.Load:  {api.OK, api.ErrFull},
		script.Admit: {api.OK, api.ErrRange, api.ErrLoad},
		script.Start: {api.OK, api.ErrRange, api.ErrFull},
	} {
		for _, e := range l {
			if s.errs[do][e] < 50 {
				t.Error("an entry of", do, "with", e, "came up", s.errs[do][e], "times")
			}
		}
	}
	for _, e := range []api.Errno{api.ErrRange, api.ErrFull, api.ErrOwn, api.ErrCycle, api.ErrOwner} {
		if s.fails[e] < 50 {
			t.Error("Failed with", e, "came up", s.fails[e], "times")
		}
	}
	if s.rounds < 500 || s.handed < 500 || s.spent < 200 {
		t.Error("rounds", s.rounds, "handed on", s.handed, "spent", s.spent)
	}
}

// E5: a script without what is refused tells the same.
func TestRefusedChangesNothing(t *testing.T) {
	count := 0
	for seed := range uint64(60) {
		roll := rolls(500 + seed)
		c := drawnConfig(roll)
		l := drawnScript(roll, c, 400)
		all := runs(t, c, l...)
		var kept []script.Entry
		for i, e := range l {
			if all.Errs[i] == api.OK {
				kept = append(kept, e)
			}
		}
		count += len(l) - len(kept)
		r := runs(t, c, kept...)
		if !slices.Equal(r.Events, all.Events) || r.Counts != all.Counts || !sameFloat(r.Used, all.Used) || slices.ContainsFunc(r.Errs, func(e api.Errno) bool { return e != api.OK }) {
			t.Fatal(c, l)
		}
	}
	if count < 1000 {
		t.Error("only", count, "were refused")
	}
}

// P16.3: a longer script begins as the shorter one does, wherever it is cut.
func TestCutInTwo(t *testing.T) {
	for seed := range uint64(20) {
		roll := rolls(900 + seed)
		c := drawnConfig(roll)
		l := drawnScript(roll, c, 120)
		whole := runs(t, c, l...)
		events := 0
		for n := range len(l) + 1 {
			r := runs(t, c, l[:n]...)
			if len(r.Errs) != n || len(r.Events) < events || len(r.Events) > len(whole.Events) {
				t.Fatal(n, len(r.Errs), len(r.Events))
			}
			if !slices.Equal(r.Errs, whole.Errs[:n]) || !slices.Equal(r.Events, whole.Events[:len(r.Events)]) || r.Counts != counted(whole.Events[:len(r.Events)]) {
				t.Fatal(c, l[:n], r)
			}
			events = len(r.Events)
		}
	}
}

// P16.3: that a Tick of many is cut too tells nothing else.
func TestTicksCutInTwo(t *testing.T) {
	for seed := range uint64(20) {
		roll := rolls(1300 + seed)
		c := drawnConfig(roll)
		l := drawnScript(roll, c, 200)
		var cut []script.Entry
		for _, e := range l {
			if e.N > 1 {
				first := 1 + roll(e.N-1)
				cut = append(cut, tick(first))
				e.N -= first
			}
			cut = append(cut, e)
		}
		a, b := runs(t, c, l...), runs(t, c, cut...)
		if len(cut) == len(l) || !slices.Equal(a.Events, b.Events) || a.Counts != b.Counts || !sameFloat(a.Used, b.Used) {
			t.Fatal(c, l)
		}
	}
}

// P16.1: a script on the greatest machine, with all that there may be of it.
func TestGreatestMachine(t *testing.T) {
	roll := rolls(77)
	c := api.Config{Procs: api.MaxProcs, Threads: api.MaxThreads, Queue: api.MaxQueue, Mutexes: api.MaxMutexes, Quantum: 2, Aging: 2}
	var l []script.Entry
	for range api.MaxProgs {
		l = append(l, load(locker(roll, c)...))
	}
	for range api.MaxServers {
		l = append(l, admit(2, 2))
	}
	for range api.MaxThreads {
		l = append(l, start(roll(api.MaxProgs), byte(roll(256)), roll(api.MaxServers+1)-1))
	}
	for range 5 {
		for proc := range api.MaxProcs {
			l = append(l, stepDrawn(proc, uint64(roll(1000))))
		}
		l = append(l, tick(1))
	}
	r, e := run.Run(c, encode(t, l))
	if e != api.OK || !sameResult(r, plainRun(c, l)) || r.Counts[api.Born] != api.MaxThreads || r.Counts[api.Tock] != 5 || r.Used == 0 {
		t.Error(e, r.Counts, r.Used)
	}
	if i := slices.IndexFunc(r.Errs, func(e api.Errno) bool { return e != api.OK }); i >= 0 {
		t.Error("entry", i, r.Errs[i])
	}
}
