package run_test

import (
	"math"
	"slices"
	"testing"

	"boatswain/api"
	"boatswain/run"
	"boatswain/sched"
	"boatswain/script"
)

const last = uint64(math.MaxUint64)

// nobody is the thread, the lock or the server that there is not.
const nobody = -1

func step(proc int) script.Entry { return stepDrawn(proc, 0) }

func stepDrawn(proc int, draw uint64) script.Entry {
	return script.Entry{Do: script.Step, Proc: proc, Draw: draw}
}

func tick(n int) script.Entry { return script.Entry{Do: script.Tick, N: n} }

func load(code ...api.Instr) script.Entry { return script.Entry{Do: script.Load, Code: code} }

func admit(budget, period uint64) script.Entry {
	return script.Entry{Do: script.Admit, Budget: budget, Period: period}
}

func start(prog int, level byte, server int) script.Entry {
	return script.Entry{Do: script.Start, Prog: prog, Level: level, Server: server}
}

func ins(op api.Op, arg int) api.Instr { return api.Instr{Op: op, Arg: arg} }
func compute(n int) api.Instr          { return ins(api.Compute, n) }
func lock(n int) api.Instr             { return ins(api.Lock, n) }
func unlock(n int) api.Instr           { return ins(api.Unlock, n) }
func spawn(n int) api.Instr            { return ins(api.Spawn, n) }
func sleep(n int) api.Instr            { return ins(api.Sleep, n) }
func prio(n int) api.Instr             { return ins(api.Prio, n) }
func jump(n int) api.Instr             { return ins(api.Jump, n) }
func yield() api.Instr                 { return ins(api.Yield, 0) }
func exit() api.Instr                  { return ins(api.Exit, 0) }

// of is an event of a processor, of the thread at a place that was given out once.
func of(kind api.Kind, proc, place, arg int) api.Event {
	return api.Event{Kind: kind, Proc: proc, Thread: api.Id{Place: place, Gen: 1}, Arg: arg}
}

func ran(proc, place int, op api.Op) api.Event { return of(api.Ran, proc, place, int(op)) }
func idle(proc int) api.Event                  { return api.Event{Kind: api.Idle, Proc: proc} }
func refill(server int) api.Event              { return api.Event{Kind: api.Refill, Arg: server} }
func tock() api.Event                          { return api.Event{Kind: api.Tock} }

// small is a config of so many processors, with room for little.
func small(procs int) api.Config {
	return api.Config{Procs: procs, Threads: 6, Queue: 2, Mutexes: 3, Quantum: 3, Aging: 100}
}

func encode(t *testing.T, l []script.Entry) []byte {
	t.Helper()
	b, e := script.Encode(l)
	if e != api.OK {
		t.Fatal(l, e)
	}
	return b
}

// runs runs a script that may be run.
func runs(t *testing.T, c api.Config, l ...script.Entry) run.Result {
	t.Helper()
	r, e := run.Run(c, encode(t, l))
	if e != api.OK {
		t.Fatal(c, l, e)
	}
	return r
}

// sameFloat: what is no number is the same as what is no number.
func sameFloat(a, b float64) bool {
	return a == b && math.Signbit(a) == math.Signbit(b) || math.IsNaN(a) && math.IsNaN(b)
}

func sameResult(a, b run.Result) bool {
	return slices.Equal(a.Events, b.Events) && slices.Equal(a.Errs, b.Errs) && a.Counts == b.Counts && sameFloat(a.Used, b.Used)
}

// plainRun does a script on a machine, call by call.
func plainRun(c api.Config, l []script.Entry) run.Result {
	var r run.Result
	m := sched.New(c)
	used, whole := 0, 0
	for _, e := range l {
		var told []api.Event
		fault := api.OK
		switch e.Do {
		case script.Step:
			told, fault = m.Step(e.Proc, e.Draw)
		case script.Tick:
			for i := 0; i < e.N; i++ {
				for proc := 0; proc < c.Procs; proc++ {
					if _, ok := m.Runs(proc); ok {
						used++
					}
				}
				whole += c.Procs
				told = append(told, m.Tick()...)
			}
		case script.Load:
			_, fault = m.Load(e.Code)
		case script.Admit:
			_, fault = m.Admit(e.Budget, e.Period)
		case script.Start:
			told, fault = m.Start(e.Prog, e.Level, e.Server)
		}
		r.Events = append(r.Events, told...)
		r.Errs = append(r.Errs, fault)
	}
	r.Counts = counted(r.Events)
	r.Used = float64(used) / float64(whole)
	return r
}

// counted is how many there are of each kind.
func counted(l []api.Event) (counts [15]int) {
	for kind := range counts {
		for _, e := range l {
			if int(e.Kind) == kind {
				counts[kind]++
			}
		}
	}
	return counts
}

// rolls draws numbers below others, the same ones in each run.
func rolls(seed uint64) func(below int) int {
	return func(below int) int {
		seed = seed*6364136223846793005 + 1442695040888963407
		return int(seed >> 33 % uint64(below))
	}
}
