package exec_test

import (
	"math"
	"slices"
	"testing"

	"boatswain/api"
	"boatswain/exec"
	"boatswain/prog"
)

const most = 10000 // steps of a Run

var exit = api.Instr{Op: api.Exit}

// plain is a Step as the document tells it.
func plain(p []api.Instr, f exec.Frame) (api.Instr, exec.Frame, bool) {
	if f.Left > 0 {
		return api.Instr{}, f, true
	}
	e, _ := prog.Check(p)
	if e != api.OK || f.At < 0 || f.At >= len(p) {
		return exit, f, false
	}
	i := p[f.At]
	if i.Op == api.Jump {
		return i, exec.Frame{At: i.Arg, Left: f.Left}, false
	}
	if i.Op == api.Exit {
		return i, f, false
	}
	if i.Op == api.Compute {
		return i, exec.Frame{At: f.At + 1, Left: i.Arg}, false
	}
	return i, exec.Frame{At: f.At + 1, Left: f.Left}, false
}

// plainRun goes on from step to step, with nothing left behind each.
func plainRun(p []api.Instr, steps int) []api.Instr {
	var l []api.Instr
	at := 0
	for len(l) < steps && len(l) < most {
		i, f, _ := plain(p, exec.Frame{At: at})
		l = append(l, i)
		if i.Op == api.Exit {
			return l
		}
		at = f.At
	}
	return l
}

// each is a program with every Op, and every Arg that is the least or the greatest of it.
func each() []api.Instr {
	return []api.Instr{
		{Op: api.Compute, Arg: 1},
		{Op: api.Compute, Arg: api.MaxArg},
		{Op: api.Lock, Arg: 0},
		{Op: api.Lock, Arg: api.MaxMutexes - 1},
		{Op: api.Unlock, Arg: 0},
		{Op: api.Unlock, Arg: api.MaxMutexes - 1},
		{Op: api.Spawn, Arg: 0},
		{Op: api.Spawn, Arg: api.MaxProgs - 1},
		{Op: api.Sleep, Arg: 1},
		{Op: api.Sleep, Arg: api.MaxArg},
		{Op: api.Yield},
		{Op: api.Prio, Arg: 0},
		{Op: api.Prio, Arg: 255},
		{Op: api.Jump, Arg: 16},
		{Op: api.Jump, Arg: 14},
		{Op: api.Exit},
		{Op: api.Jump, Arg: 0},
	}
}

// wrong are programs that are not right, each otherwise; each has right places, too.
func wrong() [][]api.Instr {
	return [][]api.Instr{
		nil,
		{},
		{{}},
		{{Op: api.Exit}, {Op: api.Yield}},
		{{Op: api.Compute, Arg: 1}},
		{{Op: api.Compute, Arg: 0}, exit},
		{{Op: api.Compute, Arg: -1}, exit},
		{{Op: api.Compute, Arg: api.MaxArg + 1}, exit},
		{{Op: api.Sleep, Arg: 0}, exit},
		{exit, {Op: api.Lock, Arg: api.MaxMutexes}, exit},
		{{Op: api.Yield, Arg: 1}, exit},
		{{Op: api.Jump, Arg: 1}},
		{{Op: api.Jump, Arg: -1}},
		{{Op: api.Jump, Arg: math.MinInt}, {Op: api.Jump, Arg: math.MaxInt}},
		{{Op: api.Exit, Arg: 1}},
		{{Op: api.Exit + 1}, exit},
		{{Op: -1}, exit},
		{{Op: math.MaxInt}, {Op: math.MinInt}, exit},
		slices.Repeat([]api.Instr{exit}, api.MaxCode+1),
	}
}

// rolls draws numbers below others, the same ones in each run.
func rolls(seed uint64) func(below int) int {
	return func(below int) int {
		seed = seed*6364136223846793005 + 1442695040888963407
		return int(seed >> 33 % uint64(below))
	}
}

// drawn is a right program of so many instructions; now and then it has an Exit.
func drawn(roll func(int) int, n int) []api.Instr {
	var p []api.Instr
	for len(p) < n {
		i := api.Instr{Op: api.Op(1 + roll(9))}
		switch i.Op {
		case api.Compute, api.Sleep:
			i.Arg = 1 + roll([]int{3, api.MaxArg}[roll(2)])
		case api.Lock, api.Unlock:
			i.Arg = roll(api.MaxMutexes)
		case api.Spawn:
			i.Arg = roll(api.MaxProgs)
		case api.Prio:
			i.Arg = roll(256)
		case api.Jump:
			i.Arg = roll(n)
		}
		if len(p) == n-1 && i.Op < api.Jump || i.Op == api.Exit && roll(3) > 0 {
			continue
		}
		p = append(p, i)
	}
	return p
}

// step does one, and holds it against the plain one, and what was handed in against what it was.
func step(t *testing.T, p []api.Instr, f exec.Frame) (api.Instr, exec.Frame, bool) {
	t.Helper()
	before := slices.Clone(p)
	i, next, busy := exec.Step(p, f)
	wi, wf, wb := plain(p, f)
	if i != wi || next != wf || busy != wb {
		t.Fatal(p, f, "tells", i, next, busy, "and not", wi, wf, wb)
	}
	if !slices.Equal(p, before) {
		t.Fatal("the program was changed:", p, before)
	}
	return i, next, busy
}

// P13.1: each Op by itself, at its least and greatest Arg.
func TestStepOfEachOp(t *testing.T) {
	p := each()
	if e, at := prog.Check(p); e != api.OK {
		t.Fatal(e, at)
	}
	for at, want := range p {
		i, f, busy := step(t, p, exec.Frame{At: at})
		if i != want || busy {
			t.Error(at, i, busy)
		}
		next := exec.Frame{At: at + 1}
		switch want.Op {
		case api.Compute:
			next.Left = want.Arg
		case api.Jump:
			next.At = want.Arg
		case api.Exit:
			next.At = at
		}
		if f != next {
			t.Error(at, want, f, next)
		}
	}
}

// P13.1: who still computes is busy, wherever it stands, and whatever the program is.
func TestBusy(t *testing.T) {
	for _, p := range append(wrong(), each()) {
		for _, left := range []int{1, 2, api.MaxArg, math.MaxInt} {
			for _, at := range []int{math.MinInt, -1, 0, 1, len(p) - 1, len(p), math.MaxInt} {
				f := exec.Frame{At: at, Left: left}
				if i, next, busy := step(t, p, f); i != (api.Instr{}) || next != f || !busy {
					t.Error(p, f, i, next, busy)
				}
			}
		}
	}
}

// P13.1: of a program that is not right an Exit, at each place, and the frame stays.
func TestWrongPrograms(t *testing.T) {
	for _, p := range wrong() {
		for at := -1; at <= len(p); at++ {
			for _, left := range []int{0, -1, math.MinInt} {
				f := exec.Frame{At: at, Left: left}
				if i, next, busy := step(t, p, f); i != exit || next != f || busy {
					t.Error(p, f, i, next, busy)
				}
			}
		}
		for _, steps := range []int{1, 2, most, most + 1, math.MaxInt} {
			if l := exec.Run(p, steps); !slices.Equal(l, []api.Instr{exit}) {
				t.Error(p, steps, l)
			}
		}
	}
}

// P13.1: a place that there is not is an Exit; the last one is a place, one more is none.
func TestPlacesThatAreNone(t *testing.T) {
	for _, p := range [][]api.Instr{each(), {exit}, {{Op: api.Jump, Arg: 0}}, slices.Repeat([]api.Instr{{Op: api.Jump, Arg: 5}}, api.MaxCode)} {
		for _, at := range []int{math.MinInt, -1 << 32, -2, -1, len(p), len(p) + 1, 1 << 32, math.MaxInt} {
			f := exec.Frame{At: at}
			if i, next, busy := step(t, p, f); i != exit || next != f || busy {
				t.Error(len(p), f, i, next, busy)
			}
		}
		last := len(p) - 1
		if i, _, _ := step(t, p, exec.Frame{At: last}); i != p[last] {
			t.Error(i, p[last])
		}
	}
}

// P13.1: a Left below 0 is not above 0: the instruction is done, and only a Compute has a word on Left.
func TestLeftBelowNothing(t *testing.T) {
	p := each()
	for _, left := range []int{-1, math.MinInt} {
		for at := range p {
			i, f, busy := step(t, p, exec.Frame{At: at, Left: left})
			if i != p[at] || busy {
				t.Error(at, i, busy)
			}
			if i.Op == api.Compute && f.Left != i.Arg || i.Op != api.Compute && f.Left != left {
				t.Error(at, i, f)
			}
		}
	}
}

// P13.1: a Jump to itself stays where it is, and is told again and again.
func TestJumpToItself(t *testing.T) {
	p := []api.Instr{{Op: api.Yield}, {Op: api.Jump, Arg: 1}}
	f := exec.Frame{At: 1}
	for range 5 {
		i, next, _ := step(t, p, f)
		if i != p[1] || next != f {
			t.Fatal(i, next)
		}
		f = next
	}
	l := exec.Run(p, 4)
	if !slices.Equal(l, []api.Instr{p[0], p[1], p[1], p[1]}) {
		t.Error(l)
	}
	if l := exec.Run(p[1:], 3); !slices.Equal(l, []api.Instr{exit}) {
		t.Error("a Jump behind the end is not right:", l)
	}
}

// P13.1: a Tick is one less, down to 0, and never below; At is no matter.
func TestTick(t *testing.T) {
	for _, left := range []int{math.MinInt, -1, 0, 1, 2, api.MaxArg, math.MaxInt} {
		want := left
		if left > 0 {
			want = left - 1
		}
		for _, at := range []int{math.MinInt, -1, 0, 7, math.MaxInt} {
			if f := exec.Tick(exec.Frame{At: at, Left: left}); f != (exec.Frame{At: at, Left: want}) {
				t.Error(at, left, f)
			}
		}
	}
}

// P13.3: a Compute of n is busy for n Ticks, no less and no more.
func TestComputeIsBusyForItsTicks(t *testing.T) {
	for _, n := range []int{1, 2, 3, 100, api.MaxArg - 1, api.MaxArg} {
		p := []api.Instr{{Op: api.Compute, Arg: n}, exit}
		i, f, busy := step(t, p, exec.Frame{})
		if i != p[0] || busy {
			t.Fatal(n, i, busy)
		}
		ticks := 0
		for {
			if _, next, busy := exec.Step(p, f); !busy {
				break
			} else if next != f {
				t.Fatal("busy, and yet", next, f)
			}
			f = exec.Tick(f)
			ticks++
		}
		if i, _, _ := step(t, p, f); ticks != n || i != exit {
			t.Error(n, ticks, i)
		}
	}
}

// P13.1: the example of the chapter.
func TestExample(t *testing.T) {
	p := []api.Instr{{Op: api.Compute, Arg: 2}, exit}
	i, f, busy := exec.Step(p, exec.Frame{})
	if i != p[0] || busy {
		t.Error(i, busy)
	}
	for range 2 {
		if _, _, busy := exec.Step(p, f); !busy {
			t.Error(f)
		}
		f = exec.Tick(f)
	}
	if i, _, busy := exec.Step(p, f); i != exit || busy {
		t.Error(i, busy)
	}
}

// P13.1: so many steps, at most 10000; none of 0 and of less.
func TestRunOfSoManySteps(t *testing.T) {
	round := []api.Instr{{Op: api.Compute, Arg: api.MaxArg}, {Op: api.Sleep, Arg: 9}, {Op: api.Jump, Arg: 0}} // no Exit on its way
	for _, steps := range []int{math.MinInt, -1 << 32, -1, 0, 1, 2, 3, 4, most - 1, most, most + 1, 1 << 32, math.MaxInt} {
		want := max(0, min(steps, most))
		l := exec.Run(round, steps)
		if len(l) != want {
			t.Fatal(steps, len(l))
		}
		for n, i := range l {
			if i != round[n%3] {
				t.Fatal(steps, n, i)
			}
		}
	}
	behind := []api.Instr{{Op: api.Jump, Arg: 0}, exit} // it has one, but not on its way
	if l := exec.Run(behind, math.MaxInt); len(l) != most || slices.Contains(l, exit) {
		t.Error(len(l))
	}
}

// P13.1: an Exit is the last one, also where more steps were asked, and where just so many were.
func TestRunUpToAnExit(t *testing.T) {
	p := []api.Instr{{Op: api.Compute, Arg: 3}, {Op: api.Jump, Arg: 3}, {Op: api.Yield}, exit, {Op: api.Jump, Arg: 0}}
	way := []api.Instr{p[0], p[1], exit}
	for _, steps := range []int{1, 2, 3, 4, most, math.MaxInt} {
		if l := exec.Run(p, steps); !slices.Equal(l, way[:min(steps, 3)]) {
			t.Error(steps, l)
		}
	}
	full := append(slices.Repeat([]api.Instr{{Op: api.Compute, Arg: 1}}, api.MaxCode-1), exit)
	if l := exec.Run(full, most); !slices.Equal(l, full) {
		t.Error(l)
	}
}

// P3: what Run answers is the caller's; what was handed in stays, spare room too.
func TestRunIsTheCallers(t *testing.T) {
	room := []api.Instr{{Op: api.Yield}, exit, {Op: api.Lock, Arg: 7}, {Op: api.Lock, Arg: 8}}
	p := room[:2]
	first, second := exec.Run(p, 5), exec.Run(p, 5)
	clear(first)
	first = append(first, api.Instr{Op: api.Prio, Arg: 9})
	if !slices.Equal(second, []api.Instr{{Op: api.Yield}, exit}) {
		t.Error(second)
	}
	if !slices.Equal(room, []api.Instr{{Op: api.Yield}, exit, {Op: api.Lock, Arg: 7}, {Op: api.Lock, Arg: 8}}) || len(first) != 3 {
		t.Error(room)
	}
	p[0] = api.Instr{Op: api.Prio, Arg: 4}
	if second[0].Op != api.Yield {
		t.Error("an answer lies in what was handed in")
	}
}

// P13.1, P13.2: over many programs each Step and each Run is the plain one, and of a right program At is always a place of it.
func TestLongRuns(t *testing.T) {
	roll := rolls(13)
	seen := map[api.Op]int{}
	for round := range 400 {
		p := drawn(roll, 1+round%api.MaxCode)
		if e, at := prog.Check(p); e != api.OK {
			t.Fatal(p, e, at)
		}
		var f exec.Frame
		for range 200 {
			i, next, busy := step(t, p, f)
			if next.At < 0 || next.At >= len(p) {
				t.Fatal(p, next)
			}
			if !busy {
				seen[i.Op]++
			}
			f = next
			for range roll(4) {
				f = exec.Tick(f)
			}
			if roll(3) == 0 {
				f.Left = min(f.Left, 2)
			}
			if i.Op == api.Exit {
				f = exec.Frame{At: roll(len(p))}
			}
		}
		for _, steps := range []int{roll(5), roll(300), most + 1 - roll(3)}[:2+max(0, 1-round%8)] {
			if l := exec.Run(p, steps); !slices.Equal(l, plainRun(p, steps)) {
				t.Fatal(p, steps, l)
			}
		}
	}
	for op := api.Compute; op <= api.Exit; op++ {
		if seen[op] < 100 {
			t.Error("op", op, "was seen but", seen[op], "times")
		}
	}
}

// P1: frames and programs of any kind are answered.
func TestAnything(t *testing.T) {
	roll := rolls(131)
	odd := []int{math.MinInt, -1 << 32, -2, -1, 0, 1, 2, 3, 63, 64, 65, 255, 256, api.MaxArg, api.MaxArg + 1, 1 << 32, math.MaxInt}
	for range 20000 {
		p := make([]api.Instr, roll(5))
		for n := range p {
			p[n] = api.Instr{Op: api.Op(roll(12) - 1), Arg: odd[roll(len(odd))]}
		}
		step(t, p, exec.Frame{At: odd[roll(len(odd))], Left: odd[roll(len(odd))]})
		if steps := odd[roll(9)]; !slices.Equal(exec.Run(p, steps), plainRun(p, steps)) {
			t.Fatal(p, steps)
		}
	}
}
