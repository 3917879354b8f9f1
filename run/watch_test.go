package run_test

import (
	"cmp"
	"slices"
	"testing"

	"boatswain/age"
	"boatswain/api"
	"boatswain/key"
	"boatswain/num"
	"boatswain/run"
	"boatswain/script"
)

// body is a thread, as far as it can be known from what was told.
type body struct {
	id          api.Id
	state       api.State
	prog        int
	level, lift byte
	server      int
	proc        int // where it ran last
	at, left    int // in its program
	since       uint64
	stands      int // where, while it is Ready
	till        uint64
	order       int // of those that fell asleep
}

// desk is a processor.
type desk struct {
	runs   *body // nil: nobody
	slice  uint64
	marked bool
}

// purse is a server, and when it was charged.
type purse struct {
	budget, period, left, deadline uint64
	woken                          bool
	charges                        []uint64
}

// watcher goes through what a script told, and holds each event against the document. Of several that are as urgent it lets the machine choose; all else it knows.
type watcher struct {
	t       *testing.T
	c       api.Config
	now     uint64
	codes   [][]api.Instr
	purses  []*purse
	gens    map[int]uint32
	bodies  map[int]*body // by places
	desks   []desk
	owners  []*body   // by locks
	lines   [][]*body // by locks: who waits, as they came
	rest    []api.Event
	round   []int // the processors that were Stepped last, and nothing else told than P14.7 names
	asleep  int
	used    int
	ticks   int
	seen    *seen
	entries int
}

// seen counts what came up: where something never did, nothing is said of it.
type seen struct {
	kinds  [15]int
	errs   map[script.Do]map[api.Errno]int
	fails  map[api.Errno]int
	rounds int // of E2, behind which something was ready
	handed int // keys that were handed on
	spent  int
}

func newSeen() *seen {
	return &seen{errs: map[script.Do]map[api.Errno]int{}, fails: map[api.Errno]int{}}
}

// watch holds a Result against the document.
func watch(t *testing.T, s *seen, c api.Config, l []script.Entry, r run.Result) {
	t.Helper()
	w := &watcher{
		t: t, c: c, seen: s,
		gens: map[int]uint32{}, bodies: map[int]*body{},
		desks: make([]desk, c.Procs), owners: make([]*body, c.Mutexes), lines: make([][]*body, c.Mutexes),
		rest: r.Events,
	}
	if len(r.Errs) != len(l) {
		t.Fatal(len(r.Errs), "errors of", len(l), "entries")
	}
	for i, e := range l {
		fault := w.entry(e)
		if fault != r.Errs[i] {
			t.Fatal("entry", i, e, "has the error", r.Errs[i], "and not", fault)
		}
		if s.errs[e.Do] == nil {
			s.errs[e.Do] = map[api.Errno]int{}
		}
		s.errs[e.Do][fault]++
		w.entries++
	}
	if len(w.rest) > 0 {
		t.Fatal("more was told than was done:", w.rest)
	}
	if want := float64(w.used) / float64(w.ticks*c.Procs); !sameFloat(r.Used, want) || r.Used < 0 || r.Used > 1 {
		t.Fatal("used", r.Used, "and not", want)
	}
	if r.Counts != counted(r.Events) {
		t.Fatal("counts", r.Counts, "and not", counted(r.Events))
	}
	for kind, n := range r.Counts {
		s.kinds[kind] += n
	}
	for _, p := range w.purses {
		w.budgetHolds(p)
	}
}

// budgetHolds: E4, over each stretch of time.
func (w *watcher) budgetHolds(p *purse) {
	w.t.Helper()
	for from := range p.charges {
		for to := from; to < len(p.charges); to++ {
			long := p.charges[to] - p.charges[from]
			if count := uint64(to - from + 1); count > (long/p.period+2)*p.budget {
				w.t.Fatal(count, "charges in", long, "of", p.budget, "by", p.period)
			}
		}
	}
}

// next is what was told next.
func (w *watcher) next() api.Event {
	w.t.Helper()
	if len(w.rest) == 0 {
		w.t.Fatal("nothing more is told at entry", w.entries)
	}
	e := w.rest[0]
	w.rest = w.rest[1:]
	return e
}

// told is the next event, which must be just this.
func (w *watcher) told(want api.Event) {
	w.t.Helper()
	if got := w.next(); got != want {
		w.t.Fatalf("entry %d tells %+v\nand not %+v", w.entries, got, want)
	}
}

func (w *watcher) tells(kind api.Kind, proc int, b *body, arg int) {
	w.t.Helper()
	w.told(api.Event{Kind: kind, Proc: proc, Thread: b.id, Arg: arg})
}

// places are the threads by their places.
func (w *watcher) places() []*body {
	var l []*body
	for place := range w.c.Threads {
		if b := w.bodies[place]; b != nil {
			l = append(l, b)
		}
	}
	return l
}

func (w *watcher) entry(e script.Entry) api.Errno {
	w.t.Helper()
	quiet := false
	defer func() {
		if !quiet {
			w.round = nil
		}
	}()
	switch e.Do {
	case script.Load:
		if len(w.codes) == 16 {
			return api.ErrFull
		}
		w.codes = append(w.codes, e.Code)
	case script.Admit:
		return w.admit(e.Budget, e.Period)
	case script.Start:
		return w.start(e)
	case script.Tick:
		for range e.N {
			w.tick()
		}
	case script.Step:
		if e.Proc >= w.c.Procs {
			return api.ErrRange
		}
		quiet = w.step(e.Proc)
		if quiet {
			w.roundIsOver(e.Proc)
		}
	}
	return api.OK
}

// admit: E4: what is admitted can be borne.
func (w *watcher) admit(budget, period uint64) api.Errno {
	if budget < 1 || budget > period || api.Hyper%period != 0 {
		return api.ErrRange
	}
	if len(w.purses) == 32 {
		return api.ErrFull
	}
	asks := budget * (api.Hyper / period)
	for _, p := range w.purses {
		asks += p.budget * (api.Hyper / p.period)
	}
	if asks > api.Hyper*uint64(w.c.Procs) {
		return api.ErrLoad
	}
	w.purses = append(w.purses, &purse{budget: budget, period: period})
	return api.OK
}

func (w *watcher) start(e script.Entry) api.Errno {
	w.t.Helper()
	if e.Prog >= len(w.codes) || e.Server >= len(w.purses) {
		return api.ErrRange
	}
	if len(w.bodies) == w.c.Threads {
		return api.ErrFull
	}
	b := w.begin(0, body{prog: e.Prog, level: e.Level, server: e.Server})
	w.tells(api.Born, 0, b, e.Prog)
	return api.OK
}

// begin lets a thread be, at the least place that is free.
func (w *watcher) begin(proc int, b body) *body {
	place := 0
	for w.bodies[place] != nil {
		place++
	}
	w.gens[place]++
	b.id = api.Id{Place: place, Gen: w.gens[place]}
	w.bodies[place] = &b
	w.ready(&b, proc)
	return &b
}

// ready lets a thread stand at a place; its state is what it was.
func (w *watcher) ready(b *body, proc int) {
	if b.server != nobody && b.state != api.Running {
		p := w.purses[b.server]
		if !p.woken || w.now >= p.deadline {
			p.fill(w.now)
		}
	}
	count := 0
	for _, other := range w.bodies {
		if other != b && other.state == api.Ready && other.stands == proc {
			count++
		}
	}
	b.stands = proc
	if count >= w.c.Queue {
		b.stands = w.c.Procs
	}
	b.state, b.since, b.lift = api.Ready, w.now, 0
}

func (p *purse) fill(now uint64) {
	p.left, p.deadline, p.woken = p.budget, now+p.period, true
}

// own is a thread's own key.
func (w *watcher) own(b *body) api.Key {
	if b.server != nobody && w.purses[b.server].left > 0 {
		return key.Dead(w.purses[b.server].deadline)
	}
	switch b.state {
	case api.Ready:
		return key.Fixed(age.Level(b.level, b.since, w.now, w.c.Aging))
	case api.Running:
		return key.Fixed(max(b.level, b.lift))
	}
	return key.Fixed(b.level)
}

// behind are all that wait, through whatever locks, for a thread.
func (w *watcher) behind(b *body) []*body {
	var l []*body
	for lock, owner := range w.owners {
		if owner == b {
			for _, other := range w.lines[lock] {
				l = append(append(l, other), w.behind(other)...)
			}
		}
	}
	return l
}

// key: E3.
func (w *watcher) key(b *body) api.Key {
	k := w.own(b)
	for _, other := range w.behind(b) {
		if key.Above(w.own(other), k) {
			k = w.own(other)
			w.seen.handed++
		}
	}
	return k
}

// best is the most urgent key of all that are ready.
func (w *watcher) best() (k api.Key, ok bool) {
	for _, b := range w.places() {
		if b.state == api.Ready && (!ok || key.Above(w.key(b), k)) {
			k, ok = w.key(b), true
		}
	}
	return k, ok
}

// step is one of a processor; quiet: nothing else was told than P14.7 names.
func (w *watcher) step(proc int) (quiet bool) {
	w.t.Helper()
	d := &w.desks[proc]
	if best, ok := w.best(); ok && d.runs != nil {
		if k := w.key(d.runs); key.Above(best, k) || d.marked && !key.Above(k, best) {
			w.tells(api.Preempt, proc, d.runs, 0)
			w.ready(d.runs, proc)
			d.runs = nil
		}
	}
	if d.runs == nil {
		w.dispatch(proc)
		return true
	}
	if d.runs.left > 0 {
		w.tells(api.Busy, proc, d.runs, 0)
		return true
	}
	w.done(proc, d, d.runs)
	return false
}

// dispatch: E2: it is one of the most urgent ones that a processor takes; it is idle only if there is none.
func (w *watcher) dispatch(proc int) {
	w.t.Helper()
	best, ok := w.best()
	if !ok {
		w.told(api.Event{Kind: api.Idle, Proc: proc})
		return
	}
	e := w.next()
	b := w.bodies[e.Thread.Place]
	if b == nil || b.state != api.Ready {
		w.t.Fatal("nobody ready is taken:", e)
	}
	if want := (api.Event{Kind: api.Dispatch, Proc: proc, Thread: b.id, Arg: b.stands}); e != want {
		w.t.Fatal(e, "and not", want)
	}
	if w.key(b) != best {
		w.t.Fatal(e, "has", w.key(b), "but there is", best)
	}
	b.lift = age.Level(b.level, b.since, w.now, w.c.Aging)
	b.state, b.proc = api.Running, proc
	w.desks[proc] = desk{runs: b}
}

// roundIsOver: E2: if each processor was Stepped once and all was quiet.
func (w *watcher) roundIsOver(proc int) {
	w.t.Helper()
	w.round = append(w.round, proc)
	w.round = w.round[max(0, len(w.round)-w.c.Procs):]
	procs := slices.Clone(w.round)
	slices.Sort(procs)
	if len(slices.Compact(procs)) < w.c.Procs {
		return
	}
	for _, b := range w.places() {
		if b.state != api.Ready {
			continue
		}
		w.seen.rounds++
		for _, d := range w.desks {
			if d.runs == nil || key.Above(w.key(b), w.key(d.runs)) {
				w.t.Fatal(*b, "waits for", d)
			}
		}
	}
}

// refuse is why an instruction fails; OK, if it does not.
func (w *watcher) refuse(b *body, i api.Instr) api.Errno {
	switch i.Op {
	case api.Lock, api.Unlock:
		switch {
		case i.Arg >= w.c.Mutexes:
			return api.ErrRange
		case i.Op == api.Unlock && w.owners[i.Arg] != b:
			return api.ErrOwner
		case i.Op == api.Unlock:
			return api.OK
		case w.owners[i.Arg] == b:
			return api.ErrOwn
		case w.owners[i.Arg] != nil && slices.Contains(w.behind(b), w.owners[i.Arg]):
			return api.ErrCycle
		}
	case api.Spawn:
		if i.Arg >= len(w.codes) {
			return api.ErrRange
		}
		if len(w.bodies) == w.c.Threads {
			return api.ErrFull
		}
	}
	return api.OK
}

// done is an instruction that is done, or fails.
func (w *watcher) done(proc int, d *desk, b *body) {
	w.t.Helper()
	i := w.codes[b.prog][b.at]
	if i.Op == api.Jump {
		b.at = i.Arg
	} else if i.Op != api.Exit {
		b.at++
	}
	if fault := w.refuse(b, i); fault != api.OK {
		w.told(api.Event{Kind: api.Failed, Proc: proc, Thread: b.id, Arg: int(i.Op), Err: fault})
		w.seen.fails[fault]++
		return
	}
	w.tells(api.Ran, proc, b, int(i.Op))
	switch i.Op {
	case api.Compute:
		b.left = i.Arg
	case api.Prio:
		b.level, b.lift = byte(i.Arg), 0
	case api.Yield:
		w.ready(b, proc)
		d.runs = nil
	case api.Sleep:
		w.asleep++
		b.state, b.till, b.order = api.Sleeping, w.now+uint64(i.Arg), w.asleep
		d.runs = nil
	case api.Spawn:
		born := w.begin(proc, body{prog: i.Arg, level: b.level, server: nobody})
		w.tells(api.Born, proc, born, i.Arg)
	case api.Lock:
		w.lock(proc, d, b, i.Arg)
	case api.Unlock:
		w.unlock(proc, i.Arg)
	case api.Exit:
		for lock, owner := range w.owners {
			if owner == b {
				w.unlock(proc, lock)
			}
		}
		w.tells(api.Gone, proc, b, 0)
		delete(w.bodies, b.id.Place)
		d.runs = nil
	}
}

func (w *watcher) lock(proc int, d *desk, b *body, lock int) {
	w.t.Helper()
	if w.owners[lock] == nil {
		w.owners[lock] = b
		w.tells(api.Granted, proc, b, lock)
		return
	}
	w.lines[lock] = append(w.lines[lock], b)
	b.state, d.runs = api.Blocked, nil
	w.tells(api.Wait, proc, b, lock)
	if slices.Contains(w.behind(b), b) {
		w.t.Fatal("a circle is closed by", *b)
	}
}

// unlock hands a lock on to the most urgent one that waits; of the same, to the one that came first.
func (w *watcher) unlock(proc, lock int) {
	w.t.Helper()
	w.owners[lock] = nil
	if len(w.lines[lock]) == 0 {
		return
	}
	first := w.lines[lock][0]
	for _, b := range w.lines[lock] {
		if key.Above(w.key(b), w.key(first)) {
			first = b
		}
	}
	w.lines[lock] = slices.DeleteFunc(w.lines[lock], func(b *body) bool { return b == first })
	w.owners[lock] = first
	w.tells(api.Granted, proc, first, lock)
	w.ready(first, first.proc)
}

func (w *watcher) tick() {
	w.t.Helper()
	w.now = num.Add(w.now, 1)
	w.ticks++
	for proc := range w.desks {
		if w.desks[proc].runs != nil {
			w.used++
			w.work(proc, &w.desks[proc])
		}
	}
	for i, p := range w.purses {
		if p.woken && p.left == 0 && w.now >= p.deadline {
			p.fill(w.now)
			w.told(api.Event{Kind: api.Refill, Arg: i})
		}
	}
	var due []*body
	for _, b := range w.places() {
		if b.state == api.Sleeping && b.till <= w.now {
			due = append(due, b)
		}
	}
	slices.SortFunc(due, func(a, b *body) int { return cmp.Or(cmp.Compare(a.till, b.till), a.order-b.order) })
	for _, b := range due {
		w.tells(api.Woke, b.proc, b, 0)
		w.ready(b, b.proc)
	}
	w.told(api.Event{Kind: api.Tock})
	w.everyoneIsSomewhere()
}

// work is a processor's part of a tick.
func (w *watcher) work(proc int, d *desk) {
	w.t.Helper()
	b := d.runs
	b.left = max(0, b.left-1)
	d.slice++
	if d.slice == w.c.Quantum {
		d.slice, d.marked = 0, true
	}
	if b.server == nobody || w.purses[b.server].left == 0 {
		return
	}
	p := w.purses[b.server]
	p.left--
	p.charges = append(p.charges, w.now)
	if p.left == 0 {
		w.seen.spent++
		w.tells(api.Spent, proc, b, b.server)
	}
}

// everyoneIsSomewhere: E6.
func (w *watcher) everyoneIsSomewhere() {
	w.t.Helper()
	for _, b := range w.places() {
		runs, waits := 0, 0
		for _, d := range w.desks {
			if d.runs == b {
				runs++
			}
		}
		for _, line := range w.lines {
			for _, other := range line {
				if other == b {
					waits++
				}
			}
		}
		if runs > 1 || waits > 1 || (runs == 1) != (b.state == api.Running) || (waits == 1) != (b.state == api.Blocked) {
			w.t.Fatal(*b, "is run", runs, "times and waits", waits, "times")
		}
	}
}
