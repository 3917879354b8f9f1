package sched_test

import (
	"cmp"
	"slices"

	"boatswain/age"
	"boatswain/api"
	"boatswain/exec"
	"boatswain/key"
	"boatswain/num"
	"boatswain/prog"
	"boatswain/sched"
)

// nobody is the thread, the lock or the server that there is not.
const nobody = -1

// body is a thread as the document tells it.
type body struct {
	id          api.Id
	state       api.State
	prog        int
	level, lift byte
	server      int
	proc        int // where it ran last
	frame       exec.Frame
	since       uint64
	own         api.Key // as it was told last
}

// desk is a processor: who runs there, by its place.
type desk struct {
	runs   int
	slice  uint64
	marked bool
}

// purse is a server.
type purse struct {
	budget, period, left, deadline uint64
	sleeps                         bool
}

// stand is one that is ready: at which place, with which key.
type stand struct {
	place int
	k     api.Key
	at    int
}

// sleeper is one that sleeps, and till when.
type sleeper struct {
	place int
	till  uint64
}

// plain is a machine as the document tells it: lists, gone through from their beginning. Of the layers it asks only those that keep nothing.
type plain struct {
	c       api.Config
	now     uint64
	progs   [][]api.Instr
	purses  []purse
	gens    []uint32 // how often each place was given out
	bodies  []body   // by places; Free ones are none
	owners  []int    // by locks
	lines   [][]int  // by locks: who waits, as they came
	stands  []stand  // as they were put
	sleep   []sleeper
	desks   []desk
	told    []api.Event
	charged []int // the servers that the last Tick charged
}

func plainNew(c api.Config) *plain {
	return &plain{
		c:      c,
		gens:   make([]uint32, c.Threads),
		bodies: make([]body, c.Threads),
		owners: slices.Repeat([]int{nobody}, c.Mutexes),
		lines:  make([][]int, c.Mutexes),
		desks:  slices.Repeat([]desk{{runs: nobody}}, c.Procs),
	}
}

func (p *plain) fork() *plain {
	f := *p
	f.progs = slices.Clone(p.progs)
	f.purses = slices.Clone(p.purses)
	f.gens = slices.Clone(p.gens)
	f.bodies = slices.Clone(p.bodies)
	f.owners = slices.Clone(p.owners)
	f.lines = slices.Clone(p.lines)
	for i := range f.lines {
		f.lines[i] = slices.Clone(f.lines[i])
	}
	f.stands = slices.Clone(p.stands)
	f.sleep = slices.Clone(p.sleep)
	f.desks = slices.Clone(p.desks)
	f.told, f.charged = nil, nil
	return &f
}

func (p *plain) tell(e api.Event) { p.told = append(p.told, e) }

// ends hands out what was told.
func (p *plain) ends() []api.Event {
	l := p.told
	p.told = nil
	return l
}

func (p *plain) isProg(n int) bool   { return n >= 0 && n < len(p.progs) }
func (p *plain) isProc(n int) bool   { return n >= 0 && n < len(p.desks) }
func (p *plain) isServer(n int) bool { return n >= 0 && n < len(p.purses) }

func (p *plain) active(server int) bool { return p.isServer(server) && p.purses[server].left > 0 }

// ownKey is a thread's own.
func (p *plain) ownKey(b body) api.Key {
	if p.active(b.server) {
		return key.Dead(p.purses[b.server].deadline)
	}
	if b.state == api.Ready {
		return key.Fixed(age.Level(b.level, b.since, p.now, p.c.Aging))
	}
	if b.state == api.Running {
		return key.Fixed(max(b.level, b.lift))
	}
	return key.Fixed(b.level)
}

// behind are all that wait, through whatever locks, for a thread.
func (p *plain) behind(place int) []int {
	var l []int
	for lock, owner := range p.owners {
		if owner == place {
			for _, waiter := range p.lines[lock] {
				l = append(append(l, waiter), p.behind(waiter)...)
			}
		}
	}
	return l
}

// key is the most urgent of what a thread, and all that wait for it, were told to be.
func (p *plain) key(place int) api.Key {
	k := p.bodies[place].own
	for _, other := range p.behind(place) {
		k = key.Max(k, p.bodies[other].own)
	}
	return k
}

func (p *plain) settle(but int) {
	for place, b := range p.bodies {
		if b.state != api.Free {
			p.bodies[place].own = p.ownKey(b)
		}
	}
	for place, b := range p.bodies {
		if b.state == api.Ready && place != but {
			p.change(place, p.key(place))
		}
	}
}

// change is a ready one's: to another key it goes as if it were put anew.
func (p *plain) change(place int, k api.Key) {
	i := slices.IndexFunc(p.stands, func(s stand) bool { return s.place == place })
	if s := p.stands[i]; s.k != k {
		p.stands = append(slices.Delete(p.stands, i, i+1), stand{place, k, s.at})
	}
}

// at are those of a place, in order.
func (p *plain) at(at int) []stand {
	var l []stand
	for _, s := range p.stands {
		if s.at == at {
			l = append(l, s)
		}
	}
	slices.SortStableFunc(l, func(a, b stand) int {
		switch {
		case key.Above(a.k, b.k):
			return -1
		case key.Above(b.k, a.k):
			return 1
		}
		return 0
	})
	return l
}

func (p *plain) put(proc, place int, k api.Key) {
	at := proc
	if len(p.at(proc)) >= p.c.Queue {
		at = p.c.Procs
	}
	p.stands = append(p.stands, stand{place, k, at})
}

// best is the most urgent Top; of the same the processor's own, the shared one, the others from proc + 1 + draw on.
func (p *plain) best(proc int, draw uint64) (stand, bool) {
	n := uint64(p.c.Procs)
	order := []int{proc, p.c.Procs}
	for i := range n {
		order = append(order, int((uint64(proc)+1+draw%n+i)%n))
	}
	var best stand
	ok := false
	for _, at := range order {
		if l := p.at(at); len(l) > 0 && (!ok || key.Above(l[0].k, best.k)) {
			best, ok = l[0], true
		}
	}
	return best, ok
}

// fill is what Wake and Refill do.
func (p *plain) fill(server int) {
	s := &p.purses[server]
	*s = purse{budget: s.budget, period: s.period, left: s.budget, deadline: num.Add(p.now, s.period)}
}

func (p *plain) becomeReady(place, proc int) {
	b := &p.bodies[place]
	was := b.state
	b.state, b.since, b.lift = api.Ready, p.now, 0
	if b.server != nobody && was != api.Running {
		if s := p.purses[b.server]; s.sleeps || p.now >= s.deadline {
			p.fill(b.server)
		}
	}
	p.settle(place)
	p.put(proc, place, p.key(place))
}

func (p *plain) load(code []api.Instr) (int, api.Errno) {
	if e, _ := prog.Check(code); e != api.OK {
		return 0, api.ErrForm
	}
	if len(p.progs) >= api.MaxProgs {
		return 0, api.ErrFull
	}
	p.progs = append(p.progs, slices.Clone(code))
	return len(p.progs) - 1, api.OK
}

func (p *plain) admit(budget, period uint64) (int, api.Errno) {
	if budget < 1 || budget > period || api.Hyper%period != 0 {
		return 0, api.ErrRange
	}
	if len(p.purses) >= api.MaxServers {
		return 0, api.ErrFull
	}
	asks := budget * (api.Hyper / period)
	for _, s := range p.purses {
		asks += s.budget * (api.Hyper / s.period)
	}
	if asks > uint64(p.c.Procs)*api.Hyper {
		return 0, api.ErrLoad
	}
	p.purses = append(p.purses, purse{budget: budget, period: period, sleeps: true})
	return len(p.purses) - 1, api.OK
}

// begin is at the least free place.
func (p *plain) begin(proc, prog int, level byte, server int) (api.Id, api.Errno) {
	place := slices.IndexFunc(p.bodies, func(b body) bool { return b.state == api.Free })
	if place < 0 {
		return api.Id{}, api.ErrFull
	}
	p.gens[place]++
	id := api.Id{Place: place, Gen: p.gens[place]}
	p.bodies[place] = body{id: id, state: api.Ready, prog: prog, level: level, server: server}
	p.becomeReady(place, proc)
	return id, api.OK
}

func (p *plain) start(prog int, level byte, server int) ([]api.Event, api.Errno) {
	if !p.isProg(prog) || server != -1 && !p.isServer(server) {
		return nil, api.ErrRange
	}
	id, e := p.begin(0, prog, level, server)
	if e != api.OK {
		return nil, e
	}
	p.settle(nobody)
	p.tell(api.Event{Kind: api.Born, Thread: id, Arg: prog})
	return p.ends(), api.OK
}

func (p *plain) step(proc int, draw uint64) ([]api.Event, api.Errno) {
	if !p.isProc(proc) {
		return nil, api.ErrRange
	}
	p.act(proc, draw)
	p.settle(nobody)
	return p.ends(), api.OK
}

func (p *plain) act(proc int, draw uint64) {
	d := &p.desks[proc]
	b, some := p.best(proc, draw)
	if d.runs != nobody && some {
		c := p.key(d.runs)
		if key.Above(b.k, c) || d.marked && !key.Above(c, b.k) {
			p.tell(api.Event{Kind: api.Preempt, Proc: proc, Thread: p.bodies[d.runs].id})
			p.becomeReady(d.runs, proc)
			d.runs = nobody
		}
	}
	if d.runs == nobody {
		s, ok := p.best(proc, draw)
		if !ok {
			p.tell(api.Event{Kind: api.Idle, Proc: proc})
			return
		}
		p.stands = slices.DeleteFunc(p.stands, func(other stand) bool { return other.place == s.place })
		t := &p.bodies[s.place]
		t.lift = age.Level(t.level, t.since, p.now, p.c.Aging)
		t.state, t.proc = api.Running, proc
		*d = desk{runs: s.place}
		p.tell(api.Event{Kind: api.Dispatch, Proc: proc, Thread: t.id, Arg: s.at})
		return
	}
	t := &p.bodies[d.runs]
	i, next, busy := exec.Step(p.progs[t.prog], t.frame)
	if busy {
		p.tell(api.Event{Kind: api.Busy, Proc: proc, Thread: t.id})
		return
	}
	t.frame = next
	p.done(proc, d, t, i)
}

func (p *plain) done(proc int, d *desk, t *body, i api.Instr) {
	id := t.id
	ran := func(e api.Errno) {
		if e == api.OK {
			p.tell(api.Event{Kind: api.Ran, Proc: proc, Thread: id, Arg: int(i.Op)})
		} else {
			p.tell(api.Event{Kind: api.Failed, Proc: proc, Thread: id, Arg: int(i.Op), Err: e})
		}
	}
	switch i.Op {
	case api.Compute, api.Jump:
		ran(api.OK)
	case api.Lock:
		e := p.mayLock(id.Place, i.Arg)
		ran(e)
		if e == api.OK && p.owners[i.Arg] == nobody {
			p.owners[i.Arg] = id.Place
			p.tell(api.Event{Kind: api.Granted, Proc: proc, Thread: id, Arg: i.Arg})
		} else if e == api.OK {
			p.lines[i.Arg] = append(p.lines[i.Arg], id.Place)
			p.tell(api.Event{Kind: api.Wait, Proc: proc, Thread: id, Arg: i.Arg})
			t.state, d.runs = api.Blocked, nobody
		}
	case api.Unlock:
		switch {
		case i.Arg >= p.c.Mutexes:
			ran(api.ErrRange)
		case p.owners[i.Arg] != id.Place:
			ran(api.ErrOwner)
		default:
			ran(api.OK)
			p.unlock(proc, i.Arg)
		}
	case api.Spawn:
		if !p.isProg(i.Arg) {
			ran(api.ErrRange)
			return
		}
		born, e := p.begin(proc, i.Arg, t.level, nobody)
		ran(e)
		if e == api.OK {
			p.tell(api.Event{Kind: api.Born, Proc: proc, Thread: born, Arg: i.Arg})
		}
	case api.Sleep:
		ran(api.OK)
		p.sleep = append(p.sleep, sleeper{id.Place, num.Add(p.now, uint64(i.Arg))})
		t.state, d.runs = api.Sleeping, nobody
	case api.Yield:
		ran(api.OK)
		p.becomeReady(id.Place, proc)
		d.runs = nobody
	case api.Prio:
		t.level, t.lift = byte(i.Arg), 0
		ran(api.OK)
	case api.Exit:
		ran(api.OK)
		for lock, owner := range p.owners {
			if owner == id.Place {
				p.unlock(proc, lock)
			}
		}
		t.state, d.runs = api.Free, nobody
		p.tell(api.Event{Kind: api.Gone, Proc: proc, Thread: id})
	}
}

func (p *plain) mayLock(place, lock int) api.Errno {
	switch {
	case lock >= p.c.Mutexes:
		return api.ErrRange
	case p.owners[lock] == place:
		return api.ErrOwn
	case p.owners[lock] != nobody && slices.Contains(p.behind(place), p.owners[lock]):
		return api.ErrCycle
	}
	return api.OK
}

// unlock hands a lock on to the most urgent one that waits; of the same, to the one that came first.
func (p *plain) unlock(proc, lock int) {
	line := p.lines[lock]
	if len(line) == 0 {
		p.owners[lock] = nobody
		return
	}
	first := 0
	for i, place := range line {
		if key.Above(p.key(place), p.key(line[first])) {
			first = i
		}
	}
	next := line[first]
	p.lines[lock] = slices.Delete(line, first, first+1)
	p.owners[lock] = next
	p.tell(api.Event{Kind: api.Granted, Proc: proc, Thread: p.bodies[next].id, Arg: lock})
	p.becomeReady(next, p.bodies[next].proc)
}

func (p *plain) tick() []api.Event {
	p.now = num.Add(p.now, 1)
	p.charged = nil
	for proc := range p.desks {
		p.work(proc)
	}
	for i, s := range p.purses {
		if s.left == 0 && s.deadline <= p.now && !s.sleeps {
			p.fill(i)
			p.tell(api.Event{Kind: api.Refill, Arg: i})
		}
	}
	var due []sleeper
	for _, s := range p.sleep {
		if s.till <= p.now {
			due = append(due, s)
		}
	}
	p.sleep = slices.DeleteFunc(p.sleep, func(s sleeper) bool { return s.till <= p.now })
	slices.SortStableFunc(due, func(a, b sleeper) int { return cmp.Compare(a.till, b.till) })
	for _, s := range due {
		b := p.bodies[s.place]
		p.tell(api.Event{Kind: api.Woke, Proc: b.proc, Thread: b.id})
		p.becomeReady(s.place, b.proc)
	}
	p.settle(nobody)
	p.tell(api.Event{Kind: api.Tock})
	return p.ends()
}

// work is a processor's part of a tick.
func (p *plain) work(proc int) {
	d := &p.desks[proc]
	if d.runs == nobody {
		return
	}
	t := &p.bodies[d.runs]
	t.frame = exec.Tick(t.frame)
	d.slice++
	if d.slice == p.c.Quantum {
		d.marked, d.slice = true, 0
	}
	if p.active(t.server) {
		p.charged = append(p.charged, t.server)
		p.purses[t.server].left--
		if p.purses[t.server].left == 0 {
			p.tell(api.Event{Kind: api.Spent, Proc: proc, Thread: t.id, Arg: t.server})
		}
	}
}

func (p *plain) threads() []sched.Thread {
	var l []sched.Thread
	for place, b := range p.bodies {
		if b.state != api.Free {
			l = append(l, sched.Thread{Id: b.id, State: b.state, Key: p.key(place), Level: b.level, Server: b.server, Proc: b.proc, At: b.frame.At, Left: b.frame.Left})
		}
	}
	return l
}

func (p *plain) waiting(at int) []int {
	var l []int
	for _, s := range p.at(at) {
		l = append(l, s.place)
	}
	return l
}
