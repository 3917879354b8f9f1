package sched

import (
	"boatswain/api"
	"boatswain/exec"
	"boatswain/key"
	"boatswain/num"
)

// step is one of a processor, with what it has told so far.
type step struct {
	m    *Machine
	proc int
	on   *processor // that of the number proc
	told []api.Event
}

// over is what a step gives itself up with when nothing else is done in it,
// however deep it stands: who called it need not ask.
type over struct{}

// act does the step.
func (s *step) act(draw uint64) {
	defer func() {
		switch x := recover().(type) {
		case nil, over:
		default:
			panic(x) // none of a step's own: a fault of the program
		}
	}()
	s.giveWay(draw)
	s.takeOne(draw)
	s.goOn()
}

// tell tells something of a thread.
func (s *step) tell(kind api.Kind, id api.Id, arg int) {
	s.told = append(s.told, api.Event{Kind: kind, Proc: s.proc, Thread: id, Arg: arg})
}

// end tells the last thing of a step that ends early.
func (s *step) end(kind api.Kind, id api.Id, arg int) {
	s.tell(kind, id, arg)
	panic(over{})
}

// giveWay puts back what the processor runs, if something else is to go first.
func (s *step) giveWay(draw uint64) {
	_, best, _, ok := s.m.places.Best(s.proc, draw)
	if s.on.runs == none || !ok {
		return
	}
	k := s.m.graph.Key(s.on.runs)
	if key.Above(best, k) || s.on.marked && !key.Above(k, best) {
		s.tell(api.Preempt, s.m.threads[s.on.runs].id, 0)
		s.putBack()
	}
}

// putBack lets what the processor runs become ready here.
func (s *step) putBack() {
	s.m.becomeReady(s.on.runs, s.proc)
	s.on.runs = none
}

// takeOne lets a processor that runs nothing take what is most urgent, if there
// is something. That is all of its step.
func (s *step) takeOne(draw uint64) {
	if s.on.runs != none {
		return
	}
	place, _, at, ok := s.m.places.Take(s.proc, draw)
	if !ok {
		s.end(api.Idle, api.Id{}, 0)
	}
	t := &s.m.threads[place]
	s.m.table.Move(t.id, api.Running)
	t.proc, t.lift = s.proc, s.m.aged(*t)
	*s.on = processor{runs: place}
	s.end(api.Dispatch, t.id, at)
}

// goOn does the next instruction of what the processor runs.
func (s *step) goOn() {
	t := &s.m.threads[s.on.runs]
	i, next, busy := exec.Step(s.m.progs[t.prog], t.frame)
	if busy {
		s.end(api.Busy, t.id, 0)
	}
	t.frame = next
	s.do(t, i)
}

// do does an instruction. What may be refused is asked ahead of telling that it
// ran: so what Failed has changed nothing.
func (s *step) do(t *thread, i api.Instr) {
	switch i.Op {
	case api.Lock:
		s.lock(t, i)
	case api.Unlock:
		next, e := s.m.graph.Unlock(t.id.Place, i.Arg)
		s.ran(t, i, e)
		s.grant(next, i.Arg)
	case api.Spawn:
		born, e := s.spawn(t, i.Arg)
		s.ran(t, i, e)
		s.told = append(s.told, born)
	case api.Sleep:
		s.m.sleepers.Set(t.id.Place, num.Add(s.m.Now(), uint64(i.Arg)))
		s.ran(t, i, api.OK)
		s.leave(t, api.Sleeping)
	case api.Yield:
		s.ran(t, i, api.OK)
		s.putBack()
	case api.Prio:
		t.level, t.lift = byte(i.Arg), 0
		s.ran(t, i, api.OK)
	case api.Exit:
		s.ran(t, i, api.OK)
		s.exit(t.id)
	default:
		s.ran(t, i, api.OK)
	}
}

// ran tells that an instruction ran; or that it Failed, which ends the step.
func (s *step) ran(t *thread, i api.Instr, e api.Errno) {
	if e != api.OK {
		s.told = append(s.told, api.Event{Kind: api.Failed, Proc: s.proc, Thread: t.id, Arg: int(i.Op), Err: e})
		panic(over{})
	}
	s.tell(api.Ran, t.id, int(i.Op))
}

// leave lets a thread be no more run here.
func (s *step) leave(t *thread, state api.State) {
	s.m.table.Move(t.id, state)
	s.on.runs = none
}

// lock lets a thread have a lock, or wait for it.
func (s *step) lock(t *thread, i api.Instr) {
	got, e := s.m.graph.Lock(t.id.Place, i.Arg)
	s.ran(t, i, e)
	if got {
		s.end(api.Granted, t.id, i.Arg)
	}
	s.tell(api.Wait, t.id, i.Arg)
	s.leave(t, api.Blocked)
}

// grant lets who has a lock now, if somebody has, go on where it ran last.
func (s *step) grant(next, lock int) {
	if next == none {
		return
	}
	t := s.m.threads[next]
	s.tell(api.Granted, t.id, lock)
	s.m.becomeReady(next, t.proc)
}

// spawn lets a thread of a program begin here, of the level of the one that asks.
func (s *step) spawn(t *thread, prog int) (api.Event, api.Errno) {
	if !s.m.hasProg(prog) {
		return api.Event{}, api.ErrRange
	}
	return s.m.begin(s.proc, thread{prog: prog, level: t.level, server: none})
}

// exit lets a thread end: its locks go on to others ahead of its place.
func (s *step) exit(id api.Id) {
	for _, lock := range s.m.graph.Held(id.Place) {
		next, _ := s.m.graph.Unlock(id.Place, lock)
		s.grant(next, lock)
	}
	s.m.table.Release(id)
	s.m.threads[id.Place] = thread{}
	s.on.runs = none
	s.tell(api.Gone, id, 0)
}
