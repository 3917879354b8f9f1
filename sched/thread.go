package sched

import (
	"boatswain/age"
	"boatswain/api"
	"boatswain/exec"
	"boatswain/key"
)

// thread is what the machine itself keeps of one. Its state is in the table, its
// key in the graph.
type thread struct {
	id          api.Id
	prog        int
	level, lift byte
	server      int // none, or its number
	proc        int // where it ran last
	frame       exec.Frame
	since       uint64 // while it is Ready
}

// state is a thread's.
func (m *Machine) state(t thread) api.State {
	s, _ := m.table.State(t.id)
	return s
}

// aged is the level of a thread that waits to run.
func (m *Machine) aged(t thread) byte {
	return age.Level(t.level, t.since, m.Now(), m.aging)
}

// own is a thread's own key. No server is Active that is none.
func (m *Machine) own(t thread) api.Key {
	if m.servers.Active(t.server) {
		return key.Dead(m.servers.Deadline(t.server))
	}
	switch m.state(t) {
	case api.Ready:
		return key.Fixed(m.aged(t))
	case api.Running:
		return key.Fixed(max(t.level, t.lift))
	}
	return key.Fixed(t.level)
}

// settle tells the graph of each thread's own key, and then the places of what
// has become of the keys of those that stand there. One that is only just
// becoming ready stands nowhere: of it Change is refused.
func (m *Machine) settle() {
	live := m.table.Live()
	for _, id := range live {
		m.graph.Base(id.Place, m.own(m.threads[id.Place]))
	}
	for _, id := range live {
		if m.state(m.threads[id.Place]) == api.Ready {
			m.places.Change(id.Place, m.graph.Key(id.Place))
		}
	}
}

// begin lets a thread begin, which becomes ready at a processor. It ran nowhere
// yet.
func (m *Machine) begin(proc int, t thread) (api.Event, api.Errno) {
	id, e := m.table.Alloc()
	if e != api.OK {
		return api.Event{}, e
	}
	t.id = id
	m.threads[id.Place] = t
	m.becomeReady(id.Place, proc)
	return api.Event{Kind: api.Born, Proc: proc, Thread: id, Arg: t.prog}, api.OK
}

// becomeReady lets a thread be ready, at a processor. One that begins is so
// already, as the table says, and its Move is refused; without a server, its
// Wake is.
func (m *Machine) becomeReady(place, proc int) {
	t := &m.threads[place]
	was := m.state(*t)
	m.table.Move(t.id, api.Ready)
	t.since, t.lift = m.Now(), 0
	if was != api.Running {
		m.servers.Wake(t.server, m.Now())
	}
	m.settle()
	m.places.Put(proc, place, m.graph.Key(place))
}
