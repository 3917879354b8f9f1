package ready_test

import (
	"math"
	"reflect"
	"slices"
	"testing"

	"boatswain/api"
	"boatswain/key"
	"boatswain/ready"
)

const last = uint64(api.MaxTime)

// one is an id with its key.
type one struct {
	id int
	k  api.Key
}

// plain is a set as the document tells it: all that are there, as they were put.
type plain struct {
	n, most int
	l       []one
}

func (p *plain) place(id int) int {
	return slices.IndexFunc(p.l, func(o one) bool { return o.id == id })
}

func (p *plain) may(id int, k api.Key) bool { return id >= 0 && id < p.n && key.Right(k) }

func (p *plain) put(id int, k api.Key) api.Errno {
	switch {
	case !p.may(id, k):
		return api.ErrRange
	case p.place(id) >= 0:
		return api.ErrKnown
	case len(p.l) >= p.most:
		return api.ErrFull
	}
	p.l = append(p.l, one{id, k})
	return api.OK
}

func (p *plain) change(id int, k api.Key) api.Errno {
	at := p.place(id)
	switch {
	case !p.may(id, k):
		return api.ErrRange
	case at < 0:
		return api.ErrNone
	case p.l[at].k != k:
		p.l = append(slices.Delete(p.l, at, at+1), one{id, k})
	}
	return api.OK
}

func (p *plain) remove(id int) api.Errno {
	at := p.place(id)
	switch {
	case !p.may(id, key.Fixed(0)):
		return api.ErrRange
	case at < 0:
		return api.ErrNone
	}
	p.l = slices.Delete(p.l, at, at+1)
	return api.OK
}

// order is all of them: each goes ahead of the first one that it is more urgent than.
func (p *plain) order() []one {
	var l []one
	for _, o := range p.l {
		at := slices.IndexFunc(l, func(other one) bool { return key.Above(o.k, other.k) })
		if at < 0 {
			at = len(l)
		}
		l = slices.Insert(l, at, o)
	}
	return l
}

func (p *plain) take() (int, api.Key, bool) {
	l := p.order()
	if len(l) == 0 {
		return 0, api.Key{}, false
	}
	p.remove(l[0].id)
	return l[0].id, l[0].k, true
}

func (p *plain) fork() *plain { return &plain{p.n, p.most, slices.Clone(p.l)} }

// same holds all that a set tells against what it should tell.
func same(t *testing.T, s *ready.Set, p *plain) {
	t.Helper()
	if s.Len() != len(p.l) {
		t.Fatalf("Len is %d, want %d", s.Len(), len(p.l))
	}
	var ids []int
	for _, o := range p.order() {
		ids = append(ids, o.id)
	}
	if l := s.List(); !slices.Equal(l, ids) {
		t.Fatalf("List is %v, want %v", l, ids)
	}
	id, k, ok := s.Top()
	if want, wantKey, there := p.fork().take(); id != want || k != wantKey || ok != there {
		t.Fatalf("Top is %d %v %v, want %d %v %v", id, k, ok, want, wantKey, there)
	}
	for id := -1; id <= p.n; id++ {
		var want api.Key
		at := p.place(id)
		if at >= 0 {
			want = p.l[at].k
		}
		if k, ok := s.Key(id); k != want || ok != (at >= 0) {
			t.Fatalf("Key(%d) is %v %v, want %v %v", id, k, ok, want, at >= 0)
		}
	}
}

// both does a step on a set and on a plain one, and holds what they answer against each other.
type both struct {
	t *testing.T
	s *ready.Set
	p *plain
}

func begin(t *testing.T, n, most int) both {
	t.Helper()
	s := ready.New(n, most)
	if s == nil {
		t.Fatal(n, most, "may be")
	}
	return both{t, s, &plain{n: n, most: most}}
}

func (b both) put(id int, k api.Key) api.Errno {
	b.t.Helper()
	e := b.s.Put(id, k)
	if want := b.p.put(id, k); e != want {
		b.t.Fatalf("Put(%d, %v) is %d, want %d", id, k, e, want)
	}
	return e
}

func (b both) change(id int, k api.Key) api.Errno {
	b.t.Helper()
	e := b.s.Change(id, k)
	if want := b.p.change(id, k); e != want {
		b.t.Fatalf("Change(%d, %v) is %d, want %d", id, k, e, want)
	}
	return e
}

func (b both) remove(id int) api.Errno {
	b.t.Helper()
	e := b.s.Remove(id)
	if want := b.p.remove(id); e != want {
		b.t.Fatalf("Remove(%d) is %d, want %d", id, e, want)
	}
	return e
}

func (b both) take() (int, api.Key, bool) {
	b.t.Helper()
	id, k, ok := b.s.Take()
	if want, wantKey, there := b.p.take(); id != want || k != wantKey || ok != there {
		b.t.Fatalf("Take is %d %v %v, want %d %v %v", id, k, ok, want, wantKey, there)
	}
	return id, k, ok
}

// puts puts ids, from 0 on, with these keys.
func (b both) puts(keys ...api.Key) {
	b.t.Helper()
	for id, k := range keys {
		if e := b.put(id, k); e != api.OK {
			b.t.Fatal(id, k, e)
		}
	}
	b.same()
}

// changes gives an id a key, of which the answer and what List tells then are known.
func (b both) changes(id int, k api.Key, want ...int) {
	b.t.Helper()
	if e := b.change(id, k); e != api.OK {
		b.t.Fatal(id, k, e)
	}
	b.same()
	if l := b.s.List(); !slices.Equal(l, want) {
		b.t.Fatalf("behind Change(%d, %v) List is %v, want %v", id, k, l, want)
	}
}

// drain takes all out: P10.3, and that it is the List.
func (b both) drain() {
	b.t.Helper()
	l := b.s.List()
	var before api.Key
	for n, want := range l {
		id, k, ok := b.take()
		if id != want || !ok {
			b.t.Fatalf("Take is %d %v, List told %v", id, ok, l)
		}
		if n > 0 && key.Above(k, before) {
			b.t.Fatalf("%v is taken behind %v", k, before)
		}
		before = k
		b.same()
	}
	if id, k, ok := b.take(); ok {
		b.t.Fatal("more than List told:", id, k)
	}
}

func (b both) fork() both { return both{b.t, b.s.Fork(), b.p.fork()} }

func (b both) same() {
	b.t.Helper()
	same(b.t, b.s, b.p)
}

// P10.1: numbers of ids, and how many may be there.
func TestNew(t *testing.T) {
	for _, n := range []int{math.MinInt, -1, 0, api.MaxThreads + 1, api.MaxThreads + 2, 1<<32 + 1, math.MaxInt} {
		for _, most := range []int{math.MinInt, -1, 0, 1, n - 1, n, n + 1, api.MaxThreads, math.MaxInt} {
			if ready.New(n, most) != nil {
				t.Error(n, most, "may not be")
			}
		}
	}
	for _, n := range []int{1, 2, 5, api.MaxThreads - 1, api.MaxThreads} {
		for _, most := range []int{math.MinInt, -1, 0, n + 1, n + 2, 1 << 32, math.MaxInt} {
			if ready.New(n, most) != nil {
				t.Error(n, most, "may not be")
			}
		}
		for _, most := range []int{1, (n + 1) / 2, n} {
			begin(t, n, most).same()
		}
	}
}

// P1: a nil set.
func TestNil(t *testing.T) {
	var s *ready.Set
	for _, id := range []int{math.MinInt, -1, 0, 1, api.MaxThreads, math.MaxInt} {
		for _, k := range []api.Key{key.Fixed(0), key.Dead(0), {Deadline: 1}} {
			if e := s.Put(id, k); e != api.ErrNil {
				t.Error("Put", e)
			}
			if e := s.Change(id, k); e != api.ErrNil {
				t.Error("Change", e)
			}
		}
		if e := s.Remove(id); e != api.ErrNil {
			t.Error("Remove", e)
		}
		if k, ok := s.Key(id); k != (api.Key{}) || ok {
			t.Error("Key", k, ok)
		}
	}
	if id, k, ok := s.Take(); id != 0 || k != (api.Key{}) || ok {
		t.Error("Take", id, k, ok)
	}
	if id, k, ok := s.Top(); id != 0 || k != (api.Key{}) || ok {
		t.Error("Top", id, k, ok)
	}
	if len(s.List()) != 0 || s.Len() != 0 || s.Fork() != nil {
		t.Error("zero values")
	}
}

// A set has the chapter's calls and none of its parts': those would pass by how many may be there, and panic of a nil one.
func TestCalls(t *testing.T) {
	var names []string
	for kind, i := reflect.TypeFor[*ready.Set](), 0; i < kind.NumMethod(); i++ {
		names = append(names, kind.Method(i).Name)
	}
	if !slices.Equal(names, []string{"Change", "Fork", "Key", "Len", "List", "Put", "Remove", "Take", "Top"}) {
		t.Error(names)
	}
}

// P10.1: the document's example.
func TestExample(t *testing.T) {
	b := begin(t, 4, 4)
	b.put(1, key.Fixed(3))
	b.put(2, key.Dead(9))
	b.put(3, key.Fixed(3))
	for _, want := range []one{{2, key.Dead(9)}, {1, key.Fixed(3)}, {3, key.Fixed(3)}} {
		if id, k, ok := b.take(); id != want.id || k != want.k || !ok {
			t.Error(id, k, ok)
		}
	}
}

// P10.1, P10.2: Take and Top of an empty set: one that is new, and one that became so.
func TestEmpty(t *testing.T) {
	b := begin(t, 3, 2)
	for range 2 {
		for range 2 {
			if id, k, ok := b.s.Take(); id != 0 || k != (api.Key{}) || ok {
				t.Error("Take", id, k, ok)
			}
			if id, k, ok := b.s.Top(); id != 0 || k != (api.Key{}) || ok {
				t.Error("Top", id, k, ok)
			}
			if len(b.s.List()) != 0 || b.s.Len() != 0 {
				t.Error(b.s.List(), b.s.Len())
			}
		}
		b.put(2, key.Fixed(4))
		b.put(1, key.Dead(4))
		b.drain()
	}
}

// P10.1: each key that is right may be put, and is told again.
func TestKeys(t *testing.T) {
	right := []api.Key{
		key.Fixed(0), key.Fixed(1), key.Fixed(63), key.Fixed(64), key.Fixed(254), key.Fixed(255),
		key.Dead(0), key.Dead(1), key.Dead(255), key.Dead(1 << 63), key.Dead(last - 1), key.Dead(last),
	}
	for _, k := range right {
		b := begin(t, 2, 1)
		if e := b.put(1, k); e != api.OK {
			t.Error(k, e)
		}
		b.same()
		if got, ok := b.s.Key(1); got != k || !ok {
			t.Error(k, got, ok)
		}
		for _, other := range right {
			if e := b.change(1, other); e != api.OK {
				t.Error(other, e)
			}
			b.same()
		}
		b.change(1, k)
		if id, got, ok := b.take(); id != 1 || got != k || !ok {
			t.Error(id, got, ok)
		}
		b.same()
	}
	b := begin(t, len(right), len(right))
	b.puts(right...)
	if l := b.s.List(); !slices.Equal(l, []int{6, 7, 8, 9, 10, 11, 5, 4, 3, 2, 1, 0}) {
		t.Error(l)
	}
	b.drain()
}

// P10.1, P2: keys that are not right; nothing changes.
func TestWrongKeys(t *testing.T) {
	for _, k := range []api.Key{
		{Deadline: 1}, {Deadline: last}, {Deadline: 1, Level: 1},
		{Edf: true, Level: 1}, {Edf: true, Level: 255}, {Edf: true, Deadline: 5, Level: 9}, {Edf: true, Deadline: last, Level: 255},
	} {
		b := begin(t, 4, 2)
		b.puts(key.Fixed(1), key.Dead(5))
		for id := -1; id <= 4; id++ { // there, not there, none; the set is full, too
			if e := b.put(id, k); e != api.ErrRange {
				t.Error("Put", id, k, e)
			}
			if e := b.change(id, k); e != api.ErrRange {
				t.Error("Change", id, k, e)
			}
			b.same()
		}
	}
}

// P10.1, P10.2: ids of which there is none; nothing changes.
func TestWrongIds(t *testing.T) {
	for _, n := range []int{1, 3, api.MaxThreads} {
		b := begin(t, n, 1)
		b.put(n-1, key.Fixed(7))
		for range 2 {
			for _, id := range []int{math.MinInt, -n, -1, n, n + 1, 1 << 32, math.MaxInt} {
				for _, k := range []api.Key{key.Fixed(7), key.Dead(7), {Deadline: 7}} {
					if e := b.put(id, k); e != api.ErrRange {
						t.Error("Put", id, e)
					}
					if e := b.change(id, k); e != api.ErrRange {
						t.Error("Change", id, e)
					}
				}
				if e := b.remove(id); e != api.ErrRange {
					t.Error("Remove", id, e)
				}
				if k, ok := b.s.Key(id); k != (api.Key{}) || ok {
					t.Error("Key", id, k, ok)
				}
			}
			b.same()
			b.change(n-1, key.Dead(7))
		}
	}
}

// P10.1, P2: what is there already, and what is not; the set is full or not.
func TestKnownAndNone(t *testing.T) {
	for _, most := range []int{2, 3, 4} {
		b := begin(t, 4, most)
		b.puts(key.Fixed(3), key.Dead(3))
		for id := range 2 {
			for _, k := range []api.Key{key.Fixed(3), key.Dead(3), key.Fixed(0), key.Dead(last)} {
				if e := b.put(id, k); e != api.ErrKnown {
					t.Error(id, k, e)
				}
				b.same()
			}
		}
		for id := 2; id < 4; id++ {
			for _, k := range []api.Key{key.Fixed(0), key.Fixed(3), key.Dead(3), {}} {
				if e := b.change(id, k); e != api.ErrNone {
					t.Error(id, k, e)
				}
			}
			if e := b.remove(id); e != api.ErrNone {
				t.Error(id, e)
			}
			if k, ok := b.s.Key(id); k != (api.Key{}) || ok {
				t.Error(id, k, ok)
			}
			b.same()
		}
	}
}

// P10.1: a Put when the set is full; when one is gone, another one may come.
func TestFull(t *testing.T) {
	for _, size := range [][2]int{{1, 1}, {2, 1}, {2, 2}, {9, 4}, {9, 9}, {api.MaxThreads, 1}, {api.MaxThreads, api.MaxQueue}, {api.MaxThreads, api.MaxThreads}} {
		n, most := size[0], size[1]
		b := begin(t, n, most)
		for id := range most {
			k := key.Fixed(byte(id))
			if id%2 == 1 {
				k = key.Dead(uint64(id))
			}
			if e := b.put(id, k); e != api.OK {
				t.Fatal(size, id, e)
			}
		}
		b.same()
		for id := most; id < n && id < most+3; id++ {
			for _, k := range []api.Key{key.Fixed(255), key.Dead(0)} {
				if e := b.put(id, k); e != api.ErrFull {
					t.Error(size, id, e)
				}
			}
		}
		b.same()
		for _, k := range []api.Key{key.Dead(0), key.Dead(9), key.Fixed(9)} { // who is there needs no more room
			if e := b.change(most-1, k); e != api.OK {
				t.Error(size, e)
			}
			b.same()
		}
		b.remove(most - 1)
		if e := b.put(n-1, key.Fixed(1)); e != api.OK {
			t.Error(size, e)
		}
		b.take()
		if e := b.put(n-1, key.Dead(1)); e != api.OK && e != api.ErrKnown {
			t.Error(size, e)
		}
		b.same()
	}
}

// P10.1: of the same key, the one that was put first goes first, whatever its id, and whether it was there already once.
func TestOrderOfTheSame(t *testing.T) {
	for _, k := range []api.Key{key.Fixed(0), key.Fixed(200), key.Fixed(255), key.Dead(0), key.Dead(77), key.Dead(last)} {
		b := begin(t, 6, 6)
		for _, id := range []int{4, 1, 5, 0, 3} {
			b.put(id, k)
		}
		b.same()
		if l := b.s.List(); !slices.Equal(l, []int{4, 1, 5, 0, 3}) {
			t.Error(k, l)
		}
		b.take()
		b.remove(5)
		b.put(4, k)
		b.put(2, k)
		b.put(5, k)
		b.same()
		if l := b.s.List(); !slices.Equal(l, []int{1, 0, 3, 4, 2, 5}) {
			t.Error(k, l)
		}
		b.drain()
	}
}

// P10.1: all ids of one set at the same key, the greatest first.
func TestAllOfTheSame(t *testing.T) {
	for _, k := range []api.Key{key.Fixed(31), key.Dead(31)} {
		s := ready.New(api.MaxThreads, api.MaxThreads)
		for id := api.MaxThreads - 1; id >= 0; id-- {
			if e := s.Put(id, k); e != api.OK {
				t.Fatal(id, e)
			}
		}
		for want := api.MaxThreads - 1; want >= 0; want-- {
			if id, got, ok := s.Take(); id != want || got != k || !ok {
				t.Fatal(want, id, got, ok)
			}
		}
	}
}

// P10.4: a Change to the same key changes nothing, not the order of the same either.
func TestChangeToTheSame(t *testing.T) {
	b := begin(t, 6, 6)
	b.puts(key.Fixed(3), key.Fixed(3), key.Fixed(3), key.Dead(8), key.Dead(8), key.Dead(8))
	for id, k := range []api.Key{key.Fixed(3), key.Fixed(3), key.Fixed(3), key.Dead(8), key.Dead(8), key.Dead(8)} {
		b.changes(id, k, 3, 4, 5, 0, 1, 2)
	}
	b.drain()
}

// P10.1: a Change to a key as urgent as others' puts an id behind them; from a level to a deadline and back.
func TestChange(t *testing.T) {
	b := begin(t, 6, 6)
	b.puts(key.Fixed(3), key.Fixed(3), key.Fixed(5), key.Dead(8), key.Dead(8), key.Dead(9))
	b.changes(2, key.Fixed(3), 3, 4, 5, 0, 1, 2)
	b.changes(0, key.Fixed(2), 3, 4, 5, 1, 2, 0)
	b.changes(0, key.Fixed(3), 3, 4, 5, 1, 2, 0)
	b.changes(3, key.Dead(9), 4, 5, 3, 1, 2, 0)
	b.changes(3, key.Dead(8), 4, 3, 5, 1, 2, 0)
	b.changes(1, key.Dead(8), 4, 3, 1, 5, 2, 0) // a level becomes a deadline
	b.changes(4, key.Fixed(3), 3, 1, 5, 2, 0, 4)
	b.changes(1, key.Fixed(3), 3, 5, 2, 0, 4, 1) // and back
	b.changes(5, key.Fixed(255), 3, 5, 2, 0, 4, 1)
	b.changes(2, key.Dead(last), 3, 2, 5, 0, 4, 1)
	b.changes(2, key.Fixed(0), 3, 5, 0, 4, 1, 2)
	b.changes(1, key.Dead(0), 1, 3, 5, 0, 4, 2)
	b.drain()
}

// P10.1: a level and a deadline of the same number are two keys.
func TestChangeOfKind(t *testing.T) {
	for _, x := range []uint64{0, 1, 8, 255} {
		b := begin(t, 3, 3)
		b.puts(key.Fixed(byte(x)), key.Fixed(byte(x)), key.Dead(x))
		b.changes(0, key.Dead(x), 2, 0, 1)
		b.changes(2, key.Fixed(byte(x)), 0, 1, 2)
		b.changes(0, key.Fixed(byte(x)), 1, 2, 0)
		b.drain()
	}
}

// P10.1: Remove of the first one, of one in the midst and of the last one, of levels and of deadlines.
func TestRemove(t *testing.T) {
	keys := []api.Key{key.Fixed(3), key.Fixed(3), key.Fixed(3), key.Fixed(9), key.Dead(8), key.Dead(8), key.Dead(8), key.Dead(1)}
	for id := range keys {
		b := begin(t, len(keys), len(keys))
		b.puts(keys...)
		if e := b.remove(id); e != api.OK {
			t.Error(id, e)
		}
		b.same()
		if e := b.remove(id); e != api.ErrNone {
			t.Error(id, e)
		}
		b.drain()
	}
}

// P10.2: looks change nothing.
func TestLooks(t *testing.T) {
	b := begin(t, 5, 4)
	b.puts(key.Fixed(3), key.Dead(9), key.Fixed(4), key.Dead(2))
	for range 3 {
		if id, k, ok := b.s.Top(); id != 3 || k != key.Dead(2) || !ok {
			t.Error(id, k, ok)
		}
		if k, ok := b.s.Key(2); k != key.Fixed(4) || !ok {
			t.Error(k, ok)
		}
		if l := b.s.List(); !slices.Equal(l, []int{3, 1, 2, 0}) || b.s.Len() != 4 {
			t.Error(l, b.s.Len())
		}
		b.same()
	}
}

// P3: a list that was answered is the caller's, with the room behind it.
func TestListIsTheCallers(t *testing.T) {
	b := begin(t, 9, 9)
	b.puts(key.Fixed(3), key.Dead(9), key.Fixed(4), key.Dead(2), key.Fixed(3))
	l, m := b.s.List(), b.s.List()
	for i, whole := 0, l[:cap(l)]; i < len(whole); i++ {
		whole[i] = 8
	}
	b.same()
	b.put(7, key.Dead(0))
	b.take()
	b.take()
	if !slices.Equal(m, []int{3, 1, 2, 0, 4}) {
		t.Error(m)
	}
}

// P10.2, P4: a set and its Fork are the same at first, and each its own from then on.
func TestFork(t *testing.T) {
	b := begin(t, 8, 6)
	b.puts(key.Fixed(3), key.Dead(9), key.Fixed(3), key.Dead(9))
	f := b.fork()
	f.same()
	b.put(4, key.Dead(9))
	b.put(5, key.Fixed(3))
	f.put(6, key.Dead(9))
	f.put(7, key.Fixed(3))
	b.same()
	f.same()
	if e := f.put(4, key.Dead(9)); e != api.ErrFull {
		t.Error("a Fork holds as many as its set:", e)
	}
	b.take()
	b.remove(2)
	b.change(0, key.Dead(1))
	b.same()
	f.same()
	f.change(1, key.Fixed(3))
	f.change(2, key.Dead(9))
	f.take()
	b.same()
	f.same()
	g := f.fork()
	g.same()
	g.drain()
	b.same()
	f.same()
	f.drain()
	b.drain()
	begin(t, 1, 1).fork().same()
}

// rolls draws numbers below one, always the same ones.
func rolls(seed uint64) func(below int) int {
	return func(below int) int {
		seed = seed*6364136223846793005 + 1442695040888963407
		return int(seed >> 33 % uint64(below))
	}
}

// P10.1 to P10.4, P4, P6: long runs of every deed, wrong ones too, against the plain set; Forks stay as they were.
func TestLongRuns(t *testing.T) {
	keys := []api.Key{
		key.Fixed(0), key.Fixed(1), key.Fixed(1), key.Fixed(64), key.Fixed(255), key.Dead(0), key.Dead(1),
		key.Dead(1), key.Dead(64), key.Dead(last), {Deadline: 1}, {Edf: true, Level: 1},
	}
	for _, size := range [][2]int{{1, 1}, {2, 1}, {3, 2}, {5, 5}, {12, 7}, {40, 33}, {60, 60}} {
		n, most := size[0], size[1]
		b := begin(t, n, most)
		f := b.fork()
		next := rolls(uint64(n))
		seen := map[api.Errno]int{}
		for range 60000 / (n + 10) {
			id, k := next(n+2)-1, keys[next(len(keys))]
			switch kind := next(20); {
			case kind < 8:
				seen[b.put(id, k)]++
			case kind < 13:
				seen[b.change(id, k)]++
			case kind < 15:
				seen[b.remove(id)]++
			case kind < 18:
				b.take()
			case kind == 18:
				g := b.fork()
				g.drain()
			case kind == 19:
				f.same()
				f = b.fork()
				if next(2) == 0 { // go on with the Fork
					b, f = f, b
				}
			}
			b.same()
		}
		for _, e := range []api.Errno{api.OK, api.ErrRange, api.ErrKnown, api.ErrNone} {
			if seen[e] == 0 {
				t.Error(size, "never came to", e)
			}
		}
		if most < 30 && most < n && seen[api.ErrFull] == 0 {
			t.Error(size, "was never full")
		}
		b.drain()
	}
}
