package cbs_test

import (
	"math"
	"math/big"
	"slices"
	"testing"

	"boatswain/api"
	"boatswain/cbs"
)

const last = uint64(api.MaxTime)

// one is a server as the document tells it.
type one struct {
	budget, period, left, deadline uint64
	sleeps                         bool
}

// fill is what Wake and Refill do; a sum of times stops at the last one.
func (v *one) fill(now uint64) {
	v.left, v.sleeps, v.deadline = v.budget, false, last
	if sum := now + v.period; sum >= now {
		v.deadline = sum
	}
}

// plain are servers as the document tells them.
type plain struct {
	procs int
	l     []one
}

// asked is what all ask and a budget in each period more, in true numbers.
func (p *plain) asked(budget, period uint64) *big.Rat {
	sum := part(budget, period)
	for _, v := range p.l {
		sum.Add(sum, part(v.budget, v.period))
	}
	return sum
}

// part is a budget times Hyper by its period.
func part(budget, period uint64) *big.Rat {
	n := new(big.Int).SetUint64(budget)
	n.Mul(n, big.NewInt(api.Hyper))
	return new(big.Rat).SetFrac(n, new(big.Int).SetUint64(period))
}

// borne is the most that all may ask.
func (p *plain) borne() *big.Rat {
	return new(big.Rat).SetInt(new(big.Int).Mul(big.NewInt(int64(p.procs)), big.NewInt(api.Hyper)))
}

func (p *plain) admit(budget, period uint64) (int, api.Errno) {
	switch {
	case budget < 1 || budget > period || api.Hyper%period != 0:
		return 0, api.ErrRange
	case len(p.l) >= api.MaxServers:
		return 0, api.ErrFull
	case p.asked(budget, period).Cmp(p.borne()) > 0:
		return 0, api.ErrLoad
	}
	p.l = append(p.l, one{budget: budget, period: period, sleeps: true})
	return len(p.l) - 1, api.OK
}

func (p *plain) has(i int) bool { return i >= 0 && i < len(p.l) }

func (p *plain) wake(i int, now uint64) api.Errno {
	if !p.has(i) {
		return api.ErrRange
	}
	if v := &p.l[i]; now >= v.deadline || v.sleeps {
		v.fill(now)
	}
	return api.OK
}

func (p *plain) charge(i int) (bool, api.Errno) {
	if !p.has(i) {
		return false, api.ErrRange
	}
	if p.l[i].left == 0 {
		return false, api.ErrNone
	}
	p.l[i].left--
	return p.l[i].left == 0, api.OK
}

func (p *plain) refill(now uint64) []int {
	var filled []int
	for i := range p.l {
		if v := &p.l[i]; v.left == 0 && v.deadline <= now && !v.sleeps {
			v.fill(now)
			filled = append(filled, i)
		}
	}
	return filled
}

func (p *plain) fork() *plain { return &plain{p.procs, slices.Clone(p.l)} }

// same holds all that servers tell against what they should tell.
func same(t *testing.T, s *cbs.Servers, p *plain) {
	t.Helper()
	if s.Len() != len(p.l) {
		t.Fatalf("Len is %d, want %d", s.Len(), len(p.l))
	}
	sum := new(big.Rat).SetInt(new(big.Int).SetUint64(s.Sum()))
	if want := p.asked(0, 1); sum.Cmp(want) != 0 {
		t.Fatalf("Sum is %v, want %v", sum, want)
	}
	if sum.Cmp(p.borne()) > 0 {
		t.Fatalf("Sum is %v, which is more than %v", sum, p.borne())
	}
	for i := -1; i <= len(p.l); i++ {
		var v one
		if p.has(i) {
			v = p.l[i]
		}
		if s.Left(i) != v.left || s.Deadline(i) != v.deadline || s.Active(i) != (v.left > 0) {
			t.Fatalf("%d has %d left till %d, Active %v; want %d till %d", i, s.Left(i), s.Deadline(i), s.Active(i), v.left, v.deadline)
		}
	}
}

// both does a step on servers and on plain ones, and holds what they answer against each other.
type both struct {
	t *testing.T
	s *cbs.Servers
	p *plain
}

func begin(t *testing.T, procs int) both {
	t.Helper()
	s := cbs.New(procs)
	if s == nil {
		t.Fatal(procs, "may be")
	}
	return both{t, s, &plain{procs: procs}}
}

func (b both) admit(budget, period uint64) api.Errno {
	b.t.Helper()
	i, e := b.s.Admit(budget, period)
	if want, f := b.p.admit(budget, period); i != want || e != f {
		b.t.Fatalf("Admit(%d, %d) is %d %d, want %d %d", budget, period, i, e, want, f)
	}
	return e
}

func (b both) wake(i int, now uint64) {
	b.t.Helper()
	if e, want := b.s.Wake(i, now), b.p.wake(i, now); e != want {
		b.t.Fatalf("Wake(%d, %d) is %d, want %d", i, now, e, want)
	}
	b.same()
}

func (b both) charge(i int) (bool, api.Errno) {
	b.t.Helper()
	spent, e := b.s.Charge(i)
	if want, f := b.p.charge(i); spent != want || e != f {
		b.t.Fatalf("Charge(%d) is %v %d, want %v %d", i, spent, e, want, f)
	}
	b.same()
	return spent, e
}

// drain Charges a server till nothing is left.
func (b both) drain(i int) {
	b.t.Helper()
	for b.s.Active(i) {
		b.charge(i)
	}
}

func (b both) refill(now uint64) []int {
	b.t.Helper()
	got, want := b.s.Refill(now), b.p.refill(now)
	if !slices.Equal(got, want) {
		b.t.Fatalf("Refill(%d) is %v, want %v", now, got, want)
	}
	b.same()
	return got
}

func (b both) fork() both { return both{b.t, b.s.Fork(), b.p.fork()} }

func (b both) same() {
	b.t.Helper()
	same(b.t, b.s, b.p)
}

// P7.1: numbers of processors.
func TestNew(t *testing.T) {
	for _, procs := range []int{math.MinInt, -1, 0, api.MaxProcs + 1, api.MaxProcs + 2, 1<<32 + 1, math.MaxInt} {
		if cbs.New(procs) != nil {
			t.Error(procs, "may not be")
		}
	}
	for _, procs := range []int{1, 2, api.MaxProcs - 1, api.MaxProcs} {
		begin(t, procs).same()
	}
}

// P1: nil servers.
func TestNil(t *testing.T) {
	var s *cbs.Servers
	for _, x := range []uint64{0, 1, 2, 23, api.Hyper, last} {
		if i, e := s.Admit(1, x); i != 0 || e != api.ErrNil {
			t.Error("Admit", i, e)
		}
		if i, e := s.Admit(x, 1); i != 0 || e != api.ErrNil {
			t.Error("Admit", i, e)
		}
		if len(s.Refill(x)) != 0 {
			t.Error("Refill")
		}
		for _, i := range []int{math.MinInt, -1, 0, 1, math.MaxInt} {
			if e := s.Wake(i, x); e != api.ErrNil {
				t.Error("Wake", e)
			}
		}
	}
	for _, i := range []int{math.MinInt, -1, 0, 1, math.MaxInt} {
		if spent, e := s.Charge(i); spent || e != api.ErrNil {
			t.Error("Charge", spent, e)
		}
		if s.Left(i) != 0 || s.Deadline(i) != 0 || s.Active(i) {
			t.Error("zero values of", i)
		}
	}
	if s.Sum() != 0 || s.Len() != 0 || s.Fork() != nil {
		t.Error("zero values")
	}
}

// P7.1: the document's example.
func TestExample(t *testing.T) {
	s := cbs.New(1)
	for want := range 2 {
		if i, e := s.Admit(1, 2); i != want || e != api.OK {
			t.Error(i, e)
		}
	}
	if i, e := s.Admit(1, 20); i != 0 || e != api.ErrLoad {
		t.Error(i, e)
	}
}

// P7.1: budgets and periods that may be, and such as may not; what is refused changes nothing.
func TestAdmitRange(t *testing.T) {
	periods := []uint64{
		0, 1, 2, 3, 4, 16, 19, 20, 21, 22, 23, 24, 25, 32, 27, 29, 31, 48, 144, 720, 5040,
		api.Hyper / 3, api.Hyper/3 + 1, api.Hyper/2 - 1, api.Hyper / 2, api.Hyper/2 + 1, api.Hyper - 1, api.Hyper, api.Hyper + 1, 2 * api.Hyper,
		1 << 32, 1<<32 + 1, 1 << 63, last - 1, last,
	}
	for _, period := range periods {
		for _, budget := range []uint64{0, 1, 2, period / 2, period - 1, period, period + 1, 1 << 63, last} {
			b := begin(t, 1)
			want := api.ErrRange
			if 1 <= budget && budget <= period && period <= api.Hyper && api.Hyper%max(period, 1) == 0 {
				want = api.OK
			}
			if e := b.admit(budget, period); e != want {
				t.Errorf("Admit(%d, %d) is %d, want %d", budget, period, e, want)
			}
			b.same()
			if want == api.OK && b.s.Sum() != budget*(api.Hyper/period) {
				t.Errorf("of %d by %d Sum is %d", budget, period, b.s.Sum())
			}
		}
	}
	for period := range uint64(21) { // the document's word of Hyper: 1 to 20 divide it
		if e := begin(t, 1).admit(1, period); (e == api.OK) != (period > 0) {
			t.Error(period, e)
		}
	}
}

// P7.1: one that is new has nothing left, no deadline, and sleeps: it is not Charged, not Refilled at any time, and filled by a Wake at each.
func TestNewOnesSleep(t *testing.T) {
	for _, now := range []uint64{0, 1, 5, 1 << 40, last - 1, last} {
		b := begin(t, 1)
		b.admit(2, 5)
		if b.s.Left(0) != 0 || b.s.Deadline(0) != 0 || b.s.Active(0) {
			t.Error(b.s.Left(0), b.s.Deadline(0), b.s.Active(0))
		}
		if spent, e := b.charge(0); spent || e != api.ErrNone {
			t.Error(spent, e)
		}
		if l := b.refill(now); len(l) != 0 {
			t.Error(now, l)
		}
		b.wake(0, now)
		if b.s.Left(0) != 2 || !b.s.Active(0) {
			t.Error(now, b.s.Left(0))
		}
	}
}

// P7.1, P7.5: what all ask may be just procs times Hyper, and not by the least more.
func TestLoad(t *testing.T) {
	for _, procs := range []int{1, 2, 3, 30} {
		b := begin(t, procs)
		for i := range procs - 1 {
			if e := b.admit(uint64(i%20+1), uint64(i%20+1)); e != api.OK {
				t.Fatal(e)
			}
		}
		if e := b.admit(api.Hyper-1, api.Hyper); e != api.OK {
			t.Fatal(e)
		}
		for _, v := range [][2]uint64{{2, api.Hyper}, {1, api.Hyper / 2}, {1, 1}, {1, 20}, {api.Hyper, api.Hyper}} {
			if e := b.admit(v[0], v[1]); e != api.ErrLoad {
				t.Error(procs, v, e)
			}
			b.same()
		}
		if e := b.admit(1, api.Hyper); e != api.OK || b.s.Sum() != uint64(procs)*api.Hyper {
			t.Error(procs, e, b.s.Sum())
		}
		b.same()
		for _, v := range [][2]uint64{{1, api.Hyper}, {1, 1}, {20, 20}, {api.Hyper, api.Hyper}} {
			if e := b.admit(v[0], v[1]); e != api.ErrLoad {
				t.Error(procs, v, e)
			}
			b.same()
		}
	}
}

// P7.1: parts that are not whole by themselves are borne just as their sum is.
func TestLoadOfParts(t *testing.T) {
	b := begin(t, 1)
	for _, v := range [][2]uint64{{1, 3}, {1, 7}, {2, 11}, {3, 13}, {1, 17}} {
		if e := b.admit(v[0], v[1]); e != api.OK {
			t.Fatal(v, e)
		}
	}
	rest := api.Hyper - b.s.Sum()
	if e := b.admit(rest+1, api.Hyper); e != api.ErrLoad {
		t.Error(e)
	}
	if e := b.admit(rest, api.Hyper); e != api.OK || b.s.Sum() != api.Hyper {
		t.Error(e, b.s.Sum())
	}
	b.same()
}

// P7.1, P2: MaxServers and one more; of several errors the one that is named first.
func TestFull(t *testing.T) {
	for _, procs := range []int{1, 2, api.MaxServers - 1, api.MaxServers, api.MaxServers + 1, api.MaxProcs} {
		b := begin(t, procs)
		for range api.MaxServers - 1 {
			if e := b.admit(1, 40); e != api.OK {
				t.Fatal(e)
			}
		}
		if e := b.admit(9, 40); e != api.OK || b.s.Len() != api.MaxServers || b.s.Sum() != api.Hyper {
			t.Fatal(e, b.s.Len(), b.s.Sum())
		}
		for _, v := range [][2]uint64{{1, 40}, {1, api.Hyper}, {api.Hyper, api.Hyper}, {1, 1}} {
			if e := b.admit(v[0], v[1]); e != api.ErrFull {
				t.Error(procs, v, e)
			}
		}
		for _, v := range [][2]uint64{{0, 40}, {41, 40}, {1, 23}, {0, 0}, {1, 0}, {1, last}, {last, last}} {
			if e := b.admit(v[0], v[1]); e != api.ErrRange {
				t.Error(procs, v, e)
			}
		}
		b.same()
	}
	b := begin(t, 1) // all is asked for, but there is room: what may not be is said ahead of the load
	b.admit(1, 1)
	for _, v := range [][2]uint64{{0, 1}, {2, 1}, {23, 23}, {0, 0}, {1, 0}} {
		if e := b.admit(v[0], v[1]); e != api.ErrRange {
			t.Error(v, e)
		}
	}
	b.same()
}

// P7.1, P7.5: as many as there may be can each ask all of a processor, if there are as many processors.
func TestAllOfAll(t *testing.T) {
	for _, procs := range []int{api.MaxServers - 1, api.MaxServers, api.MaxProcs} {
		b := begin(t, procs)
		for i := range api.MaxServers {
			want := api.OK
			if i >= procs {
				want = api.ErrLoad
			}
			if e := b.admit(api.Hyper, api.Hyper); e != want {
				t.Error(procs, i, e)
			}
		}
		b.same()
	}
}

// P7.2: Wake ahead of the deadline, at it, and behind it, with all, some, or nothing left.
func TestWake(t *testing.T) {
	for used := range 4 {
		for _, now := range []uint64{10, 11, 14, 15, 16, 100, last - 5, last - 4, last} {
			b := begin(t, 1)
			b.admit(3, 5)
			b.admit(1, 5)
			b.wake(0, 10)
			if b.s.Left(0) != 3 || b.s.Deadline(0) != 15 {
				t.Fatal(b.s.Left(0), b.s.Deadline(0))
			}
			for range used {
				b.charge(0)
			}
			b.wake(0, now)
			left, deadline := uint64(3-used), uint64(15)
			if now >= 15 {
				left, deadline = 3, now+min(5, last-now)
			}
			if b.s.Left(0) != left || b.s.Deadline(0) != deadline {
				t.Errorf("used %d, at %d: %d till %d", used, now, b.s.Left(0), b.s.Deadline(0))
			}
			if b.s.Active(1) || b.s.Deadline(1) != 0 {
				t.Error("another one woke")
			}
		}
	}
}

// P7.2: a deadline that would pass the last time is that; there it has come for good.
func TestLastTimes(t *testing.T) {
	for _, now := range []uint64{last - 6, last - 5, last - 4, last - 1, last} {
		b := begin(t, 1)
		b.admit(2, 5)
		b.wake(0, now)
		if want := now + min(5, last-now); b.s.Deadline(0) != want {
			t.Errorf("at %d the deadline is %d, want %d", now, b.s.Deadline(0), want)
		}
		b.drain(0)
		for range 2 {
			if l := b.refill(last); !slices.Equal(l, []int{0}) || b.s.Deadline(0) != last || b.s.Left(0) != 2 {
				t.Error(now, l, b.s.Deadline(0), b.s.Left(0))
			}
			b.charge(0)
			b.wake(0, last)
			if b.s.Left(0) != 2 || b.s.Deadline(0) != last {
				t.Error(now, b.s.Left(0), b.s.Deadline(0))
			}
			b.drain(0)
			b.wake(0, last-1)
			b.refill(last - 1)
			if b.s.Active(0) {
				t.Error(now, "filled ahead of its deadline")
			}
		}
	}
}

// P7.2: a time that goes back is answered like any other one.
func TestTimesThatGoBack(t *testing.T) {
	b := begin(t, 1)
	b.admit(1, 4)
	for _, now := range []uint64{100, 3, 0, 104, 1, 107, 108, 9, last, 0} {
		b.wake(0, now)
		b.charge(0)
		b.refill(now)
		b.charge(0)
	}
	if e := b.s.Wake(0, 0); e != api.OK || b.s.Deadline(0) != last {
		t.Error(e, b.s.Deadline(0))
	}
}

// P7.2: a Charge of each tick, of the last one, and one more; the least and the greatest budget.
func TestCharge(t *testing.T) {
	for budget := uint64(1); budget <= 20; budget++ {
		b := begin(t, 2)
		b.admit(budget, 20)
		b.admit(20, 20)
		b.wake(0, 7)
		b.wake(1, 7)
		for left := budget; left > 0; left-- {
			if spent, e := b.charge(0); spent != (left == 1) || e != api.OK {
				t.Errorf("%d left of %d: %v %d", left, budget, spent, e)
			}
		}
		for range 2 {
			if spent, e := b.charge(0); spent || e != api.ErrNone {
				t.Errorf("none left of %d: %v %d", budget, spent, e)
			}
		}
		if b.s.Left(1) != 20 || b.s.Deadline(0) != 27 {
			t.Error(b.s.Left(1), b.s.Deadline(0))
		}
	}
	b := begin(t, 1)
	b.admit(api.Hyper, api.Hyper)
	b.wake(0, 1)
	if spent, e := b.charge(0); spent || e != api.OK || b.s.Left(0) != api.Hyper-1 || b.s.Deadline(0) != api.Hyper+1 {
		t.Error(spent, e, b.s.Left(0), b.s.Deadline(0))
	}
}

// P7.2: what is left may be Charged when the deadline has come too, till it is filled anew.
func TestChargeBehindTheDeadline(t *testing.T) {
	b := begin(t, 1)
	b.admit(2, 5)
	b.wake(0, 0)
	b.refill(50) // something is left: nothing is filled
	if spent, e := b.charge(0); spent || e != api.OK || b.s.Left(0) != 1 || b.s.Deadline(0) != 5 {
		t.Error(spent, e)
	}
}

// P7.2, P7.3: numbers of which there is no server; nothing changes.
func TestNoSuchServer(t *testing.T) {
	for _, count := range []int{0, 1, 3} {
		b := begin(t, 1)
		for range count {
			b.admit(1, 5)
		}
		for i := range count {
			b.wake(i, 3)
		}
		for _, i := range []int{math.MinInt, -api.MaxServers, -1, count, count + 1, api.MaxServers, 1 << 32, math.MaxInt} {
			for _, now := range []uint64{0, 8, last} {
				if e := b.s.Wake(i, now); e != api.ErrRange {
					t.Error("Wake", i, e)
				}
			}
			if spent, e := b.s.Charge(i); spent || e != api.ErrRange {
				t.Error("Charge", i, spent, e)
			}
			if b.s.Left(i) != 0 || b.s.Deadline(i) != 0 || b.s.Active(i) {
				t.Error("zero values of", i)
			}
			b.same()
		}
	}
}

// P7.2: Refill one tick ahead of a deadline, at it, and behind it.
func TestRefill(t *testing.T) {
	for now, want := range map[uint64][]int{0: nil, 9: nil, 14: nil, 15: {0}, 16: {0}, 1 << 50: {0}, last: {0}} {
		b := begin(t, 1)
		b.admit(2, 5)
		b.wake(0, 10)
		b.drain(0)
		if l := b.refill(now); !slices.Equal(l, want) {
			t.Error(now, l)
		}
		if want == nil {
			continue
		}
		if deadline := now + min(5, last-now); b.s.Left(0) != 2 || b.s.Deadline(0) != deadline {
			t.Error(now, b.s.Left(0), b.s.Deadline(0))
		}
		if l := b.refill(now); len(l) != 0 {
			t.Error("full ones are filled again:", l)
		}
	}
}

// P7.2: of several, the due ones alone, rising: who sleeps, who has something left, and whose deadline lies ahead stays as it is.
func TestRefillOfSeveral(t *testing.T) {
	b := begin(t, 2)
	for _, v := range [][2]uint64{{1, 10}, {1, 4}, {1, 5}, {2, 5}, {1, 20}, {1, 3}} {
		b.admit(v[0], v[1])
	}
	for _, i := range []int{5, 4, 3, 1, 0} { // 2 sleeps on
		b.wake(i, 0)
	}
	b.charge(3) // of which something is left
	for _, i := range []int{0, 1, 4, 5} {
		b.drain(i)
	}
	for _, step := range []struct {
		now  uint64
		want []int
	}{{2, nil}, {3, []int{5}}, {6, []int{1}}, {9, nil}, {10, []int{0}}} {
		if l := b.refill(step.now); !slices.Equal(l, step.want) {
			t.Error(step.now, l)
		}
	}
	for _, i := range []int{0, 1, 5} {
		b.drain(i)
	}
	if l := b.refill(100); !slices.Equal(l, []int{0, 1, 4, 5}) {
		t.Error(l)
	}
	if b.s.Left(3) != 1 || b.s.Deadline(3) != 5 || b.s.Deadline(2) != 0 {
		t.Error(b.s.Left(3), b.s.Deadline(3), b.s.Deadline(2))
	}
}

// P3: a list that was answered is the caller's.
func TestRefillIsTheCallers(t *testing.T) {
	b := begin(t, 1)
	for range 3 {
		b.admit(1, 4)
	}
	fill := func(now uint64) []int {
		for i := range 3 {
			b.wake(i, now)
			b.charge(i)
		}
		return b.refill(now + 4)
	}
	l, m := fill(0), fill(8)
	clear(l[:cap(l)])
	if !slices.Equal(m, []int{0, 1, 2}) {
		t.Error(m)
	}
	b.same()
	if fill(16); !slices.Equal(m, []int{0, 1, 2}) {
		t.Error(m)
	}
}

// P7.3: Left, Deadline, Active, Sum and Len change nothing.
func TestLooks(t *testing.T) {
	b := begin(t, 1)
	b.admit(2, 5)
	b.admit(1, 5)
	b.wake(0, 4)
	b.charge(0)
	for range 3 {
		if b.s.Left(0) != 1 || b.s.Deadline(0) != 9 || !b.s.Active(0) || b.s.Active(1) || b.s.Len() != 2 || b.s.Sum() != api.Hyper/5*3 {
			t.Error(b.s.Left(0), b.s.Deadline(0), b.s.Len(), b.s.Sum())
		}
		b.same()
	}
}

// P7.3, P4: servers and their Fork are the same at first, and each their own from then on.
func TestFork(t *testing.T) {
	b := begin(t, 1)
	b.admit(2, 5)
	b.admit(1, 5)
	b.admit(1, 10)
	b.wake(0, 3)
	b.wake(1, 3)
	b.charge(1)
	f := b.fork()
	f.same()
	b.charge(0)
	b.wake(2, 4)
	b.admit(1, 20)
	b.refill(8)
	b.same()
	f.same()
	if e := f.admit(3, 10); e != api.OK || f.s.Sum() != api.Hyper {
		t.Error("a Fork bears as much as its servers:", e)
	}
	if e := f.admit(1, api.Hyper); e != api.ErrLoad {
		t.Error("a Fork bears no more than its servers:", e)
	}
	f.wake(3, 9)
	f.refill(20)
	f.drain(0)
	b.same()
	f.same()
	g := f.fork()
	g.same()
	f.drain(3)
	g.wake(0, 30)
	b.same()
	f.same()
	g.same()
	begin(t, 3).fork().same()
}

// P4: both take one in behind the same ones: neither list lies in the other's room.
func TestForkAdmits(t *testing.T) {
	for count := range api.MaxServers {
		b := begin(t, api.MaxProcs)
		for range count {
			b.admit(1, 2)
		}
		f := b.fork()
		b.admit(3, 7)
		f.admit(2, 9)
		b.wake(count, 5)
		f.wake(count, 6)
		b.same()
		f.same()
		if b.s.Left(count) != 3 || f.s.Left(count) != 2 {
			t.Fatal(count, b.s.Left(count), f.s.Left(count))
		}
	}
}

// rolls draws numbers below one, always the same ones.
func rolls(seed uint64) func(below int) int {
	return func(below int) int {
		seed = seed*6364136223846793005 + 1442695040888963407
		return int(seed >> 33 % uint64(below))
	}
}

// P7.1 to P7.3, P7.5, P4, P6: long runs of all calls, wrong ones too, against the plain servers; Forks stay as they were.
func TestLongRuns(t *testing.T) {
	numbers := []uint64{0, 1, 2, 3, 4, 5, 7, 20, 23, 40, api.Hyper / 2, api.Hyper - 1, api.Hyper, api.Hyper + 1, last}
	for _, procs := range []int{1, 2, 3, 24, api.MaxProcs} {
		b := begin(t, procs)
		f := b.fork()
		next := rolls(uint64(procs))
		now := uint64(0)
		for step := range 4000 {
			if step == 3500 {
				now = last - 20
			}
			i := next(b.s.Len()+3) - 1
			switch next(11) {
			case 0:
				b.admit(numbers[next(len(numbers))], numbers[next(len(numbers))])
			case 1, 2, 3:
				b.wake(i, now)
			case 4, 5, 6:
				b.charge(i)
			case 7:
				b.refill(now)
			case 8, 9:
				now += min(uint64(next(4)), last-now)
			case 10:
				f.same()
				f = b.fork()
				if next(2) == 0 { // go on with the Fork
					b, f = f, b
				}
			}
			b.same()
		}
	}
}

// charges tells of a server when it was Charged.
type charges struct {
	budget, period uint64
	at             []uint64
}

// keep holds each stretch of time against P7.4: from one Charge to another one, with both, it is L ticks.
func (c charges) keep(t *testing.T) {
	t.Helper()
	for from := range c.at {
		for to := from; to < len(c.at); to++ {
			long := c.at[to] - c.at[from]
			if count := uint64(to - from + 1); count > (long/c.period+2)*c.budget {
				t.Fatalf("%d by %d: %d in the %d ticks from %d on", c.budget, c.period, count, long, c.at[from])
			}
		}
	}
}

// P7.4: in each L ticks a server is Charged at most (L / period, plus 2) times budget, whoever Wakes, Charges and Refills when, in whatever order.
// (Deadlines that stop at the last time are none a period ahead: there each Wake fills, as TestLastTimes tells.)
func TestBudgetsHold(t *testing.T) {
	kinds := [][2]uint64{{1, 1}, {1, 2}, {2, 5}, {5, 5}, {1, 7}, {3, 4}, {13, 20}, {6, 40}}
	for run := range uint64(24) {
		b := begin(t, api.MaxProcs)
		var l []charges
		for _, v := range kinds {
			b.admit(v[0], v[1])
			l = append(l, charges{budget: v[0], period: v[1]})
		}
		next := rolls(run)
		now := run * 1000
		for range 3000 {
			i := next(len(kinds))
			switch kind := next(10); {
			case kind < 2:
				now += uint64(next(int(run)%7 + 2))
			case kind < 4:
				b.s.Wake(i, now)
			case kind < 5:
				b.s.Refill(now)
			default:
				for range next(8) {
					if _, e := b.s.Charge(i); e == api.OK {
						l[i].at = append(l[i].at, now)
					}
				}
			}
		}
		for _, c := range l {
			if len(c.at) == 0 {
				t.Fatal("nothing was Charged of", c.budget, c.period)
			}
			c.keep(t)
		}
	}
}

// P7.4: so much may be Charged; it is not less either, when all that there is is taken as late, and then as early, as it may be.
func TestBudgetsAreGiven(t *testing.T) {
	for _, v := range [][2]uint64{{1, 2}, {2, 5}, {5, 5}, {13, 20}} {
		b := begin(t, 1)
		b.admit(v[0], v[1])
		b.wake(0, 10)
		c := charges{budget: v[0], period: v[1]}
		for now := 10 + v[1] - 1; now < 500; now++ {
			b.refill(now)
			for b.s.Active(0) {
				b.charge(0)
				c.at = append(c.at, now)
			}
		}
		c.keep(t)
		long := 3*v[1] + 1 // the last tick of one period, and three deadlines behind it
		want := int((long/v[1] + 2) * v[0])
		count := 0
		for _, at := range c.at {
			if at <= c.at[0]+long {
				count++
			}
		}
		if count != want {
			t.Errorf("%v: %d in %d ticks, want %d", v, count, long, want)
		}
	}
}
