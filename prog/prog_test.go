package prog_test

import (
	"bytes"
	"math"
	"slices"
	"testing"

	"boatswain/api"
	"boatswain/prog"
)

// bound is the least and the greatest Arg that the document gives an Op.
type bound struct {
	op          api.Op
	least, most int
}

// bounds are those of all Ops in a program of n instructions, in the numbers of the document and of api's limits.
func bounds(n int) []bound {
	return []bound{
		{api.Compute, 1, 65536},
		{api.Lock, 0, 31},
		{api.Unlock, 0, 31},
		{api.Spawn, 0, 15},
		{api.Sleep, 1, 65536},
		{api.Yield, 0, 0},
		{api.Prio, 0, 255},
		{api.Jump, 0, n - 1},
		{api.Exit, 0, 0},
	}
}

// plainCheck is Check as the document tells it.
func plainCheck(p []api.Instr) (api.Errno, int) {
	if len(p) == 0 || len(p) > 64 {
		return api.ErrForm, 0
	}
	for at, i := range p {
		right := false
		for _, b := range bounds(len(p)) {
			right = right || i.Op == b.op && b.least <= i.Arg && i.Arg <= b.most
		}
		if !right {
			return api.ErrForm, at
		}
	}
	switch p[len(p)-1].Op {
	case api.Jump, api.Exit:
		return api.OK, 0
	}
	return api.ErrForm, len(p) - 1
}

// plainBytes are those of any program whose numbers fit in, be it right or not.
func plainBytes(p []api.Instr) []byte {
	b := []byte{byte(len(p))}
	for _, i := range p {
		b = append(b, byte(i.Op), byte(i.Arg/65536), byte(i.Arg/256%256), byte(i.Arg%256))
	}
	return b
}

// of is a program of so many Yields with these instructions behind.
func of(yields int, l ...api.Instr) []api.Instr {
	p := make([]api.Instr, yields)
	for at := range p {
		p[at].Op = api.Yield
	}
	return append(p, l...)
}

func ins(op api.Op, arg int) api.Instr { return api.Instr{Op: op, Arg: arg} }

var exit = ins(api.Exit, 0)

// check holds what Check answers against what it should.
func check(t *testing.T, p []api.Instr, e api.Errno, at int) {
	t.Helper()
	if gotE, gotAt := prog.Check(p); gotE != e || gotAt != at {
		t.Errorf("Check(%v) is %d %d, want %d %d", p, gotE, gotAt, e, at)
	}
}

// refused lets every call refuse a program.
func refused(t *testing.T, p []api.Instr, at int) {
	t.Helper()
	check(t, p, api.ErrForm, at)
	if b, e := prog.Encode(p); e != api.ErrForm || len(b) != 0 {
		t.Errorf("Encode(%v) is %v %d", p, b, e)
	}
	for _, at := range []int{math.MinInt, -1, 0, 1, len(p) - 1, len(p), math.MaxInt} {
		if l := prog.Next(p, at); len(l) != 0 {
			t.Errorf("Next(%v, %d) is %v", p, at, l)
		}
	}
}

// taken lets every call take a program, and holds its bytes against those of the document.
func taken(t *testing.T, p []api.Instr) {
	t.Helper()
	check(t, p, api.OK, 0)
	b, e := prog.Encode(p)
	if e != api.OK || !bytes.Equal(b, plainBytes(p)) {
		t.Errorf("Encode(%v) is %v %d", p, b, e)
	}
	if q, e := prog.Decode(plainBytes(p)); e != api.OK || !slices.Equal(q, p) {
		t.Errorf("Decode of the bytes of %v is %v %d", p, q, e)
	}
}

// wrongBytes lets Decode refuse bytes.
func wrongBytes(t *testing.T, b []byte) {
	t.Helper()
	if p, e := prog.Decode(b); e != api.ErrForm || len(p) != 0 {
		t.Errorf("Decode(%v) is %v %d", b, p, e)
	}
}

// P5.1: how many instructions there may be.
func TestSizes(t *testing.T) {
	refused(t, nil, 0)
	refused(t, []api.Instr{}, 0)
	for _, n := range []int{1, 2, 3, api.MaxCode - 1, api.MaxCode} {
		taken(t, of(n-1, exit))
		taken(t, of(n-1, ins(api.Jump, 0)))
	}
	for _, n := range []int{api.MaxCode + 1, api.MaxCode + 2, 255, 256, 257, 320, 1 << 16} {
		refused(t, of(n-1, exit), 0)
		refused(t, of(n-2, ins(api.NoOp, 0), exit), 0)
		refused(t, make([]api.Instr, n), 0)
	}
}

// P5.1: of each Op the least and the greatest Arg, at the first place, in the midst, and at the last one.
func TestArgs(t *testing.T) {
	for _, n := range []int{1, 2, 5, api.MaxCode} {
		for _, b := range bounds(n) {
			for _, at := range []int{0, n / 2, n - 1} {
				for _, arg := range []int{math.MinInt, -65536, b.least - 1, b.least, b.most, b.most + 1, 1 << 24, 1<<24 + b.least, 1<<32 + b.least, math.MaxInt} {
					p := of(n-1, exit)
					p[at] = ins(b.op, arg)
					switch {
					case arg < b.least || arg > b.most:
						refused(t, p, at)
					case at == n-1 && b.op != api.Jump && b.op != api.Exit:
						refused(t, p, n-1)
					default:
						taken(t, p)
					}
				}
			}
		}
	}
}

// P5.1: each Arg that may be, of the Ops that have few; all that may not be near them.
func TestAllArgs(t *testing.T) {
	for _, n := range []int{2, 3, api.MaxCode} {
		for _, b := range bounds(n) {
			for arg := -2; arg <= 300; arg++ {
				p := of(n-1, exit)
				p[0] = ins(b.op, arg)
				if b.least <= arg && arg <= b.most {
					taken(t, p)
				} else {
					refused(t, p, 0)
				}
			}
		}
	}
}

// P5.1: what is no Op, also where its lower bits are one.
func TestNoOps(t *testing.T) {
	for _, op := range []api.Op{math.MinInt, -1, api.NoOp, api.Exit + 1, api.Exit + 2, 255, 256, 256 + api.Compute, 256 + api.Exit, 1<<32 + api.Exit, math.MaxInt} {
		for _, arg := range []int{-1, 0, 1, math.MaxInt} {
			refused(t, of(0, ins(op, arg)), 0)
			refused(t, of(0, ins(op, arg), exit), 0)
			refused(t, of(3, ins(op, arg), exit), 3)
			refused(t, of(3, ins(op, arg)), 3)
		}
	}
}

// P5.1: a Jump may go to each place, and no further.
func TestJumps(t *testing.T) {
	for n := 1; n <= api.MaxCode; n++ {
		for at := range n {
			for to := range n {
				p := of(n-1, exit)
				p[at] = ins(api.Jump, to)
				check(t, p, api.OK, 0)
			}
			for _, to := range []int{math.MinInt, -1, n, n + 1, math.MaxInt} {
				p := of(n-1, exit)
				p[at] = ins(api.Jump, to)
				check(t, p, api.ErrForm, at)
			}
		}
	}
}

// P5.1: the last one is a Jump or an Exit; what is not right ahead of it is told first.
func TestLast(t *testing.T) {
	for _, op := range []api.Op{api.Compute, api.Lock, api.Unlock, api.Spawn, api.Sleep, api.Prio} {
		for _, ahead := range []int{0, 1, 7, api.MaxCode - 1} {
			refused(t, of(ahead, ins(op, 1)), ahead)
		}
	}
	for _, n := range []int{1, 2, api.MaxCode} {
		refused(t, of(n), n-1)
	}
	refused(t, []api.Instr{exit, ins(api.Yield, 0)}, 1)
	refused(t, []api.Instr{ins(api.Jump, 1), ins(api.Compute, 2)}, 1)
	refused(t, []api.Instr{ins(api.Yield, 1), ins(api.Yield, 0)}, 0)
	refused(t, []api.Instr{ins(api.Yield, 0), ins(api.Lock, 32), ins(api.Lock, 0)}, 1)
	taken(t, []api.Instr{exit, ins(api.Yield, 0), exit})
}

// P5.1: of several that are not right, the first one is told.
func TestFirstWrong(t *testing.T) {
	for first := range 6 {
		p := of(5, exit)
		for at := first; at < 6; at++ {
			p[at].Arg = 99
		}
		refused(t, p, first)
	}
}

// P5.1: the document's example, and each Op's own byte.
func TestBytes(t *testing.T) {
	b, e := prog.Encode([]api.Instr{ins(api.Compute, 3), exit})
	if want := []byte{0x02, 0x01, 0, 0, 0x03, 0x09, 0, 0, 0}; e != api.OK || !bytes.Equal(b, want) {
		t.Errorf("% x, want % x", b, want)
	}
	b, e = prog.Encode([]api.Instr{
		ins(api.Compute, 65536), ins(api.Lock, 31), ins(api.Unlock, 30), ins(api.Spawn, 15), ins(api.Sleep, 0x1234),
		ins(api.Yield, 0), ins(api.Prio, 255), ins(api.Jump, 8), exit,
	})
	want := []byte{
		9,
		1, 1, 0, 0,
		2, 0, 0, 31,
		3, 0, 0, 30,
		4, 0, 0, 15,
		5, 0, 0x12, 0x34,
		6, 0, 0, 0,
		7, 0, 0, 255,
		8, 0, 0, 8,
		9, 0, 0, 0,
	}
	if e != api.OK || !bytes.Equal(b, want) {
		t.Errorf("% x, want % x", b, want)
	}
}

// P5.1: bytes that are cut at any place, or have more behind, are none of a program.
func TestCutAndMore(t *testing.T) {
	for _, p := range [][]api.Instr{of(0, exit), of(1, ins(api.Jump, 1)), {ins(api.Compute, 65536), ins(api.Prio, 255), exit}, of(api.MaxCode-1, exit)} {
		b := plainBytes(p)
		for end := range b {
			wrongBytes(t, b[:end])
			wrongBytes(t, slices.Clip(b[:end]))
		}
		for _, more := range [][]byte{{0}, {1}, {9}, {255}, {9, 0, 0}, {9, 0, 0, 0}, b} {
			wrongBytes(t, slices.Concat(b, more))
		}
		for from := 1; from <= len(b); from++ {
			wrongBytes(t, b[from:])
		}
	}
}

// P5.1: wrong bytes: none, a count of none or of too many, or another one than there are.
func TestWrongBytes(t *testing.T) {
	wrongBytes(t, nil)
	wrongBytes(t, []byte{})
	for count := range 256 {
		wrongBytes(t, []byte{byte(count)})
		p := of(4, exit)
		b := plainBytes(p)
		b[0] = byte(count)
		if count != 5 {
			wrongBytes(t, b)
		}
		if count < 1 || count > api.MaxCode {
			wrongBytes(t, plainBytes(of(max(0, count-1), exit)[:count]))
		}
	}
	wrongBytes(t, plainBytes(of(256, exit))) // its count goes round to 1
	wrongBytes(t, make([]byte, 1<<20))
	wrongBytes(t, bytes.Repeat([]byte{255}, 1<<20))
	wrongBytes(t, bytes.Repeat([]byte{9}, 37))
}

// P5.1: each Op's byte with Args of all lengths, ahead of an Exit.
func TestAllOpBytes(t *testing.T) {
	for op := range 256 {
		for _, arg := range []int{0, 1, 2, 15, 16, 31, 32, 255, 256, 65535, 65536, 65537, 1<<17 - 1, 1 << 17, 1 << 23, 1<<24 - 1} {
			p := []api.Instr{ins(api.Op(op), arg), exit}
			if e, _ := plainCheck(p); e == api.OK {
				taken(t, p)
			} else {
				wrongBytes(t, plainBytes(p))
			}
		}
	}
}

// drawer draws numbers, the same ones at each run.
type drawer uint64

func (d *drawer) below(n int) int {
	*d = *d*6364136223846793005 + 1442695040888963407
	return int(uint64(*d) >> 33 % uint64(n))
}

// program is a right one.
func (d *drawer) program() []api.Instr {
	n := 1 + d.below(api.MaxCode)
	if d.below(2) == 0 {
		n = 1 + d.below(4)
	}
	p := make([]api.Instr, n)
	l := bounds(n)
	for at := range p {
		p[at] = d.instr(l[d.below(len(l))])
	}
	p[n-1] = d.instr(l[7+d.below(2)])
	return p
}

func (d *drawer) instr(b bound) api.Instr {
	switch d.below(4) {
	case 0:
		return ins(b.op, b.least)
	case 1:
		return ins(b.op, b.most)
	}
	return ins(b.op, b.least+d.below(b.most-b.least+1))
}

// P5.2: Decode of Encode is the program.
func TestDecodeOfEncode(t *testing.T) {
	d := drawer(5)
	for range 2000 {
		p := d.program()
		taken(t, p)
		b, e := prog.Encode(p)
		if q, f := prog.Decode(b); e != api.OK || f != api.OK || !slices.Equal(q, p) {
			t.Fatal(p, q, e, f)
		}
	}
}

// plainDecode is what bytes of a whole number of instructions tell; false: they are none.
func plainDecode(b []byte) ([]api.Instr, bool) {
	if len(b) == 0 || len(b) != 1+4*int(b[0]) {
		return nil, false
	}
	var p []api.Instr
	for at := 1; at < len(b); at += 4 {
		p = append(p, ins(api.Op(b[at]), int(b[at+1])*65536+int(b[at+2])*256+int(b[at+3])))
	}
	e, _ := plainCheck(p)
	return p, e == api.OK
}

// P5.1, P5.2: Encode of Decode are the bytes, of whatever bytes Decode takes.
func decodeThenEncode(t *testing.T, b []byte) {
	t.Helper()
	p, right := plainDecode(b)
	if !right {
		wrongBytes(t, b)
		return
	}
	q, e := prog.Decode(b)
	if e != api.OK || !slices.Equal(q, p) {
		t.Fatalf("Decode(%v) is %v %d, want %v", b, q, e, p)
	}
	if c, e := prog.Encode(q); e != api.OK || !bytes.Equal(c, b) {
		t.Fatalf("Encode of Decode(%v) is %v %d", b, c, e)
	}
}

// P5.2: of a short program every byte in turn is every other one.
func TestEachByteChanged(t *testing.T) {
	for _, p := range [][]api.Instr{of(0, exit), of(0, ins(api.Jump, 0)), {ins(api.Compute, 65536), ins(api.Lock, 31), ins(api.Jump, 2)}, {ins(api.Sleep, 1), ins(api.Prio, 255), ins(api.Spawn, 15), exit}} {
		b := plainBytes(p)
		for at := range b {
			for x := range 256 {
				c := slices.Clone(b)
				c[at] = byte(x)
				decodeThenEncode(t, c)
			}
		}
	}
}

// P5.2: of many programs some bytes are others, or there are more, or fewer.
func TestManyBytes(t *testing.T) {
	d := drawer(77)
	for range 20000 {
		b := plainBytes(d.program())
		for range d.below(3) {
			b[d.below(len(b))] = byte(d.below(1 + d.below(256)))
		}
		switch d.below(8) {
		case 0:
			b = b[:d.below(len(b)+1)]
		case 1:
			b = append(b, byte(d.below(256)))
		}
		decodeThenEncode(t, b)
	}
	for range 20000 {
		b := make([]byte, 1+4*d.below(3))
		for at := range b {
			b[at] = byte(d.below(1 + d.below(12)))
		}
		decodeThenEncode(t, b)
	}
}

// P5.1: many programs, with one or two wrong numbers in them.
func TestManyPrograms(t *testing.T) {
	d := drawer(3)
	for range 20000 {
		p := d.program()
		for range d.below(3) {
			at := d.below(len(p))
			switch d.below(3) {
			case 0:
				p[at].Op = api.Op(d.below(14) - 2)
			case 1:
				p[at].Arg = d.below(70) - 2
			case 2:
				p[at].Arg = d.below(1 << 18)
			}
		}
		e, at := plainCheck(p)
		if e == api.OK {
			taken(t, p)
		} else {
			refused(t, p, at)
		}
	}
}

// P5.1: what comes behind a place, by its Op.
func TestNext(t *testing.T) {
	p := []api.Instr{
		ins(api.Compute, 9), ins(api.Lock, 9), ins(api.Unlock, 9), ins(api.Spawn, 9), ins(api.Sleep, 9), ins(api.Yield, 0), ins(api.Prio, 9),
		ins(api.Jump, 10), ins(api.Jump, 0), ins(api.Jump, 9), exit, ins(api.Jump, 7),
	}
	want := [][]int{{1}, {2}, {3}, {4}, {5}, {6}, {7}, {10}, {0}, {9}, nil, {7}}
	for at := range p {
		if got := prog.Next(p, at); !slices.Equal(got, want[at]) {
			t.Errorf("Next(%d) is %v, want %v", at, got, want[at])
		}
	}
	for _, at := range []int{math.MinInt, -len(p), -1, len(p), len(p) + 1, math.MaxInt} {
		if got := prog.Next(p, at); len(got) != 0 {
			t.Errorf("Next(%d) is %v", at, got)
		}
	}
	if got := prog.Next(of(api.MaxCode-1, exit), api.MaxCode-2); !slices.Equal(got, []int{api.MaxCode - 1}) {
		t.Error(got)
	}
}

// P5.3: from each place of a right program all that follows are places of it.
func TestNextStaysWithin(t *testing.T) {
	d := drawer(11)
	for range 2000 {
		p := d.program()
		for at, i := range p {
			l := prog.Next(p, at)
			if i.Op == api.Exit && len(l) != 0 || i.Op != api.Exit && len(l) != 1 {
				t.Fatal(p, at, l)
			}
			for _, to := range l {
				if to < 0 || to >= len(p) || i.Op == api.Jump && to != i.Arg || i.Op != api.Jump && to != at+1 {
					t.Fatal(p, at, l)
				}
			}
		}
	}
}

// P3: what is handed in stays as it is, spare room behind its end too.
func TestHandedInStays(t *testing.T) {
	for _, p := range [][]api.Instr{{ins(api.Compute, 3), exit}, {ins(api.Compute, 0), exit}, {ins(api.Lock, 3)}, {ins(api.Jump, 0)}} {
		room := append(slices.Clone(p), ins(77, 78), ins(79, 80), ins(81, 82))
		was := slices.Clone(room)
		in := room[:len(p)]
		prog.Check(in)
		prog.Encode(in)
		for at := -1; at <= len(room); at++ {
			prog.Next(in, at)
		}
		if !slices.Equal(room, was) {
			t.Error(room, was)
		}
		bytesWere := append(plainBytes(p), 1, 2, 3, 4, 5)
		b := slices.Clone(bytesWere)
		for end := range b {
			prog.Decode(b[:end])
		}
		if !bytes.Equal(b, bytesWere) {
			t.Error(b, bytesWere)
		}
	}
}

// P3: what is answered is the caller's: what it does to that is not seen by other calls, nor by what it handed in.
func TestAnswersAreTheCallers(t *testing.T) {
	p := []api.Instr{ins(api.Compute, 3), ins(api.Jump, 0)}
	was := slices.Clone(p)
	b, _ := prog.Encode(p)
	c, _ := prog.Encode(p)
	clear(b[:cap(b)])
	if !bytes.Equal(c, plainBytes(was)) {
		t.Error(c)
	}
	q, _ := prog.Decode(c)
	r, _ := prog.Decode(c)
	clear(q[:cap(q)])
	if !slices.Equal(r, was) || !bytes.Equal(c, plainBytes(was)) {
		t.Error(r, c)
	}
	for at, want := range []int{1, 0} {
		l, m := prog.Next(p, at), prog.Next(p, at)
		l[0] = 99
		if m[0] != want || prog.Next(p, at)[0] != want {
			t.Error(at, m)
		}
	}
	if !slices.Equal(p, was) {
		t.Error(p)
	}
}

// P6: nothing is kept: what a call answers does not hang on the calls ahead of it.
func TestNothingIsKept(t *testing.T) {
	small, great := of(1, exit), of(api.MaxCode-1, ins(api.Jump, api.MaxCode-1))
	for range 3 {
		taken(t, great)
		refused(t, of(1, ins(api.Jump, 2)), 1) // a place of the great one only
		wrongBytes(t, plainBytes(great)[:9])
		taken(t, small)
		wrongBytes(t, nil)
	}
}
