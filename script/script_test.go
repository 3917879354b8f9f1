package script_test

import (
	"bytes"
	"slices"
	"testing"

	"boatswain/api"
	"boatswain/script"
)

// sameAll holds two scripts against each other.
func sameAll(a, b []script.Entry) bool { return slices.EqualFunc(a, b, plainSame) }

// taken lets Encode and Decode take a script.
func taken(t *testing.T, l []script.Entry) {
	t.Helper()
	b, e := script.Encode(l)
	if e != api.OK || !bytes.Equal(b, joined(l)) {
		t.Fatalf("Encode(%v) is %x %d, and not %x", l, b, e, joined(l))
	}
	got, e, n := script.Decode(joined(l))
	if e != api.OK || n != 0 || !sameAll(got, l) {
		t.Fatalf("Decode(%x) is %v %d %d, and not %v", joined(l), got, e, n, l)
	}
}

// refused lets Encode refuse a script.
func refused(t *testing.T, l []script.Entry) {
	t.Helper()
	if b, e := script.Encode(l); e != api.ErrForm || len(b) != 0 {
		t.Fatalf("Encode(%v) is %x %d", l, b, e)
	}
}

// wrongBytes lets Decode refuse bytes, behind so many right entries.
func wrongBytes(t *testing.T, b []byte, ahead int) {
	t.Helper()
	if l, e, n := script.Decode(b); e != api.ErrForm || len(l) != 0 || n != ahead {
		t.Fatalf("Decode(%x) is %v %d %d, and not wrong behind %d", b, l, e, n, ahead)
	}
}

// The document's example, and one of each kind by its bytes.
func TestExamples(t *testing.T) {
	for _, v := range []struct {
		e script.Entry
		b []byte
	}{
		{tick(1), []byte{2, 0, 1}},
		{tick(0x1234), []byte{2, 0x12, 0x34}},
		{step(7, 0x0102030405060708), []byte{1, 7, 1, 2, 3, 4, 5, 6, 7, 8}},
		{load(ins(api.Compute, 3), ins(api.Exit, 0)), []byte{3, 2, 1, 0, 0, 3, 9, 0, 0, 0}},
		{admit(0x0102030405060708, 0x1112131415161718), []byte{4, 1, 2, 3, 4, 5, 6, 7, 8, 0x11, 0x12, 0x13, 0x14, 0x15, 0x16, 0x17, 0x18}},
		{start(3, 200, -1), []byte{5, 3, 200, 0}},
		{start(255, 0, 254), []byte{5, 255, 0, 255}},
	} {
		if b, e := script.Encode([]script.Entry{v.e}); e != api.OK || !bytes.Equal(b, v.b) {
			t.Errorf("%v: %x %d", v.e, b, e)
		}
		if l, e, n := script.Decode(v.b); e != api.OK || n != 0 || !sameAll(l, []script.Entry{v.e}) {
			t.Errorf("%x: %v %d %d", v.b, l, e, n)
		}
	}
}

// The numbers of what entries do stand in their bytes.
func TestDos(t *testing.T) {
	want := []script.Do{0, 1, 2, 3, 4, 5}
	if got := []script.Do{script.NoDo, script.Step, script.Tick, script.Load, script.Admit, script.Start}; !slices.Equal(got, want) {
		t.Error(got)
	}
}

// P15.1, P15.2: right entries, each field at its least and greatest: alone, and among others.
func TestRights(t *testing.T) {
	all := rights()
	for _, e := range all {
		if !script.Right(e) {
			t.Error(e, "is right")
		}
		taken(t, []script.Entry{e})
		taken(t, []script.Entry{tick(7), e, e, start(1, 2, 3)})
	}
	taken(t, all)
}

// P15.1: wrong ones: a field one beyond, something that the Do does not name, a Do of none, a program that is not right.
func TestWrongs(t *testing.T) {
	for _, e := range wrongs() {
		if script.Right(e) {
			t.Error(e, "is not right")
		}
		refused(t, []script.Entry{e})
		refused(t, []script.Entry{tick(7), e})
		refused(t, []script.Entry{e, tick(7)})
		refused(t, append(append(few(), e), few()...))
	}
}

// An empty program is no program, nil or not; but of another entry both are nothing more.
func TestEmptyCode(t *testing.T) {
	for _, e := range few() {
		if e.Do == script.Load {
			continue
		}
		e.Code = []api.Instr{}
		if !script.Right(e) {
			t.Error(e)
		}
		taken(t, []script.Entry{e})
		without := e
		without.Code = nil
		if !script.Same(e, without) || !script.Same(without, e) {
			t.Error(e)
		}
	}
}

// P15.1: no entries at all, and no bytes.
func TestNone(t *testing.T) {
	for _, l := range [][]script.Entry{nil, {}} {
		if b, e := script.Encode(l); len(b) != 0 || e != api.OK {
			t.Error(b, e)
		}
	}
	for _, b := range [][]byte{nil, {}} {
		if l, e, n := script.Decode(b); len(l) != 0 || e != api.OK || n != 0 {
			t.Error(l, e, n)
		}
	}
}

// P15.1: bytes that are cut within each entry, which is the first one, or has others ahead.
func TestCut(t *testing.T) {
	ahead := [][]script.Entry{nil, {tick(1)}, few()}
	for _, e := range append(few(), load(of(63, ins(api.Exit, 0))...)) {
		for _, l := range ahead {
			whole := append(joined(l), plainBytes(e)...)
			for end := len(joined(l)) + 1; end < len(whole); end++ {
				wrongBytes(t, whole[:end], len(l))
				wrongBytes(t, slices.Clip(slices.Clone(whole[:end])), len(l)) // what lies behind the end is not read
			}
		}
	}
}

// P15.1: a whole script with more behind: bytes of none, the beginning of another entry, and another whole one.
func TestMoreBehind(t *testing.T) {
	l := few()
	for n := range l {
		b := joined(l[:n])
		for x := range 256 {
			wrongBytes(t, append(slices.Clone(b), byte(x)), n)
		}
		wrongBytes(t, append(slices.Clone(b), 0, 0, 0, 0), n)
		wrongBytes(t, append(slices.Clone(b), 6, 0, 1, 2, 3), n)
		taken(t, append(slices.Clone(l[:n]), l[0]))
	}
}

// P15.1: bytes of an entry that is not right, with right ones ahead and behind.
func TestWrongBytes(t *testing.T) {
	wrong := [][]byte{{2, 0, 0}, {0}, {0, 0, 1}, {6}, {6, 0, 1}, {255, 255, 255}}
	for _, code := range wrongCodes() {
		if len(code) < 256 {
			right := true
			for _, i := range code {
				right = right && i.Arg >= 0
			}
			if right {
				wrong = append(wrong, append([]byte{3}, plainCode(code)...))
			}
		}
	}
	wrong = append(wrong, []byte{3, 1, 9, 1, 0, 0}, []byte{3, 1, 8, 0, 0, 1}, []byte{3, 0}, []byte{3, 0, 9, 0, 0, 0}, []byte{3, 2, 9, 0, 0, 0}, []byte{3, 65})
	for _, w := range wrong {
		for _, ahead := range [][]script.Entry{nil, {step(1, 2)}, few()} {
			wrongBytes(t, append(joined(ahead), w...), len(ahead))
			wrongBytes(t, append(append(joined(ahead), w...), 2, 0, 1), len(ahead))
		}
	}
}

// P15.1, P15.2: all bytes up to two, and all three bytes of a Tick.
func TestAllShort(t *testing.T) {
	hold := func(b ...byte) {
		t.Helper()
		l, e, n := script.Decode(b)
		want, ok, ahead := plainDecode(b)
		if ok != (e == api.OK) || !ok && e != api.ErrForm || n != ahead || !sameAll(l, want) {
			t.Fatalf("Decode(%x) is %v %d %d, and not %v %d", b, l, e, n, want, ahead)
		}
	}
	for a := range 256 {
		hold(byte(a))
		for b := range 256 {
			hold(byte(a), byte(b))
			hold(2, byte(a), byte(b))
			hold(5, byte(a), 9, byte(b))
		}
	}
}

// P15.1, P15.2, P1: bytes of any kind.
func TestAnyBytes(t *testing.T) {
	roll := rolls(5)
	seen := map[api.Errno]int{}
	deep := 0
	for range 20000 {
		b := joined(drawn(roll, roll(6)))
		switch roll(5) {
		case 0:
			b = nil
			for range roll(40) {
				b = append(b, byte(roll(7)))
			}
		case 1:
			if len(b) > 0 {
				b[roll(len(b))] = byte(roll(256))
			}
		case 2:
			b = b[:roll(len(b)+1)]
		case 3:
			b = append(b, byte(roll(256)))
		}
		was := slices.Clone(b)
		l, e, n := script.Decode(b)
		want, ok, ahead := plainDecode(b)
		if ok != (e == api.OK) || !ok && e != api.ErrForm || n != ahead || !sameAll(l, want) {
			t.Fatalf("Decode(%x) is %v %d %d, and not %v %d", b, l, e, n, want, ahead)
		}
		if !bytes.Equal(b, was) {
			t.Fatal("the bytes were changed")
		}
		if again, e := script.Encode(l); ok && (e != api.OK || !bytes.Equal(again, b)) {
			t.Fatalf("Encode of Decode of %x is %x %d", b, again, e)
		}
		seen[e]++
		deep = max(deep, n)
	}
	if seen[api.OK] < 1000 || seen[api.ErrForm] < 1000 || deep < 3 {
		t.Error(seen, deep)
	}
}

// P15.1, P15.2: long scripts of every kind, one of which is wrong now and then.
func TestLong(t *testing.T) {
	roll := rolls(9)
	wrong := wrongs()
	for range 200 {
		l := drawn(roll, roll(200))
		taken(t, l)
		at := roll(len(l) + 1)
		refused(t, slices.Insert(l, at, wrong[roll(len(wrong))]))
	}
}

// P15.1: Same, of each two of many, right ones and wrong ones; two with lists of their own too.
func TestSame(t *testing.T) {
	all := append(append(few(), wrongs()...), drawn(rolls(3), 100)...)
	for i, a := range all {
		for j, b := range all {
			b.Code = slices.Clone(b.Code)
			if got := script.Same(a, b); got != plainSame(a, b) || i == j && !got {
				t.Fatal(a, b, got)
			}
		}
	}
}

// P15.1: Same tells two apart that differ in one field, whatever they do.
func TestSameTellsApart(t *testing.T) {
	change := []func(*script.Entry){
		func(e *script.Entry) { e.Do++ },
		func(e *script.Entry) { e.Proc++ },
		func(e *script.Entry) { e.Draw++ },
		func(e *script.Entry) { e.N++ },
		func(e *script.Entry) { e.Code = append(slices.Clone(e.Code), api.Instr{}) },
		func(e *script.Entry) { e.Budget++ },
		func(e *script.Entry) { e.Period++ },
		func(e *script.Entry) { e.Prog++ },
		func(e *script.Entry) { e.Level++ },
		func(e *script.Entry) { e.Server++ },
	}
	for _, a := range append(few(), script.Entry{}) {
		for i, c := range change {
			b := a
			c(&b)
			if script.Same(a, b) || script.Same(b, a) || !script.Same(b, b) {
				t.Error(i, a, b)
			}
		}
	}
	a, b, c := load(ins(api.Yield, 0), ins(api.Exit, 0)), load(ins(api.Yield, 1), ins(api.Exit, 0)), load(ins(api.Jump, 0), ins(api.Exit, 0))
	if script.Same(a, b) || script.Same(a, c) || script.Same(b, c) {
		t.Error("programs of one length")
	}
}

// P3: what is handed in stays as it is, spare room behind a list's end too.
func TestHandedInStays(t *testing.T) {
	code := append(make([]api.Instr, 0, 9), ins(api.Yield, 0), ins(api.Exit, 0))
	code[:9][2] = ins(api.Prio, 77)
	l := append(make([]script.Entry, 0, 9), load(code...), tick(3), start(1, 2, 3))
	l[:9][3] = step(9, 9)
	b, _ := script.Encode(l)
	script.Right(l[0])
	script.Same(l[0], l[0])
	for i := range b {
		b[i] = 99
	}
	if !sameAll(l[:4], []script.Entry{load(ins(api.Yield, 0), ins(api.Exit, 0)), tick(3), start(1, 2, 3), step(9, 9)}) || code[:9][2] != ins(api.Prio, 77) {
		t.Error(l[:4], code[:3])
	}
	for _, whole := range [][]byte{joined(l), {2, 0, 1, 3}} {
		in := append(make([]byte, 0, len(whole)+9), whole...)
		in[:len(in)+1][len(in)] = 99
		script.Decode(in)
		if !bytes.Equal(in[:len(in)+1], append(slices.Clone(whole), 99)) {
			t.Error(in)
		}
	}
}

// P3, P6: what is answered is the caller's: whatever becomes of it, the next answer is the same; no two of one answer lie in one list.
func TestAnswersAreTheCallers(t *testing.T) {
	l := []script.Entry{load(of(2, ins(api.Exit, 0))...), load(of(2, ins(api.Exit, 0))...), tick(4)}
	in := joined(l)
	first, _, _ := script.Decode(in)
	clear(in)
	if !sameAll(first, l) {
		t.Error("it lies in what was handed in", first)
	}
	second, _, _ := script.Decode(joined(l))
	_ = append(second[0].Code, ins(api.Prio, 1), ins(api.Prio, 2))
	clear(second[0].Code)
	if !sameAll(second[1:], l[1:]) || !sameAll(first, l) {
		t.Error(first, second)
	}
	clear(second)
	if !sameAll(first, l) {
		t.Error(first)
	}
	b, _ := script.Encode(l)
	c, _ := script.Encode(l)
	clear(b[:cap(b)])
	if !bytes.Equal(c, joined(l)) {
		t.Error(c)
	}
}
