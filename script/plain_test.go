package script_test

import (
	"math"
	"slices"

	"boatswain/api"
	"boatswain/prog"
	"boatswain/script"
)

const last = uint64(math.MaxUint64)

func ins(op api.Op, arg int) api.Instr { return api.Instr{Op: op, Arg: arg} }

func step(proc int, draw uint64) script.Entry {
	return script.Entry{Do: script.Step, Proc: proc, Draw: draw}
}

func tick(n int) script.Entry { return script.Entry{Do: script.Tick, N: n} }

func load(code ...api.Instr) script.Entry { return script.Entry{Do: script.Load, Code: code} }

func admit(budget, period uint64) script.Entry {
	return script.Entry{Do: script.Admit, Budget: budget, Period: period}
}

func start(prog int, level byte, server int) script.Entry {
	return script.Entry{Do: script.Start, Prog: prog, Level: level, Server: server}
}

// of is a program of so many Yields with these instructions behind.
func of(yields int, l ...api.Instr) []api.Instr {
	return append(slices.Repeat([]api.Instr{ins(api.Yield, 0)}, yields), l...)
}

// rightCodes are programs at their edges: of the least and the greatest length, with the least and the greatest Args.
func rightCodes() [][]api.Instr {
	return [][]api.Instr{
		{ins(api.Exit, 0)},
		{ins(api.Jump, 0)},
		{ins(api.Compute, 3), ins(api.Exit, 0)},
		{ins(api.Compute, 1), ins(api.Compute, 1<<16), ins(api.Sleep, 1), ins(api.Sleep, 1<<16), ins(api.Lock, 0), ins(api.Lock, 31), ins(api.Unlock, 0), ins(api.Unlock, 31), ins(api.Spawn, 0), ins(api.Spawn, 15), ins(api.Prio, 0), ins(api.Prio, 255), ins(api.Yield, 0), ins(api.Jump, 13)},
		of(62, ins(api.Exit, 0)),
		of(63, ins(api.Exit, 0)),
		of(63, ins(api.Jump, 63)),
	}
}

// wrongCodes are programs of which each is wrong in one thing.
func wrongCodes() [][]api.Instr {
	return [][]api.Instr{
		nil,
		{},
		{ins(api.NoOp, 0)},
		{ins(api.Exit, 1)},
		{ins(api.Exit, -1)},
		{ins(api.Exit+1, 0)},
		{ins(api.Yield, 0)},
		{ins(api.Jump, 1)},
		{ins(api.Jump, -1)},
		{ins(api.Exit, 0), ins(api.Yield, 0)},
		{ins(api.Compute, 0), ins(api.Exit, 0)},
		{ins(api.Compute, 1<<16+1), ins(api.Exit, 0)},
		{ins(api.Lock, 32), ins(api.Exit, 0)},
		{ins(api.Prio, 256), ins(api.Exit, 0)},
		of(64, ins(api.Exit, 0)),
		of(255, ins(api.Exit, 0)),
		of(256, ins(api.Exit, 0)),
	}
}

// rights are right entries, each field of each at its least and its greatest, and in between.
func rights() []script.Entry {
	var l []script.Entry
	for _, proc := range []int{0, 1, 63, 64, 254, 255} {
		for _, draw := range []uint64{0, 1, 255, 256, 0x0102030405060708, 1 << 63, last} {
			l = append(l, step(proc, draw))
		}
	}
	for _, n := range []int{1, 2, 255, 256, 257, 300, 0x0102, 65534, 65535} {
		l = append(l, tick(n))
	}
	for _, code := range rightCodes() {
		l = append(l, load(code...))
	}
	words := []uint64{0, 1, 2, 255, 256, 0x1112131415161718, api.Hyper, 1 << 63, last}
	for _, budget := range words {
		for _, period := range words {
			l = append(l, admit(budget, period))
		}
	}
	for _, prog := range []int{0, 1, 15, 16, 254, 255} {
		for _, level := range []byte{0, 1, 128, 254, 255} {
			for _, server := range []int{-1, 0, 1, 31, 32, 253, 254} {
				l = append(l, start(prog, level, server))
			}
		}
	}
	return l
}

// few are one or two of each kind.
func few() []script.Entry {
	return []script.Entry{
		step(0, 0), step(255, 0x8182838485868788), tick(1), tick(65535), load(ins(api.Exit, 0)), load(rightCodes()[3]...),
		admit(0, 0), admit(0x2122232425262728, last), start(0, 0, -1), start(255, 255, 254),
	}
}

// wrongs are entries of which each is wrong in one thing.
func wrongs() []script.Entry {
	l := []script.Entry{{}}
	for _, n := range []int{math.MinInt, math.MinInt32, -1 << 16, -256, -255, -2, -1, 256, 257, 511, 1 << 16, 1 << 32, math.MaxInt} {
		l = append(l, step(n, 0), step(n, last), start(n, 0, -1), start(n, 9, 0))
		if n != -1 {
			l = append(l, start(0, 0, n), start(255, 255, n))
		}
	}
	l = append(l, start(0, 0, 255), start(3, 3, 255))
	for _, n := range []int{math.MinInt, -1 << 16, -1, 0, 65536, 65537, 1<<17 - 1, 1<<32 + 1, math.MaxInt} {
		l = append(l, tick(n))
	}
	for _, code := range wrongCodes() {
		l = append(l, load(code...))
	}
	for _, e := range few() {
		for _, do := range []script.Do{math.MinInt, -256, -1, script.NoDo, script.Start + 1, 255, 256, 256 + e.Do, 1<<32 + e.Do, math.MaxInt} {
			e.Do = do
			l = append(l, e)
		}
	}
	return append(l, overful()...)
}

// overful are right entries with one thing more, which their Do does not name.
func overful() []script.Entry {
	more := []struct {
		of  []script.Do // those that name it
		add func(*script.Entry)
	}{
		{[]script.Do{script.Step}, func(e *script.Entry) { e.Proc = 1 }},
		{[]script.Do{script.Step}, func(e *script.Entry) { e.Proc = -1 }},
		{[]script.Do{script.Step}, func(e *script.Entry) { e.Draw = 1 }},
		{[]script.Do{script.Step}, func(e *script.Entry) { e.Draw = 1 << 63 }},
		{[]script.Do{script.Tick}, func(e *script.Entry) { e.N = 1 }},
		{[]script.Do{script.Tick}, func(e *script.Entry) { e.N = -1 }},
		{[]script.Do{script.Load}, func(e *script.Entry) { e.Code = []api.Instr{ins(api.Exit, 0)} }},
		{[]script.Do{script.Load}, func(e *script.Entry) { e.Code = []api.Instr{{}} }},
		{[]script.Do{script.Admit}, func(e *script.Entry) { e.Budget = 1 }},
		{[]script.Do{script.Admit}, func(e *script.Entry) { e.Period = 1 }},
		{[]script.Do{script.Admit}, func(e *script.Entry) { e.Period = 1 << 63 }},
		{[]script.Do{script.Start}, func(e *script.Entry) { e.Prog = 1 }},
		{[]script.Do{script.Start}, func(e *script.Entry) { e.Prog = -1 }},
		{[]script.Do{script.Start}, func(e *script.Entry) { e.Level = 1 }},
		{[]script.Do{script.Start}, func(e *script.Entry) { e.Server = 1 }},
		{[]script.Do{script.Start}, func(e *script.Entry) { e.Server = -1 }},
	}
	var l []script.Entry
	for _, e := range few() {
		for _, m := range more {
			if !slices.Contains(m.of, e.Do) {
				wrong := e
				m.add(&wrong)
				l = append(l, wrong)
			}
		}
	}
	return l
}

// plainBytes are those of any entry whose numbers fit in, be it right or not.
func plainBytes(e script.Entry) []byte {
	b := []byte{byte(e.Do)}
	word := func(n uint64) {
		for div := uint64(1 << 56); div > 0; div /= 256 {
			b = append(b, byte(n/div%256))
		}
	}
	switch e.Do {
	case script.Step:
		b = append(b, byte(e.Proc))
		word(e.Draw)
	case script.Tick:
		b = append(b, byte(e.N/256), byte(e.N%256))
	case script.Load:
		b = append(b, plainCode(e.Code)...)
	case script.Admit:
		word(e.Budget)
		word(e.Period)
	case script.Start:
		b = append(b, byte(e.Prog), e.Level, byte(e.Server+1))
	}
	return b
}

// plainCode are the bytes of a program whose numbers fit in, be it right or not.
func plainCode(p []api.Instr) []byte {
	b := []byte{byte(len(p))}
	for _, i := range p {
		b = append(b, byte(i.Op), byte(i.Arg/65536), byte(i.Arg/256%256), byte(i.Arg%256))
	}
	return b
}

// joined are the bytes of entries, one behind the other.
func joined(l []script.Entry) []byte {
	var b []byte
	for _, e := range l {
		b = append(b, plainBytes(e)...)
	}
	return b
}

// plainSame holds each field against its own.
func plainSame(a, b script.Entry) bool {
	if len(a.Code) != len(b.Code) {
		return false
	}
	for i := range a.Code {
		if a.Code[i] != b.Code[i] {
			return false
		}
	}
	return a.Do == b.Do && a.Proc == b.Proc && a.Draw == b.Draw && a.N == b.N && a.Budget == b.Budget && a.Period == b.Period && a.Prog == b.Prog && a.Level == b.Level && a.Server == b.Server
}

// plainDecode reads bytes one by one; false and how many there were, where one is wrong.
func plainDecode(b []byte) (l []script.Entry, ok bool, ahead int) {
	for len(b) > 0 {
		e, size, ok := plainFirst(b)
		if !ok {
			return nil, false, len(l)
		}
		l, b = append(l, e), b[size:]
	}
	return l, true, 0
}

// plainFirst is the entry that bytes begin with, and how many are its own.
func plainFirst(b []byte) (e script.Entry, size int, ok bool) {
	sizes := map[byte]int{1: 10, 2: 3, 4: 17, 5: 4}
	size = sizes[b[0]]
	if b[0] == 3 && len(b) > 1 {
		size = 2 + 4*int(b[1])
	}
	if size == 0 || size > len(b) {
		return script.Entry{}, 0, false
	}
	word := func(at int) (n uint64) {
		for _, x := range b[at : at+8] {
			n = n*256 + uint64(x)
		}
		return n
	}
	switch b[0] {
	case 1:
		return step(int(b[1]), word(2)), size, true
	case 2:
		n := int(b[1])*256 + int(b[2])
		return tick(n), size, n > 0
	case 3:
		var code []api.Instr
		for at := 2; at < size; at += 4 {
			code = append(code, ins(api.Op(b[at]), int(b[at+1])*65536+int(b[at+2])*256+int(b[at+3])))
		}
		fault, _ := prog.Check(code)
		return load(code...), size, fault == api.OK
	case 4:
		return admit(word(1), word(9)), size, true
	}
	return start(int(b[1]), b[2], int(b[3])-1), size, true
}

// rolls draws numbers below others, the same ones in each run.
func rolls(seed uint64) func(below int) int {
	return func(below int) int {
		seed = seed*6364136223846793005 + 1442695040888963407
		return int(seed >> 33 % uint64(below))
	}
}

// drawn are some right entries.
func drawn(roll func(int) int, count int) []script.Entry {
	all := rights()
	var l []script.Entry
	for range count {
		switch roll(6) {
		case 0:
			l = append(l, step(roll(256), uint64(roll(1<<30))<<roll(35)))
		case 1:
			l = append(l, tick(1+roll(65535)))
		case 2:
			codes := rightCodes()
			l = append(l, load(codes[roll(len(codes))]...))
		case 3:
			l = append(l, admit(uint64(roll(1<<30))<<roll(35), uint64(roll(1<<30))<<roll(35)))
		case 4:
			l = append(l, start(roll(256), byte(roll(256)), roll(256)-1))
		default:
			l = append(l, all[roll(len(all))])
		}
	}
	return l
}
