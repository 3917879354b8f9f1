package script

import "boatswain/prog"

// How many bytes numbers and parts of a program are told by.
const (
	doSize    = 1
	procSize  = 1
	wordSize  = 8 // Draw, Budget, Period
	nSize     = 2
	startSize = 3 // Prog, Level, Server
	countSize = 1 // of a program: how many instructions it has
	instrSize = 4 // each of them
)

// within tells whether a number is from the least to the most.
func within(n, least, most int) bool {
	return least <= n && n <= most
}

// tell puts the bytes of a right entry behind b.
func tell(b []byte, e Entry) []byte {
	b = append(b, byte(e.Do))
	switch e.Do {
	case Step:
		b = append(b, byte(e.Proc))
		b = tellNumber(b, e.Draw, wordSize)
	case Tick:
		b = tellNumber(b, uint64(e.N), nSize)
	case Load:
		code, _ := prog.Encode(e.Code)
		b = append(b, code...)
	case Admit:
		b = tellNumber(b, e.Budget, wordSize)
		b = tellNumber(b, e.Period, wordSize)
	case Start:
		b = append(b, byte(e.Prog), e.Level, byte(e.Server-none))
	}
	return b
}

// tellNumber puts a number of so many bytes behind b.
func tellNumber(b []byte, number uint64, size int) []byte {
	for place := size - 1; place >= 0; place-- {
		b = append(b, byte(number>>(8*place)))
	}
	return b
}

// length is how many bytes the entry has that b, which is not empty, begins
// with. Where b ends ahead of what tells it, it is more than there are.
func length(b []byte) int {
	switch Do(b[0]) {
	case Step:
		return doSize + procSize + wordSize
	case Tick:
		return doSize + nSize
	case Load:
		size := doSize + countSize
		if len(b) >= size {
			size += int(b[doSize]) * instrSize
		}
		return size
	case Admit:
		return doSize + wordSize + wordSize
	case Start:
		return doSize + startSize
	}
	return doSize
}

// read is the entry, right or not, that bytes of its length tell.
func read(b []byte) Entry {
	e := Entry{Do: Do(b[0])}
	b = b[doSize:]
	switch e.Do {
	case Step:
		e.Proc, e.Draw = int(b[0]), readNumber(b[procSize:])
	case Tick:
		e.N = int(readNumber(b))
	case Load:
		e.Code, _ = prog.Decode(b) // none, if it is not right: so the entry isn't either
	case Admit:
		e.Budget, e.Period = readNumber(b[:wordSize]), readNumber(b[wordSize:])
	case Start:
		e.Prog, e.Level, e.Server = int(b[0]), b[1], int(b[2])+none
	}
	return e
}

// readNumber is the one that all of these bytes tell.
func readNumber(b []byte) uint64 {
	var number uint64
	for _, x := range b {
		number = number<<8 | uint64(x)
	}
	return number
}
