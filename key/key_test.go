package key_test

import (
	"slices"
	"testing"

	"boatswain/api"
	"boatswain/key"
)

const last = uint64(api.MaxTime)

// deadlines are some, the edges among them.
var deadlines = []uint64{0, 1, 2, 8, 9, 255, 256, 1 << 32, 1<<63 - 1, 1 << 63, last - 255, last - 1, last}

// rightOnes are keys, the more urgent ones first: all levels, and some deadlines.
func rightOnes() []api.Key {
	var l []api.Key
	for _, d := range deadlines {
		l = append(l, api.Key{Edf: true, Deadline: d})
	}
	for level := 255; level >= 0; level-- {
		l = append(l, api.Key{Level: byte(level)})
	}
	return l
}

// anyOnes are keys of every kind, right or not.
func anyOnes() []api.Key {
	var l []api.Key
	for _, edf := range []bool{false, true} {
		for _, d := range deadlines {
			for _, level := range []byte{0, 1, 2, 127, 128, 254, 255} {
				l = append(l, api.Key{Edf: edf, Deadline: d, Level: level})
			}
		}
	}
	return l
}

// plainAbove is the document's list of when one is Above another one.
func plainAbove(a, b api.Key) bool {
	return a.Edf && !b.Edf ||
		a.Edf && b.Edf && a.Deadline < b.Deadline ||
		!a.Edf && !b.Edf && a.Level > b.Level
}

// greater holds two numbers of 128 bits against each other.
func greater(a, b api.U128) bool {
	return a.Hi > b.Hi || a.Hi == b.Hi && a.Lo > b.Lo
}

// P8.1: Fixed of each level, Dead of deadlines and their edges; all else is 0.
func TestFixedAndDead(t *testing.T) {
	for level := range 256 {
		if k := key.Fixed(byte(level)); k != (api.Key{Edf: false, Deadline: 0, Level: byte(level)}) {
			t.Error(level, k)
		}
	}
	for _, d := range deadlines {
		if k := key.Dead(d); k != (api.Key{Edf: true, Deadline: d, Level: 0}) {
			t.Error(d, k)
		}
	}
	if key.Fixed(0) != (api.Key{}) || key.Dead(0) == key.Fixed(0) {
		t.Error("the least ones")
	}
}

// P8.1: what Fixed and Dead make is right; with both a level and a deadline, or a deadline and no Edf, it is not.
func TestRight(t *testing.T) {
	for _, k := range rightOnes() {
		if !key.Right(k) {
			t.Error(k, "is right")
		}
	}
	for _, k := range []api.Key{
		{Edf: true, Level: 1}, {Edf: true, Level: 255}, {Edf: true, Deadline: 1, Level: 1}, {Edf: true, Deadline: last, Level: 255},
		{Deadline: 1}, {Deadline: last}, {Deadline: 1, Level: 1}, {Deadline: last, Level: 255}, {Deadline: 1 << 63, Level: 128},
	} {
		if key.Right(k) {
			t.Error(k, "is not right")
		}
	}
	for _, k := range anyOnes() {
		want := k.Edf && k.Level == 0 || !k.Edf && k.Deadline == 0
		if key.Right(k) != want {
			t.Error(k, !want)
		}
	}
}

// P8.1: the document's example.
func TestExample(t *testing.T) {
	if !key.Above(key.Dead(9), key.Fixed(255)) || !key.Above(key.Dead(8), key.Dead(9)) {
		t.Error("Above")
	}
}

// P8.1, P8.2: of right ones the order is one: each is Above all behind it, and not itself.
func TestAboveOfRightOnes(t *testing.T) {
	l := rightOnes()
	for i, a := range l {
		for k, b := range l {
			if key.Above(a, b) != (i < k) {
				t.Errorf("Above(%v, %v) is %v", a, b, !(i < k))
			}
			ways := 0
			for _, holds := range []bool{key.Above(a, b), key.Above(b, a), a == b} {
				if holds {
					ways++
				}
			}
			if ways != 1 {
				t.Errorf("%v and %v: %d of three hold", a, b, ways)
			}
		}
	}
}

// P8.1, P8.3: of keys of every kind, Above is as the document lists it, and as Rank is greater.
func TestAboveAndRank(t *testing.T) {
	l := slices.Concat(rightOnes(), anyOnes())
	for _, a := range l {
		for _, b := range l {
			got := key.Above(a, b)
			if got != plainAbove(a, b) {
				t.Errorf("Above(%v, %v) is %v", a, b, got)
			}
			if got != greater(key.Rank(a), key.Rank(b)) {
				t.Errorf("Above(%v, %v) is %v, Ranks %v and %v", a, b, got, key.Rank(a), key.Rank(b))
			}
		}
	}
}

// P8.1: Max is b, if it is Above a; else a, as it is.
func TestMax(t *testing.T) {
	l := slices.Concat(rightOnes(), anyOnes())
	for _, a := range l {
		for _, b := range l {
			want := a
			if plainAbove(b, a) {
				want = b
			}
			if got := key.Max(a, b); got != want {
				t.Errorf("Max(%v, %v) is %v", a, b, got)
			}
		}
	}
	a, b := api.Key{Edf: true, Deadline: 4, Level: 1}, api.Key{Edf: true, Deadline: 4, Level: 2}
	if key.Max(a, b) != a || key.Max(b, a) != b {
		t.Error("of two alike it is the first one")
	}
}

// P8.1: Rank of levels and deadlines, and of such as have both.
func TestRank(t *testing.T) {
	for level := range 256 {
		if r := key.Rank(api.Key{Level: byte(level)}); r != (api.U128{Hi: 0, Lo: uint64(level)}) {
			t.Error(level, r)
		}
	}
	for _, d := range deadlines {
		for _, level := range []byte{0, 9, 255} {
			if r := key.Rank(api.Key{Edf: true, Deadline: d, Level: level}); r != (api.U128{Hi: 1, Lo: last - d}) {
				t.Error(d, level, r)
			}
			if r := key.Rank(api.Key{Deadline: d, Level: level}); r != (api.U128{Hi: 0, Lo: uint64(level)}) {
				t.Error(d, level, r)
			}
		}
	}
	if key.Rank(key.Dead(0)) != (api.U128{Hi: 1, Lo: last}) || key.Rank(key.Dead(last)) != (api.U128{Hi: 1}) || key.Rank(key.Fixed(0)) != (api.U128{}) {
		t.Error("edges")
	}
}
