package age_test

import (
	"math/big"
	"testing"

	"boatswain/age"
	"boatswain/api"
)

const last = uint64(api.MaxTime)

// edges are times, and periods, at which sums, differences and shares turn.
var edges = []uint64{0, 1, 2, 3, 5, 10, 254, 255, 256, 257, 1<<32 - 1, 1 << 32, 1<<56 - 1, 1 << 56, 1<<56 + 1, 1<<63 - 1, 1 << 63, 1<<63 + 1, last - 256, last - 255, last - 2, last - 1, last}

var bases = []byte{0, 1, 3, 127, 128, 200, 253, 254, 255}

func whole(x uint64) *big.Int { return new(big.Int).SetUint64(x) }

// level is what the document says of Level, in true numbers.
func level(base byte, since, now, period uint64) byte {
	if period == 0 || now < since {
		return base
	}
	waited := new(big.Int).Sub(whole(now), whole(since))
	sum := waited.Div(waited, whole(period))
	sum.Add(sum, whole(uint64(base)))
	if sum.Cmp(big.NewInt(255)) > 0 {
		return 255
	}
	return byte(sum.Uint64())
}

// check holds both calls against what the document says of them: P12.1 to P12.3.
func check(t *testing.T, base byte, since, now, period uint64) (next uint64, ok bool) {
	t.Helper()
	is := age.Level(base, since, now, period)
	if want := level(base, since, now, period); is != want {
		t.Fatalf("Level(%d, %d, %d, %d) is %d, want %d", base, since, now, period, is, want)
	}
	if is < base {
		t.Fatalf("Level(%d, %d, %d, %d) is %d, below its base", base, since, now, period, is)
	}
	next, ok = age.Next(base, since, now, period)
	told := []any{base, since, now, period, "is", is, "Next is", next, ok}
	if !ok { // none that is a time: not the last one either
		if next != 0 || level(base, since, last, period) != is {
			t.Fatal(told...)
		}
		return next, ok
	}
	if next <= now || level(base, since, next, period) <= is || level(base, since, next-1, period) != is {
		t.Fatal(told...)
	}
	for _, time := range []uint64{now, now + (next-now)/2, next - 1} { // P12.3
		if age.Level(base, since, time, period) != is {
			t.Fatal(append(told, "at", time)...)
		}
	}
	if age.Level(base, since, next, period) != is+1 { // one period more is one level more
		t.Fatal(told...)
	}
	return next, ok
}

// P12.1: the document's example.
func TestExample(t *testing.T) {
	if level := age.Level(3, 10, 25, 5); level != 6 {
		t.Error(level)
	}
	if next, ok := age.Next(3, 10, 25, 5); next != 30 || !ok {
		t.Error(next, ok)
	}
}

// P12.1: ordinary ones and edges, told one by one.
func TestKnown(t *testing.T) {
	for _, c := range []struct {
		base               byte
		since, now, period uint64
		want               byte
		next               uint64
		ok                 bool
	}{
		{3, 10, 10, 5, 3, 15, true}, // now is since
		{3, 10, 14, 5, 3, 15, true},
		{3, 10, 15, 5, 4, 20, true}, // just a period
		{3, 10, 19, 5, 4, 20, true},
		{3, 10, 20, 5, 5, 25, true},
		{0, 0, 0, 1, 0, 1, true}, // period 1
		{0, 0, 254, 1, 254, 255, true},
		{0, 0, 255, 1, 255, 0, false},
		{0, 0, 256, 1, 255, 0, false}, // above 255
		{0, 0, last, 1, 255, 0, false},
		{1, 0, last, 1, 255, 0, false},
		{3, 10, 0, 5, 3, 15, true}, // since above now
		{3, 10, 9, 5, 3, 15, true},
		{3, last, 0, 1, 3, 0, false},
		{3, last - 1, 0, 1, 3, last, true},
		{3, last - 5, 0, 5, 3, last, true},
		{3, last - 4, 0, 5, 3, 0, false},
		{254, 0, 99, 100, 254, 100, true}, // base 254 and 255
		{254, 0, 100, 100, 255, 0, false},
		{255, 0, 0, 1, 255, 0, false},
		{255, 0, 100, 1, 255, 0, false},
		{255, 100, 0, 1, 255, 0, false},
		{0, 0, last - 1, last, 0, last, true}, // the last time is one
		{0, 0, 0, last, 0, last, true},
		{0, 0, last, last, 1, 0, false},
		{0, 1, 0, last, 0, 0, false},
		{0, 0, last - 1, 1 << 63, 1, 0, false},
		{0, 0, last, 1 << 57, 127, 0, false},
		{0, last, last, 1, 0, 0, false},
		{0, last - 1, last, 1, 1, 0, false},
		{7, 0, 1000, 0, 7, 0, false}, // period 0
		{7, 0, last, 0, 7, 0, false},
		{7, last, 0, 0, 7, 0, false},
		{255, 5, 5, 0, 255, 0, false},
		{0, 0, 0, 0, 0, 0, false},
	} {
		if level := age.Level(c.base, c.since, c.now, c.period); level != c.want {
			t.Error(c, "Level", level)
		}
		if next, ok := age.Next(c.base, c.since, c.now, c.period); next != c.next || ok != c.ok {
			t.Error(c, "Next", next, ok)
		}
	}
}

// P12.1 to P12.3, P1, P5: every pair of edges.
func TestEdges(t *testing.T) {
	found := map[bool]int{}
	for _, base := range bases {
		for _, since := range edges {
			for _, now := range edges {
				for _, period := range edges {
					_, ok := check(t, base, since, now, period)
					found[ok]++
				}
			}
		}
	}
	if found[true] == 0 || found[false] == 0 {
		t.Error(found)
	}
}

// P12.1: Next is the least one, found by going through all times.
func TestLeast(t *testing.T) {
	for _, base := range []byte{0, 250, 253, 254, 255} {
		for period := range uint64(7) {
			for since := range uint64(12) {
				for now := range uint64(40) {
					var want uint64
					found := false
					for time := now + 1; time < now+30 && !found; time++ {
						if level(base, since, time, period) > level(base, since, now, period) {
							want, found = time, true
						}
					}
					if next, ok := age.Next(base, since, now, period); next != want || ok != found {
						t.Fatal(base, since, now, period, "is", next, ok, "want", want, found)
					}
				}
			}
		}
	}
}

// P12.2: Level never falls while time goes on, and is never below base: time by time, and from edge to edge.
func TestNeverFalls(t *testing.T) {
	for _, base := range bases {
		for _, period := range edges {
			for _, since := range edges {
				before := base
				for _, now := range edges { // these rise
					is := age.Level(base, since, now, period)
					if is < before {
						t.Fatal(base, since, now, period, "fell from", before, "to", is)
					}
					before = is
				}
			}
		}
		for period := range uint64(5) {
			before := base
			for now := range uint64(1500) {
				is := age.Level(base, 100, now, period)
				if is < before || is > before+1 && before < 255 {
					t.Fatal(base, now, period, "went from", before, "to", is)
				}
				before = is
			}
		}
	}
}

// P12.1, P12.3: from Next to Next a level comes up to 255, or to the last time, one by one.
func TestClimb(t *testing.T) {
	for _, base := range bases {
		for _, period := range []uint64{1, 2, 3, 1000, 1 << 56, 1<<56 + 1, 1 << 60, 1 << 63, last} {
			for _, since := range []uint64{0, 1, 77, 1 << 63, last - 600, last - 2, last} {
				now, rises := uint64(0), 0
				for {
					next, ok := check(t, base, since, now, period)
					if !ok {
						break
					}
					now = next
					rises++
				}
				want := int(level(base, since, last, period)) - int(base)
				if rises != want {
					t.Fatal(base, since, period, "rose", rises, "times, want", want)
				}
			}
		}
	}
}

// rolls draws numbers, always the same ones, of all lengths.
func rolls(seed uint64) func() uint64 {
	one := func() uint64 {
		seed = seed*6364136223846793005 + 1442695040888963407
		return seed >> 32
	}
	return func() uint64 { return (one()<<32 | one()) >> (one() % 64) }
}

// P12.1 to P12.3: long runs; the same call answers the same again (P6).
func TestLongRuns(t *testing.T) {
	next := rolls(12)
	for range 60000 {
		base, since, now, period := byte(next()), next(), next(), next()
		time, ok := check(t, base, since, now, period)
		if again, still := age.Next(base, since, now, period); again != time || still != ok {
			t.Fatal(base, since, now, period, "is", time, ok, "and then", again, still)
		}
	}
}
