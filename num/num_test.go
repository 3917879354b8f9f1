package num_test

import (
	"math"
	"math/big"
	"slices"
	"testing"

	"boatswain/api"
	"boatswain/num"
)

var (
	nan     = math.NaN()
	inf     = math.Inf(1)
	minus0  = math.Copysign(0, -1)
	least   = math.SmallestNonzeroFloat64
	above1  = math.Nextafter(1, 2)
	below1  = math.Nextafter(1, 0)
	oddNaNs = []float64{nan, math.Float64frombits(0xfff8000000000000), math.Float64frombits(0x7ff0000000000001), math.Float64frombits(0xffffffffffffffff)}
)

// edges are times at which sums, differences and products turn.
var edges = []uint64{0, 1, 2, 3, 7, 1<<31 - 1, 1 << 31, 1<<32 - 1, 1 << 32, 1<<32 + 1, 1<<53 - 1, 1 << 53, 1<<53 + 1, 1<<63 - 1, 1 << 63, 1<<63 + 1, api.MaxTime - 2, api.MaxTime - 1, api.MaxTime}

func whole(x uint64) *big.Int { return new(big.Int).SetUint64(x) }

func product(a, b uint64) *big.Int { return new(big.Int).Mul(whole(a), whole(b)) }

func plain0(x float64) bool { return math.Float64bits(x) == 0 }

// P1.1, P1.5: Add.
func TestAdd(t *testing.T) {
	for _, c := range []struct{ a, b, want uint64 }{
		{0, 0, 0}, {2, 3, 5}, {api.MaxTime, 0, api.MaxTime}, {0, api.MaxTime, api.MaxTime},
		{api.MaxTime - 1, 1, api.MaxTime}, {api.MaxTime, 1, api.MaxTime}, {1, api.MaxTime, api.MaxTime},
		{api.MaxTime, api.MaxTime, api.MaxTime}, {1 << 63, 1 << 63, api.MaxTime}, {1 << 63, 1<<63 - 1, api.MaxTime},
		{1 << 63, 1<<63 - 2, api.MaxTime - 1},
	} {
		if got := num.Add(c.a, c.b); got != c.want {
			t.Errorf("Add(%d, %d) = %d, want %d", c.a, c.b, got, c.want)
		}
	}
	for _, a := range edges {
		for _, b := range edges {
			want := new(big.Int).Add(whole(a), whole(b))
			if want.Cmp(whole(api.MaxTime)) > 0 {
				want = whole(api.MaxTime)
			}
			if got := num.Add(a, b); whole(got).Cmp(want) != 0 || got < a || got < b {
				t.Errorf("Add(%d, %d) = %d, want %d", a, b, got, want)
			}
		}
	}
}

// P1.1, P1.5: Sub.
func TestSub(t *testing.T) {
	for _, c := range []struct{ a, b, want uint64 }{
		{0, 0, 0}, {3, 2, 1}, {2, 3, 0}, {0, api.MaxTime, 0}, {api.MaxTime, 0, api.MaxTime},
		{api.MaxTime, api.MaxTime, 0}, {api.MaxTime - 1, api.MaxTime, 0}, {api.MaxTime, 1, api.MaxTime - 1}, {0, 1, 0},
	} {
		if got := num.Sub(c.a, c.b); got != c.want {
			t.Errorf("Sub(%d, %d) = %d, want %d", c.a, c.b, got, c.want)
		}
	}
	for _, a := range edges {
		for _, b := range edges {
			want := new(big.Int).Sub(whole(a), whole(b))
			if want.Sign() < 0 {
				want = new(big.Int)
			}
			if got := num.Sub(a, b); whole(got).Cmp(want) != 0 || got > a {
				t.Errorf("Sub(%d, %d) = %d, want %d", a, b, got, want)
			}
		}
	}
}

// P1.1: Mul.
func TestMul(t *testing.T) {
	if got := num.Mul(api.MaxTime, api.MaxTime); got != (api.U128{Hi: api.MaxTime - 1, Lo: 1}) {
		t.Error(got)
	}
	for _, a := range edges {
		for _, b := range edges {
			u := num.Mul(a, b)
			got := new(big.Int).Add(new(big.Int).Lsh(whole(u.Hi), 64), whole(u.Lo))
			if got.Cmp(product(a, b)) != 0 {
				t.Errorf("Mul(%d, %d) = %d", a, b, got)
			}
		}
	}
}

// P1.1: Less, in true numbers: also where the products' lower halves say otherwise.
func TestLess(t *testing.T) {
	for _, c := range []struct {
		a, b, c, d uint64
		want       bool
	}{
		{0, 0, 0, 0, false}, {0, api.MaxTime, 1, 1, true}, {3, 4, 4, 3, false}, {3, 4, 13, 1, true}, {13, 1, 3, 4, false},
		{1 << 32, 1 << 32, 1, 1, false}, {1, 1, 1 << 32, 1 << 32, true},
		{api.MaxTime, api.MaxTime, api.MaxTime, api.MaxTime, false}, {api.MaxTime, api.MaxTime - 1, api.MaxTime, api.MaxTime, true},
		{1 << 63, 2, 1 << 32, 1 << 32, false}, {1<<33 - 1, 1 << 32, 1 << 33, 1 << 32, true},
	} {
		if got := num.Less(c.a, c.b, c.c, c.d); got != c.want {
			t.Error(c)
		}
	}
	for _, a := range edges {
		for _, b := range edges {
			for _, c := range edges {
				for _, d := range edges {
					if got := num.Less(a, b, c, d); got != (product(a, b).Cmp(product(c, d)) < 0) {
						t.Fatalf("Less(%d, %d, %d, %d) = %v", a, b, c, d, got)
					}
				}
			}
		}
	}
}

// P1.2: Share, with its edges by 0, and the roundings of both as floats.
func TestShare(t *testing.T) {
	if x := num.Share(0, 0); !math.IsNaN(x) {
		t.Error("0 by 0:", x)
	}
	for _, part := range edges[1:] {
		if x := num.Share(part, 0); !math.IsInf(x, 1) {
			t.Error(part, "by 0:", x)
		}
		if x := num.Share(0, part); !plain0(x) {
			t.Error("0 by", part, "is", x)
		}
		if x := num.Share(part, part); x != 1 {
			t.Error(part, "by itself:", x)
		}
	}
	for _, c := range []struct {
		part, whole uint64
		want        float64
	}{
		{1, 4, 0.25}, {1, 3, 0x1.5555555555555p-2}, {2, 3, 0x1.5555555555555p-1}, {7, 2, 3.5}, {1, 10, 0x1.999999999999ap-4},
		{1<<53 + 1, 1, 0x1p53},                              // half way: to the even one
		{1<<53 + 3, 1, 0x1p53 + 4},                          // half way: to the even one, above
		{1<<63 + 1<<10, 1, 0x1p63},                          // half way
		{1<<63 + 1<<10 + 1, 1, 0x1.0000000000001p63},        // just above half way
		{api.MaxTime, 1, 0x1p64}, {1, api.MaxTime, 0x1p-64}, // above all floats of 64 bits
		{api.MaxTime, 1 << 63, 2}, {1 << 63, api.MaxTime, 0.5},
	} {
		if got := num.Share(c.part, c.whole); got != c.want {
			t.Errorf("Share(%d, %d) = %b, want %b", c.part, c.whole, got, c.want)
		}
	}
}

// P1.2, P1.4: Clamp.
func TestClamp(t *testing.T) {
	for _, x := range append([]float64{0, minus0, -1, -least, -inf, -math.MaxFloat64, -0.5}, oddNaNs...) {
		if got := num.Clamp(x); !plain0(got) {
			t.Errorf("Clamp(%v) = %v", x, got)
		}
	}
	for _, x := range []float64{1, above1, 2, math.MaxFloat64, inf} {
		if got := num.Clamp(x); got != 1 {
			t.Errorf("Clamp(%v) = %v", x, got)
		}
	}
	for _, x := range []float64{least, 0x1p-1022, 0.1, 0.5, below1} {
		if got := num.Clamp(x); got != x {
			t.Errorf("Clamp(%v) = %v", x, got)
		}
	}
}

// P1.4: of floats of all kinds, by their bits.
func TestClampIsFrom0To1(t *testing.T) {
	bits := uint64(0)
	for range 100000 {
		bits = bits*6364136223846793005 + 1442695040888963407
		x := num.Clamp(math.Float64frombits(bits))
		if !(x >= 0 && x <= 1) || math.Signbit(x) {
			t.Fatalf("Clamp of the bits %x is %v", bits, x)
		}
	}
}

// P1.2: Mean.
func TestMean(t *testing.T) {
	if x := num.Mean(); !math.IsNaN(x) {
		t.Error("none:", x)
	}
	if x := num.Mean([]float64{}...); !math.IsNaN(x) {
		t.Error("an empty list:", x)
	}
	if x := num.Mean(nil...); !math.IsNaN(x) {
		t.Error("a nil list:", x)
	}
	for _, c := range []struct {
		l    []float64
		want float64
	}{
		{[]float64{0}, 0}, {[]float64{minus0}, 0}, {[]float64{minus0, minus0}, 0}, {[]float64{nan}, 0}, {[]float64{-1, -inf}, 0},
		{[]float64{1}, 1}, {[]float64{inf}, 1}, {[]float64{inf, -inf}, 0.5}, {[]float64{0, 1, 7, nan}, 0.5},
		{[]float64{0.25, 0.75, 0.5}, 0.5}, {[]float64{least}, least}, {[]float64{least, 0}, 0},
		{[]float64{0.1, 0.2, 0.3}, 0x1.999999999999bp-3}, {[]float64{0.3, 0.2, 0.1}, 0x1.9999999999999p-3},
		{[]float64{0x1p-53, 0x1p-53, 1}, 0x1.0000000000001p0 / 3}, // in this order nothing is lost
		{[]float64{1, 0x1p-53, 0x1p-53}, 1.0 / 3},                 // in this one both are
	} {
		got := num.Mean(c.l...)
		if got != c.want || math.Signbit(got) {
			t.Errorf("Mean(%v) = %x, want %x", c.l, got, c.want)
		}
	}
}

// P3: what is handed in stays as it is, spare room behind its end too.
func TestMeanLeavesItsList(t *testing.T) {
	room := []float64{-3, 0.5, 9, 42, -42}
	l := room[:3]
	num.Mean(l...)
	if !slices.Equal(room, []float64{-3, 0.5, 9, 42, -42}) {
		t.Error(room)
	}
}

// P1.3: Highest, of each bit alone, of each with all below it, and of none.
func TestHighest(t *testing.T) {
	if got := num.Highest([4]uint64{}); got != -1 {
		t.Error("none:", got)
	}
	var below [4]uint64
	for bit := range 256 {
		var alone [4]uint64
		alone[bit/64] = 1 << (bit % 64)
		below[bit/64] |= 1 << (bit % 64)
		if got := num.Highest(alone); got != bit {
			t.Error("alone:", bit, got)
		}
		if got := num.Highest(below); got != bit {
			t.Error("with all below:", bit, got)
		}
		alone[0] |= 1
		if got := num.Highest(alone); got != bit {
			t.Error("with the lowest one:", bit, got)
		}
	}
	for _, c := range []struct {
		w    [4]uint64
		want int
	}{
		{[4]uint64{1, 0, 4}, 130}, {[4]uint64{api.MaxTime, 0, 0, 1}, 192}, {[4]uint64{3: 1 << 63}, 255}, {[4]uint64{0, 1 << 63, 1}, 128},
	} {
		if got := num.Highest(c.w); got != c.want {
			t.Error(c, got)
		}
	}
}

// P6: the same is answered to the same, whatever was asked between.
func TestNothingIsKept(t *testing.T) {
	ask := func() [4]float64 {
		return [4]float64{num.Share(1, 3), num.Clamp(0.1), num.Mean(0.1, 0.2), float64(num.Highest([4]uint64{2}))}
	}
	first := ask()
	num.Mean(1, 1, 1)
	num.Highest([4]uint64{3: 1})
	if second := ask(); first != second {
		t.Error(first, second)
	}
}
