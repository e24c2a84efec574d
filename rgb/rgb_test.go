package rgb

import (
	"math"
	"math/big"
	"testing"

	"penumbra/api"
)

var (
	nan  = math.NaN()
	inf  = math.Inf(1)
	nul  = math.Copysign(0, -1)
	huge = math.MaxFloat64
	tiny = math.SmallestNonzeroFloat64

	// The product of these two is 1 - 2^-60, and 1, when it is rounded for
	// itself: a product that is joined with a sum shows by that.
	over  = 1 + math.Ldexp(1, -30)
	under = 1 - math.Ldexp(1, -30)
)

// edges are numbers that are tried in every place.
var edges = []float64{0, nul, 1, -1, 0.1, -0.3, 0.0625, 3, 65536, 1e16, 1e200, -1e200, 1e-200, 1e-310, huge, -huge, tiny, -tiny, over, under, inf, -inf, nan}

func l(r, g, b float64) api.RGB { return api.RGB{R: r, G: g, B: b} }

// bits tells whether both are no numbers, or equal, with the same sign.
func bits(x, y float64) bool {
	return x == y && math.Signbit(x) == math.Signbit(y) || x != x && y != y
}

func sameLight(a, b api.RGB) bool { return bits(a.R, b.R) && bits(a.G, b.G) && bits(a.B, b.B) }

func finite(x float64) bool { return x >= -huge && x <= huge }

// times multiplies finite numbers by way of exact ones, rounded once.
func times(x, y float64) float64 {
	if !finite(x) || !finite(y) {
		return x * y
	}
	p, _ := new(big.Float).SetPrec(200).Mul(big.NewFloat(x), big.NewFloat(y)).Float64()
	return p
}

func below(x float64) float64 { return math.Nextafter(x, -inf) }

func above(x float64) float64 { return math.Nextafter(x, inf) }

// places is a number in each of the three places, between others.
func places(x, y, z float64) []api.RGB { return []api.RGB{l(x, y, z), l(z, x, y), l(y, z, x)} }

// lights is each edge with each other one, in all places.
func lights() []api.RGB {
	var all []api.RGB
	for i, x := range edges {
		for j, y := range edges {
			all = append(all, l(x, y, edges[(i*5+j*7+3)%len(edges)]))
		}
		all = append(all, places(x, 2, 0.25)...)
		all = append(all, places(x, 0, 0)...)
		all = append(all, l(x, x, x))
	}
	return all
}

// P5.1

func TestAdd(t *testing.T) {
	for _, c := range []struct {
		name      string
		a, b, say api.RGB
	}{
		{"ordinary", l(1, 2, 3), l(10, 200, 3000), l(11, 202, 3003)},
		{"below 0", l(1, -2, 3), l(-10, -200, -3), l(-9, -202, 0)},
		{"rounds", l(0.1, 1e16, tiny), l(0.2, 1, 1), l(0.30000000000000004, 1e16, 1)},
		{"too great", l(huge, -huge, huge), l(huge, -huge, -huge), l(inf, -inf, 0)},
		{"zeros", l(nul, 0, nul), l(nul, nul, 0), l(nul, 0, 0)},
		{"infinite", l(inf, -inf, inf), l(1, 1, -inf), l(inf, -inf, nan)},
		{"no numbers", l(nan, 1, nan), l(1, nan, nan), l(nan, nan, nan)},
		{"one no number leaves the others", l(1, nan, 3), l(1, 1, 1), l(2, nan, 4)},
	} {
		if got := Add(c.a, c.b); !sameLight(got, c.say) {
			t.Errorf("%s: %v, not %v", c.name, got, c.say)
		}
	}
}

func TestMul(t *testing.T) {
	for _, c := range []struct {
		name      string
		a, b, say api.RGB
	}{
		{"ordinary", l(1, 2, 3), l(10, 200, 3000), l(10, 400, 9000)},
		{"below 0", l(-1, -2, 3), l(4, -5, -6), l(-4, 10, -18)},
		{"rounds", l(over, 0.1, 0.3), l(under, 3, 0.3), l(1, 0.30000000000000004, 0.09)},
		{"too great", l(huge, -huge, 1e200), l(2, 2, 1e200), l(inf, -inf, inf)},
		{"too small", l(tiny, 1e-200, -tiny), l(0.5, 1e-200, 2), l(0, 0, -2*tiny)},
		{"zeros", l(0, nul, nul), l(-1, 1, -1), l(nul, nul, 0)},
		{"infinite", l(inf, inf, -inf), l(0, -1, -2), l(nan, -inf, inf)},
		{"no numbers", l(nan, 1, 2), l(0, nan, 3), l(nan, nan, 6)},
	} {
		if got := Mul(c.a, c.b); !sameLight(got, c.say) {
			t.Errorf("%s: %v, not %v", c.name, got, c.say)
		}
	}
}

func TestScale(t *testing.T) {
	for _, c := range []struct {
		name string
		a    api.RGB
		k    float64
		say  api.RGB
	}{
		{"ordinary", l(1, 2, 3), 4, l(4, 8, 12)},
		{"below 0", l(1, -2, 3), -0.5, l(-0.5, 1, -1.5)},
		{"by 1", l(nul, 0.1, huge), 1, l(nul, 0.1, huge)},
		{"by 0", l(1, -2, inf), 0, l(0, nul, nan)},
		{"by -0", l(1, -2, 0), nul, l(nul, 0, nul)},
		{"by infinite", l(1, 0, -2), inf, l(inf, nan, -inf)},
		{"by no number", l(1, 0, inf), nan, l(nan, nan, nan)},
		{"rounds", l(0.1, under, huge), 3, l(0.30000000000000004, 3*under, inf)},
		{"too small", l(1, 3, -1), tiny / 2, l(0, 0, nul)},
		{"one no number leaves the others", l(1, nan, 3), 2, l(2, nan, 6)},
	} {
		if got := Scale(c.a, c.k); !sameLight(got, c.say) {
			t.Errorf("%s: %v, not %v", c.name, got, c.say)
		}
	}
}

func TestGray(t *testing.T) {
	for _, k := range edges {
		if got := Gray(k); !sameLight(got, l(k, k, k)) {
			t.Errorf("Gray of %v: %v", k, got)
		}
	}
}

func TestColoursEverywhere(t *testing.T) {
	all := lights()
	for _, a := range all {
		for _, b := range all {
			if got, say := Add(a, b), l(a.R+b.R, a.G+b.G, a.B+b.B); !sameLight(got, say) {
				t.Fatalf("Add of %v, %v: %v, not %v", a, b, got, say)
			}
		}
	}
	for _, a := range all[:200] {
		for _, b := range all {
			if got, say := Mul(a, b), l(times(a.R, b.R), times(a.G, b.G), times(a.B, b.B)); !sameLight(got, say) {
				t.Fatalf("Mul of %v, %v: %v, not %v", a, b, got, say)
			}
		}
	}
	for _, a := range all {
		for _, k := range edges {
			if got, say := Scale(a, k), l(times(a.R, k), times(a.G, k), times(a.B, k)); !sameLight(got, say) {
				t.Fatalf("Scale of %v by %v: %v, not %v", a, k, got, say)
			}
		}
	}
}

// A product stays rounded for itself, whatever sum it comes into (R7).
func TestProductsAreNotJoined(t *testing.T) {
	a, b, less := Gray(over), Gray(under), Gray(-1)
	if got := Add(Mul(a, b), less); got != l(0, 0, 0) {
		t.Errorf("Mul, then Add: %v", got)
	}
	if got := Add(less, Scale(a, under)); got != l(0, 0, 0) {
		t.Errorf("Scale, then Add: %v", got)
	}
	if got := Mean(Mul(l(over, 1, 0), l(under, -1, 0))); got != 0 {
		t.Errorf("Mul, then Mean: %v", got)
	}
	if got := Scale(a, under).G - 1; got != 0 {
		t.Errorf("Scale, less 1: %v", got)
	}
	if got := Mul(a, b).B - 1; got != 0 {
		t.Errorf("Mul, less 1: %v", got)
	}
}

// P5.2

func TestMost(t *testing.T) {
	for _, c := range []struct {
		name string
		a    api.RGB
		say  float64
	}{
		{"R", l(3, 2, 1), 3},
		{"R, B above G", l(3, 1, 2), 3},
		{"G", l(1, 5, 2), 5},
		{"G, R above B", l(2, 5, 1), 5},
		{"B", l(1, 2, 3), 3},
		{"B, R above G", l(2, 1, 3), 3},
		{"R and G are equal", l(2, 2, 1), 2},
		{"R and B are equal", l(2, 1, 2), 2},
		{"G and B are equal", l(1, 2, 2), 2},
		{"all are equal", l(2, 2, 2), 2},
		{"all below 0", l(-3, -1, -2), -1},
		{"far below 0", l(-3, 1, -5), 1},
		{"by so little", l(1, above(1), 1), above(1)},
		{"G is not greater: 0, -0", l(0, nul, nul), 0},
		{"G is not greater: -0, 0", l(nul, 0, 0), nul},
		{"B is not greater: -1, -0, 0", l(-1, nul, 0), nul},
		{"B is not greater: -1, 0, -0", l(-1, 0, nul), 0},
		{"infinite", l(huge, inf, 1), inf},
		{"infinite below 0", l(-inf, -huge, -inf), -huge},
		{"all infinite below 0", l(-inf, -inf, -inf), -inf},
		{"R is no number: nothing is greater", l(nan, 1, inf), nan},
		{"G is no number: it is not greater", l(1, nan, 0), 1},
		{"G is no number: B is held against R", l(1, nan, 2), 2},
		{"B is no number", l(1, 2, nan), 2},
		{"G and B are no numbers", l(-1, nan, nan), -1},
		{"none is a number", l(nan, nan, nan), nan},
	} {
		if got := Most(c.a); !bits(got, c.say) {
			t.Errorf("%s: %v, not %v", c.name, got, c.say)
		}
	}
}

func TestMean(t *testing.T) {
	for _, c := range []struct {
		name string
		a    api.RGB
		say  float64
	}{
		{"the document's", l(1, 2, 3), 2},
		{"gray", l(0.5, 0.5, 0.5), 0.5},
		{"R alone", l(3, 0, 0), 1},
		{"G alone", l(0, 6, 0), 2},
		{"B alone", l(0, 0, 9), 3},
		{"below 0", l(-1, -2, -6), -3},
		{"zeros", l(0, 0, 0), 0},
		{"zeros below", l(nul, nul, nul), nul},
		{"B is added last", l(1e16, 1, 1), 1e16 / 3},
		{"R and G are added first", l(1, 1, 1e16), (1e16 + 2) / 3},
		{"G not with B", l(1, 1e16, -1e16), 0},
		{"R not with B", l(1e16, 1, -1e16), 0},
		{"G with R", l(1e16, -1e16, 1), 1.0 / 3},
		{"the sum is rounded", l(0.1, 0.2, 0), 0.30000000000000004 / 3},
		{"a quotient, no product by a third", l(5, 0, 0), 1.6666666666666667},
		{"divided behind the sum", l(0.1, 0.1, 0.1), 0.30000000000000004 / 3},
		{"too small for a third", l(tiny, 0, 0), 0},
		{"the least third", l(tiny, tiny, 0), tiny},
		{"the greatest that are not too great", l(huge/2, huge/2, 0), huge / 3},
		{"too great a sum", l(huge, huge, huge), inf},
		{"too great on the way", l(huge, huge, -huge), inf},
		{"not too great, in this order", l(huge, -huge, huge), huge / 3},
		{"too great below 0", l(-huge, -huge, huge), -inf},
		{"infinite", l(1, inf, 2), inf},
		{"infinite both ways", l(inf, 1, -inf), nan},
		{"no number", l(1, 2, nan), nan},
	} {
		if got := Mean(c.a); !bits(got, c.say) {
			t.Errorf("%s: %v, not %v", c.name, got, c.say)
		}
	}
}

func TestMostMeanEverywhere(t *testing.T) {
	for _, a := range lights() {
		most := a.R
		if a.G > most {
			most = a.G
		}
		if a.B > most {
			most = a.B
		}
		if got := Most(a); !bits(got, most) {
			t.Errorf("Most of %v: %v, not %v", a, got, most)
		}
		sum := a.R + a.G
		sum = sum + a.B
		if got := Mean(a); !bits(got, sum/3) {
			t.Errorf("Mean of %v: %v, not %v", a, got, sum/3)
		}
	}
}

// P5.3

func TestGood(t *testing.T) {
	for _, x := range edges {
		say := x >= 0 && x <= huge
		for _, others := range [][2]float64{{0, 1}, {huge, nul}, {tiny, 0.5}} {
			for _, a := range places(x, others[0], others[1]) {
				if Good(a) != say {
					t.Errorf("Good of %v: %v", a, !say)
				}
			}
		}
		for _, wrong := range []float64{-1, -tiny, inf, -inf, nan} {
			for _, a := range places(x, wrong, 1) {
				if Good(a) {
					t.Errorf("Good of %v", a)
				}
			}
		}
	}
	if !Good(l(huge, huge, huge)) {
		t.Error("a light is Good, whatever its sum")
	}
	for _, b := range []uint64{1<<63 - 1, 1<<64 - 1, 0x7ff0000000000001, 0xfff8000000000000} {
		if Good(l(0, math.Float64frombits(b), 0)) {
			t.Errorf("Good of the bits %x", b)
		}
	}
}

func TestBlack(t *testing.T) {
	for _, x := range edges {
		for _, y := range []float64{0, nul} {
			for _, a := range places(x, y, nul) {
				if say := x == 0; Black(a) != say {
					t.Errorf("Black of %v: %v", a, !say)
				}
			}
		}
		for _, a := range places(x, 1, -1) {
			if Black(a) {
				t.Errorf("Black of %v", a)
			}
		}
	}
	for _, a := range places(1, -1, 0) {
		if Black(a) {
			t.Errorf("Black of %v, whose sum is 0", a)
		}
	}
}

func TestWeight(t *testing.T) {
	const most = api.MaxWeight
	for _, c := range []struct {
		name string
		a    api.RGB
		say  int
	}{
		{"the document's", l(1, 2, 3), 32},
		{"gray", l(0.5, 0.5, 0.5), 8},
		{"R alone", l(3, 0, 0), 16},
		{"G alone", l(0, 3, 0), 16},
		{"B alone", l(0, 0, 3), 16},
		{"a part behind the point", l(1, 0, 0), 5},
		{"a great part behind the point", l(0, 0.55, 0), 2},
		{"the sum is rounded to a whole number", l(0.25, below(0.125), 0), 2},
		{"the sum is rounded, B last: it is no whole number", l(below(0.375), math.Ldexp(3, -57), math.Ldexp(3, -57)), 1},
		{"the sum is rounded, R and G first: it is one", l(math.Ldexp(3, -57), math.Ldexp(3, -57), below(0.375)), 2},

		{"black", l(0, 0, 0), 0},
		{"black, of zeros below", l(nul, 0, nul), 0},
		{"all but black, R", l(tiny, 0, 0), 1},
		{"all but black, G", l(0, tiny, nul), 1},
		{"all but black, B", l(nul, 0, tiny), 1},
		{"all but black, all", l(tiny, tiny, tiny), 1},
		{"below 1", l(0.01, 0.02, 0.03), 1},
		{"just below 1", l(0, below(0.1875), 0), 1},

		{"1", l(0.0625, 0.0625, 0.0625), 1},
		{"just above 1", l(0, 0, above(0.1875)), 1},
		{"just below 2", l(below(0.375), 0, 0), 1},
		{"2", l(0.125, 0.125, 0.125), 2},
		{"just above 2", l(above(0.375), 0, 0), 2},
		{"just below 1000", l(0, below(187.5), 0), 999},
		{"1000", l(62.5, 62.5, 62.5), 1000},
		{"just above 1000", l(0, above(187.5), 0), 1000},

		{"the most less 1", l(196607.8125, 0, 0), most - 1},
		{"just below the most", l(0, 0, below(196608)), most - 1},
		{"the most", l(65536, 65536, 65536), most},
		{"just above the most", l(0, 0, above(196608)), most},
		{"the most, and 1", l(196608.1875, 0, 0), most},
		{"far above the most", l(1e30, 0, 0), most},
		{"the greatest that are not too great", l(huge, 0, 0), most},
		{"too great a sum", l(huge, huge, 0), most},
		{"too great a sum of all", l(huge, huge, huge), most},

		{"below 0", l(-1, 0, 0), 0},
		{"one below 0", l(5, -tiny, 7), 0},
		{"below 0, and great", l(huge, huge, -1), 0},
		{"all below 0", l(-1, -2, -3), 0},
		{"infinite", l(1, inf, 1), 0},
		{"infinite below 0", l(1, 1, -inf), 0},
		{"no number", l(nan, 1, 1), 0},
		{"none is a number", l(nan, nan, nan), 0},
	} {
		if got := Weight(c.a); got != c.say {
			t.Errorf("%s: %v, not %v", c.name, got, c.say)
		}
	}
}

// Whole numbers that are too great for a type of whole numbers show there.
func TestWeightOfPowers(t *testing.T) {
	for e := range 1024 {
		say := api.MaxWeight
		if e < 16 {
			say = 1 << (e + 4)
		}
		p := math.Ldexp(1, e)
		if got := Weight(l(p, p, p)); got != say {
			t.Errorf("2^%d: %d, not %d", e, got, say)
		}
	}
	for e := -1074; e <= -4; e++ {
		p := math.Ldexp(1, e)
		for _, a := range append(places(p, 0, nul), l(p, p, p)) {
			if got := Weight(a); got != 1 {
				t.Errorf("%v: %d, not 1", a, got)
			}
		}
	}
}

// weight is what is asked for, by way of exact numbers behind the mean.
func weight(a api.RGB) int {
	for _, x := range []float64{a.R, a.G, a.B} {
		if !(x >= 0 && x <= huge) {
			return 0
		}
	}
	if a.R == 0 && a.G == 0 && a.B == 0 {
		return 0
	}
	sum := a.R + a.G
	mean := (sum + a.B) / 3
	if mean > huge {
		return api.MaxWeight
	}
	w, _ := new(big.Float).SetPrec(200).Mul(big.NewFloat(mean), big.NewFloat(16)).Int(nil)
	if !w.IsInt64() {
		return api.MaxWeight
	}
	return int(min(max(w.Int64(), 1), api.MaxWeight))
}

func TestWeightEverywhere(t *testing.T) {
	all := lights()
	for n := range 3000 {
		x := 3 * float64(n) / 16
		all = append(all, l(x, 0, 0), l(below(x), 0, 0), l(0, 0, above(x)), l(x/2, x/2, 0.1), l(x/3, x/3, x/3))
	}
	for _, a := range all {
		if got, say := Weight(a), weight(a); got != say {
			t.Errorf("Weight of %v: %d, not %d", a, got, say)
		}
	}
}
