package vec

import (
	"math"
	"math/big"
	"testing"

	"penumbra/api"
)

var (
	nan  = math.NaN()
	inf  = math.Inf(1)
	nul  = math.Copysign(0, -1)
	huge = math.MaxFloat64
	tiny = math.SmallestNonzeroFloat64

	// The product of these two is 1 - 2^-60, and 1, when it is rounded for
	// itself: a product that is joined with a sum shows by that.
	over  = 1 + math.Ldexp(1, -30)
	under = 1 - math.Ldexp(1, -30)
)

// edges are numbers that are tried in every place.
var edges = []float64{0, nul, 1, -1, 0.1, -0.3, 1e16, 1e200, -1e200, 1e-200, huge, -huge, tiny, -tiny, over, under, math.Pi, inf, -inf, nan}

func v(x, y, z float64) api.Vec { return api.Vec{X: x, Y: y, Z: z} }

// same is the test's own: numbers that are equal, or both none.
func same(x, y float64) bool { return x == y || x != x && y != y }

// bits is as same, but 0 and -0 differ.
func bits(x, y float64) bool {
	return same(x, y) && math.Signbit(x) == math.Signbit(y) || x != x && y != y
}

func sameVec(a, b api.Vec) bool { return bits(a.X, b.X) && bits(a.Y, b.Y) && bits(a.Z, b.Z) }

// vectors is each edge in each place, the others being ordinary numbers.
func vectors() []api.Vec {
	var all []api.Vec
	for i, e := range edges {
		f := edges[(i*7+3)%len(edges)]
		all = append(all, v(e, 2, -3), v(0.5, e, 7), v(-0.25, 11, e), v(e, f, 1), v(f, e, e), v(e, e, e))
	}
	return all
}

// exact makes a number of an exact one, rounded once.
func exact(x *big.Float) float64 {
	f, _ := x.Float64()
	return f
}

// times multiplies finite numbers by way of exact ones.
func times(x, y float64) float64 {
	if !Number(x) || !Number(y) {
		return x * y
	}
	return exact(new(big.Float).SetPrec(200).Mul(big.NewFloat(x), big.NewFloat(y)))
}

// P2.1

func TestAddSubMul(t *testing.T) {
	for _, c := range []struct {
		name     string
		got, say api.Vec
	}{
		{"Add", Add(v(1, 2, 3), v(10, 200, 3000)), v(11, 202, 3003)},
		{"Add rounds", Add(v(0.1, 1e16, huge), v(0.2, 1, huge)), v(0.30000000000000004, 1e16, inf)},
		{"Add none", Add(v(inf, nan, -inf), v(-inf, 1, -inf)), v(nan, nan, -inf)},
		{"Add zeros", Add(v(nul, 0, nul), v(nul, nul, 0)), v(nul, 0, 0)},
		{"Sub", Sub(v(1, 2, 3), v(10, 200, 3000)), v(-9, -198, -2997)},
		{"Sub rounds", Sub(v(0.3, 1e16, -huge), v(0.1, 1, huge)), v(0.19999999999999998, 1e16, -inf)},
		{"Sub none", Sub(v(inf, nan, -inf), v(inf, 1, inf)), v(nan, nan, -inf)},
		{"Sub zeros", Sub(v(nul, 0, nul), v(0, nul, nul)), v(nul, 0, 0)},
		{"Mul", Mul(v(1, 2, 3), v(10, 200, 3000)), v(10, 400, 9000)},
		{"Mul rounds", Mul(v(over, 0.1, huge), v(under, 3, 2)), v(1, 0.30000000000000004, inf)},
		{"Mul none", Mul(v(inf, nan, 0), v(0, 1, -1)), v(nan, nan, nul)},
		{"Mul small", Mul(v(tiny, 1e-200, -tiny), v(0.5, 1e-200, 2)), v(0, 0, -2*tiny)},
	} {
		if !sameVec(c.got, c.say) {
			t.Errorf("%s: %v, not %v", c.name, c.got, c.say)
		}
	}
}

func TestScaleNeg(t *testing.T) {
	for _, c := range []struct {
		name     string
		got, say api.Vec
	}{
		{"Scale", Scale(v(1, -2, 3), 4), v(4, -8, 12)},
		{"Scale by 0", Scale(v(1, -2, inf), 0), v(0, nul, nan)},
		{"Scale by none", Scale(v(1, 0, inf), nan), v(nan, nan, nan)},
		{"Scale by infinite", Scale(v(1, 0, -2), inf), v(inf, nan, -inf)},
		{"Scale rounds", Scale(v(0.1, under, huge), 3), v(0.30000000000000004, 3*under, inf)},
		{"Neg", Neg(v(1, -2, 0.1)), v(-1, 2, -0.1)},
		{"Neg of 0 is 0 less it", Neg(v(0, nul, tiny)), v(0, 0, -tiny)},
		{"Neg none", Neg(v(inf, -inf, nan)), v(-inf, inf, nan)},
	} {
		if !sameVec(c.got, c.say) {
			t.Errorf("%s: %v, not %v", c.name, c.got, c.say)
		}
	}
}

func TestAlong(t *testing.T) {
	for _, c := range []struct {
		name string
		o, d api.Vec
		t    float64
		say  api.Vec
	}{
		{"ordinary", v(1, 2, 3), v(10, 20, -30), 0.5, v(6, 12, -12)},
		{"back", v(1, 0, 0), v(0, 2, 0), -3, v(1, -6, 0)},
		{"nowhere", v(1, 2, 3), v(4, 5, 6), 0, v(1, 2, 3)},
		{"the product is rounded", v(-1, 0, -under), v(over, over, 1), under, v(0, 1, 0)},
		{"not o times t", v(2, 3, 5), v(7, 11, 13), 17, v(121, 190, 226)},
		{"infinite", v(0, 1, -inf), v(1, 0, 1), inf, v(inf, nan, nan)},
		{"none", v(nan, 1, 2), v(1, nan, 1), 1, v(nan, nan, 3)},
		{"too great", v(-huge, 0, 0), v(huge, 0, 0), 2, v(inf, 0, 0)},
	} {
		if got := Along(api.Ray{O: c.o, D: c.d}, c.t); !sameVec(got, c.say) {
			t.Errorf("%s: %v, not %v", c.name, got, c.say)
		}
	}
}

func TestPartsEverywhere(t *testing.T) {
	for _, a := range vectors() {
		for _, b := range vectors() {
			k := b.Y
			along := v(a.X+times(b.X, k), a.Y+times(b.Y, k), a.Z+times(b.Z, k))
			for name, w := range map[string][2]api.Vec{
				"Add":   {Add(a, b), v(a.X+b.X, a.Y+b.Y, a.Z+b.Z)},
				"Sub":   {Sub(a, b), v(a.X-b.X, a.Y-b.Y, a.Z-b.Z)},
				"Mul":   {Mul(a, b), v(times(a.X, b.X), times(a.Y, b.Y), times(a.Z, b.Z))},
				"Scale": {Scale(a, k), v(times(a.X, k), times(a.Y, k), times(a.Z, k))},
				"Neg":   {Neg(a), v(0-a.X, 0-a.Y, 0-a.Z)},
				"Along": {Along(api.Ray{O: a, D: b}, k), along},
			} {
				if !sameVec(w[0], w[1]) {
					t.Fatalf("%s of %v, %v: %v, not %v", name, a, b, w[0], w[1])
				}
			}
		}
	}
}

// P2.2

func TestDot(t *testing.T) {
	for _, c := range []struct {
		name string
		a, b api.Vec
		say  float64
	}{
		{"the document's", v(1, 2, 3), v(4, 5, 6), 32},
		{"right angles", v(1, 0, 0), v(0, 1, 0), 0},
		{"Z is added last", v(1e16, 1, 1), v(1, 1, 1), 1e16},
		{"X and Y are added first", v(1, 1, 1e16), v(1, 1, 1), 1e16 + 2},
		{"Y not with Z", v(1e16, -1e16, 1), v(1, 1, 1), 1},
		{"Y's product is rounded", v(-1, over, 0), v(1, under, 0), 0},
		{"X's product is rounded", v(over, -1, 0), v(under, 1, 0), 0},
		{"Z's product is rounded", v(-1, 0, over), v(1, 0, under), 0},
		{"too great on the way", v(huge, huge, -huge), v(2, 1, 2), nan},
		{"infinite", v(huge, 0, 0), v(huge, 0, 0), inf},
		{"infinite by 0", v(inf, 0, 0), v(0, 0, 0), nan},
		{"none", v(1, 2, nan), v(1, 2, 0), nan},
	} {
		if got := Dot(c.a, c.b); !same(got, c.say) {
			t.Errorf("%s: %v, not %v", c.name, got, c.say)
		}
	}
}

func TestCross(t *testing.T) {
	x, y, z := v(1, 0, 0), v(0, 1, 0), v(0, 0, 1)
	for _, c := range []struct {
		name      string
		a, b, say api.Vec
	}{
		{"X Y", x, y, z},
		{"Y Z", y, z, x},
		{"Z X", z, x, y},
		{"Y X", y, x, v(0, 0, -1)},
		{"ordinary", v(2, 3, 5), v(7, 11, 13), v(-16, 9, 1)},
		{"X is rounded, first", v(0, over, 1), v(0, 1, under), v(0, 0, 0)},
		{"X is rounded, second", v(0, 1, over), v(0, under, 1), v(0, 0, 0)},
		{"Y is rounded, first", v(1, 0, over), v(under, 0, 1), v(0, 0, 0)},
		{"Y is rounded, second", v(over, 0, 1), v(1, 0, under), v(0, 0, 0)},
		{"Z is rounded, first", v(over, 1, 0), v(1, under, 0), v(0, 0, 0)},
		{"Z is rounded, second", v(1, over, 0), v(under, 1, 0), v(0, 0, 0)},
		{"too great", v(0, huge, huge), v(0, huge, huge), v(nan, 0, 0)},
		{"infinite", v(inf, 0, 0), v(0, 1, 0), v(0, nan, inf)},
		{"none", v(nan, 0, 0), v(1, 1, 1), v(0, nan, nan)},
	} {
		if got := Cross(c.a, c.b); !(same(got.X, c.say.X) && same(got.Y, c.say.Y) && same(got.Z, c.say.Z)) {
			t.Errorf("%s: %v, not %v", c.name, got, c.say)
		}
	}
}

func TestProductsEverywhere(t *testing.T) {
	for _, a := range vectors() {
		for _, b := range vectors() {
			xy := times(a.X, b.X) + times(a.Y, b.Y)
			if got, say := Dot(a, b), xy+times(a.Z, b.Z); !same(got, say) {
				t.Fatalf("Dot of %v, %v: %v, not %v", a, b, got, say)
			}
			say := v(
				times(a.Y, b.Z)-times(a.Z, b.Y),
				times(a.Z, b.X)-times(a.X, b.Z),
				times(a.X, b.Y)-times(a.Y, b.X),
			)
			if got := Cross(a, b); !sameVec(got, say) {
				t.Fatalf("Cross of %v, %v: %v, not %v", a, b, got, say)
			}
		}
	}
}

// P2.3

func TestLen(t *testing.T) {
	for _, c := range []struct {
		name     string
		a        api.Vec
		len2, ln float64
	}{
		{"ordinary", v(2, -3, 6), 49, 7},
		{"none at all", v(0, nul, 0), 0, 0},
		{"a root that is rounded", v(1, 1, 0), 2, 1.4142135623730951},
		{"X and Y are added first", v(1, 1, 1e8), 1e16 + 2, math.Sqrt(1e16 + 2)},
		{"too small a square", v(1e-200, 0, 1e-200), 0, 0},
		{"too great a square", v(1e200, 0, 0), inf, inf},
		{"infinite below 0", v(0, -inf, 0), inf, inf},
		{"infinite, and no number", v(inf, nan, 0), nan, nan},
		{"no number", v(0, 0, nan), nan, nan},
	} {
		if got := Len2(c.a); !same(got, c.len2) {
			t.Errorf("%s: Len2 %v, not %v", c.name, got, c.len2)
		}
		if got := Len(c.a); !same(got, c.ln) {
			t.Errorf("%s: Len %v, not %v", c.name, got, c.ln)
		}
	}
}

func TestUnit(t *testing.T) {
	third := 1 / math.Sqrt(3)
	for _, c := range []struct {
		name string
		a    api.Vec
		say  api.Vec
		ok   bool
	}{
		{"ordinary", v(0, 3, -4), v(0, 0.6, -0.8), true},
		{"all three", v(1, 1, 1), v(third, third, third), true},
		{"a quotient, no product by what 1 is by Len", v(2, 3, 6), v(2.0/7, 3.0/7, 6.0/7), true},
		{"zeros keep their sign", v(5, 0, nul), v(1, 0, nul), true},
		{"the least squares", v(1e-160, 0, 0), v(1e-160/math.Sqrt(times(1e-160, 1e-160)), 0, 0), true},
		{"great, but not too great", v(0, 1e154, 0), v(0, 1e154/math.Sqrt(times(1e154, 1e154)), 0), true},
		{"zero", v(0, 0, 0), v(0, 0, 0), false},
		{"zeros below", v(nul, nul, nul), v(0, 0, 0), false},
		{"a square that is 0", v(1e-200, -1e-200, tiny), v(0, 0, 0), false},
		{"a square that is infinite", v(1e200, 1, 1), v(0, 0, 0), false},
		{"the greatest", v(huge, huge, huge), v(0, 0, 0), false},
		{"infinite", v(1, inf, 0), v(0, 0, 0), false},
		{"infinite below 0", v(1, 0, -inf), v(0, 0, 0), false},
		{"no number", v(nan, 1, 0), v(0, 0, 0), false},
	} {
		if got, ok := Unit(c.a); !sameVec(got, c.say) || ok != c.ok {
			t.Errorf("%s: %v %v, not %v %v", c.name, got, ok, c.say, c.ok)
		}
	}
}

func TestUnitEverywhere(t *testing.T) {
	for _, a := range vectors() {
		sum := times(a.X, a.X) + times(a.Y, a.Y)
		n := math.Sqrt(sum + times(a.Z, a.Z))
		say, ok := v(a.X/n, a.Y/n, a.Z/n), n > 0 && n <= huge
		if !ok {
			say = v(0, 0, 0)
		}
		if got, is := Unit(a); is != ok || !sameVec(got, say) {
			t.Errorf("Unit of %v: %v %v, not %v %v", a, got, is, say, ok)
		}
	}
}

// P2.4

func TestNumberFinite(t *testing.T) {
	for _, x := range edges {
		say := x >= -huge && x <= huge
		if Number(x) != say {
			t.Errorf("Number of %v: %v", x, !say)
		}
		for _, a := range []api.Vec{v(x, 0, 1), v(0, x, huge), v(-huge, tiny, x)} {
			if Finite(a) != say {
				t.Errorf("Finite of %v: %v", a, !say)
			}
		}
	}
	for _, b := range []uint64{1<<63 - 1, 1<<64 - 1, 0x7ff0000000000001, 0xfff8000000000000} {
		if Number(math.Float64frombits(b)) {
			t.Errorf("Number of the bits %x", b)
		}
	}
	if Finite(v(inf, -inf, 0)) || Finite(v(nan, nan, nan)) {
		t.Error("infinite parts that are finite together")
	}
}

func TestPart(t *testing.T) {
	a := v(7, inf, nan)
	for axis, say := range map[int]float64{0: 7, 1: inf, 2: nan, 3: nan, -1: nan, -2: nan, 4: nan, 256: nan, math.MaxInt: nan, math.MinInt: nan, 1 << 32: nan, 1<<32 + 1: nan} {
		if got := Part(a, axis); !same(got, say) {
			t.Errorf("Part %d: %v, not %v", axis, got, say)
		}
	}
}

func TestSame(t *testing.T) {
	other := math.Float64frombits(0xfff8000000000123)
	for _, c := range []struct {
		x, y float64
		say  bool
	}{
		{1, 1, true}, {0, nul, true}, {nul, nul, true}, {inf, inf, true}, {-inf, -inf, true},
		{nan, nan, true}, {nan, other, true},
		{1, 2, false}, {0, tiny, false}, {nul, -tiny, false}, {1, math.Nextafter(1, 2), false},
		{inf, -inf, false}, {inf, huge, false}, {nan, 0, false}, {nan, nul, false}, {nan, inf, false}, {nan, 1, false},
	} {
		for _, p := range [][2]api.Vec{
			{v(c.x, 2, 3), v(c.y, 2, 3)},
			{v(nan, c.x, 3), v(nan, c.y, 3)},
			{v(0, inf, c.x), v(nul, inf, c.y)},
		} {
			if Same(p[0], p[1]) != c.say || Same(p[1], p[0]) != c.say {
				t.Errorf("Same of %v, %v: %v", p[0], p[1], !c.say)
			}
		}
	}
	if Same(v(nan, 1, 2), v(1, nan, 2)) || Same(v(1, 2, 3), v(3, 2, 1)) {
		t.Error("parts of other places count")
	}
}
