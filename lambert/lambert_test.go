package lambert

import (
	"math"
	"math/big"
	"math/rand/v2"
	"testing"

	"penumbra/api"
	"penumbra/warp"
)

var (
	nan  = math.NaN()
	inf  = math.Inf(1)
	nul  = math.Copysign(0, -1)
	huge = math.MaxFloat64
	tiny = math.SmallestNonzeroFloat64
	top  = math.Nextafter(1, 0) // the greatest draw below 1
)

// aboves are heights above the surface, flats those within it, below it, and
// those that are no numbers.
var (
	aboves = []float64{tiny, 1e-310, 1e-9, 0.5, 1, 2, 1e200, huge, inf}
	flats  = []float64{0, nul, -tiny, -1e-310, -0.5, -1, -huge, -inf, nan}
)

// sides are what may stand beside a height.
var sides = []float64{0, nul, 1, -1, 0.3, -0.7, 5, tiny, -tiny, 1e-200, 1e200, huge, -huge, inf, -inf, nan}

// odd are colours of every kind.
var odd = []float64{0, nul, 1, -1, 0.1, math.Pi, -2.5, tiny, -tiny, 2 * tiny, 1e-310, 1e-300, 1e300, huge, -huge, inf, -inf, nan}

// draws are of every kind; wrong ones count as 0.
var (
	draws = []float64{0, nul, tiny, 1e-200, math.Ldexp(1, -53), 0.1, 0.25, 0.375, 1.0 / 3, 0.5, 0.7, 0.875, 0.99, top}
	wrong = []float64{1, math.Nextafter(1, 2), 1.5, 8, huge, inf, -tiny, -0.5, -1, -huge, -inf, nan}
)

func v(x, y, z float64) api.Vec { return api.Vec{X: x, Y: y, Z: z} }

func c(r, g, b float64) api.RGB { return api.RGB{R: r, G: g, B: b} }

var (
	up    = v(0, 0, 1)
	black = c(0, 0, 0)
)

// alike tells whether both are no numbers, or equal, as the document has it: 0
// and -0 are the same.
func alike(x, y float64) bool { return x == y || x != x && y != y }

func alikeRGB(a, b api.RGB) bool { return alike(a.R, b.R) && alike(a.G, b.G) && alike(a.B, b.B) }

// The model is the chapter, word for word; its products are exact ones that are
// rounded once.

func times(x, y float64) float64 {
	if math.IsNaN(x) || math.IsNaN(y) || math.IsInf(x, 0) || math.IsInf(y, 0) {
		return x * y
	}
	p, _ := new(big.Float).SetPrec(200).Mul(big.NewFloat(x), big.NewFloat(y)).Float64()
	return p
}

func scaled(a api.RGB, k float64) api.RGB { return c(times(a.R, k), times(a.G, k), times(a.B, k)) }

func above(out, in api.Vec) bool { return out.Z > 0 && in.Z > 0 }

func finite(x float64) bool { return !math.IsNaN(x) && !math.IsInf(x, 0) }

func evalSays(k api.RGB, out, in api.Vec) api.RGB {
	if above(out, in) {
		return c(k.R/3.141592653589793, k.G/3.141592653589793, k.B/3.141592653589793)
	}
	return black
}

func planeSays(x, y float64) float64 {
	m, l := math.Abs(x), math.Abs(y)
	if m < l {
		m, l = l, m
	}
	f := l / m
	if m == 0 || !finite(l) || !finite(m) {
		f = 0
	}
	ff := times(f, f)
	return times(1+ff, 0.125)
}

func densitySays(out, in api.Vec) float64 {
	if !above(out, in) {
		return 0
	}
	p := times(times(2, planeSays(in.X, in.Y)), in.Z)
	if !finite(p) {
		return 0
	}
	return p
}

func weightSays(k api.RGB, out, in api.Vec) api.RGB {
	p := densitySays(out, in)
	if p > 0 {
		return scaled(scaled(evalSays(k, out, in), in.Z), 1/p)
	}
	return black
}

// directions calls with pairs of directions: each height beside each other one,
// with all kinds of sides.
func directions(each func(out, in api.Vec)) {
	heights := append(append([]float64{}, aboves...), flats...)
	n := 0
	side := func() float64 {
		n = (n*5 + 3) % 1009
		return sides[n%len(sides)]
	}
	for _, o := range heights {
		for _, i := range heights {
			for range 12 {
				each(v(side(), side(), o), v(side(), side(), i))
			}
		}
	}
}

// ordinary calls with colours and directions that come up in pictures.
func ordinary(seed uint64, n int, each func(k api.RGB, out, in api.Vec)) {
	r := rand.New(rand.NewPCG(14, seed))
	part := func() float64 { return 2*r.Float64() - 1 }
	for range n {
		each(c(r.Float64(), r.Float64(), 4*r.Float64()), v(part(), part(), part()+0.8), v(part(), part(), part()+0.8))
	}
}

// strange calls with numbers of every size, and edges among them.
func strange(seed uint64, n int, each func(k api.RGB, out, in api.Vec)) {
	r := rand.New(rand.NewPCG(41, seed))
	number := func() float64 {
		switch r.IntN(8) {
		case 0:
			return odd[r.IntN(len(odd))]
		case 1:
			return sides[r.IntN(len(sides))]
		}
		return math.Ldexp(r.Float64()-0.25, r.IntN(2098)-1074)
	}
	for range n {
		each(c(number(), number(), number()), v(number(), number(), number()), v(number(), number(), number()))
	}
}

// P14.1

func TestEvalDividesEachColourByPi(t *testing.T) {
	for _, at := range []struct {
		name   string
		k, say api.RGB
	}{
		{"1 2 3", c(1, 2, 3), c(0.3183098861837907, 0.6366197723675814, 0.954929658551372)},
		{"pi, and twice and half of it", c(math.Pi, 2*math.Pi, math.Pi/2), c(1, 2, 0.5)},
		{"red", c(math.Pi, 0, 0), c(1, 0, 0)},
		{"green", c(0, math.Pi, 0), c(0, 1, 0)},
		{"blue", c(0, 0, math.Pi), c(0, 0, 1)},
		{"black", black, black},
		{"-0", c(nul, nul, nul), black},
		{"below 0", c(-math.Pi, -1, -tiny), c(-1, -0.3183098861837907, 0)},
		{"infinite, and no number", c(inf, -inf, nan), c(inf, -inf, nan)},
		{"no number among numbers", c(math.Pi, nan, math.Pi), c(1, nan, 1)},
		{"the greatest", c(huge, -huge, huge/8), c(5.722234971514056e307, -5.722234971514056e307, 5.722234971514056e307/8)},
		{"the least", c(tiny, 2*tiny, 5*tiny), c(0, tiny, 2*tiny)},
	} {
		if got := Eval(at.k, up, v(0.6, 0, 0.8)); !alikeRGB(got, at.say) {
			t.Errorf("%s: %v, not %v", at.name, got, at.say)
		}
	}
}

func TestEvalIsNoProduct(t *testing.T) {
	others := 0
	for n := range 1000 {
		k := float64(n+1) / 7
		got := Eval(c(k, 2*k, 4*k), up, up)
		if say := k / 3.141592653589793; got != c(say, 2*say, 4*say) {
			t.Fatalf("%v: %v, not %v", k, got, say)
		}
		if k*(1/3.141592653589793) != k/3.141592653589793 {
			others++
		}
	}
	if others < 100 {
		t.Errorf("of %d numbers only the product is another one", others)
	}
}

func TestEvalAsksBothDirections(t *testing.T) {
	k := c(1, nan, -3)
	say := c(0.3183098861837907, nan, -0.954929658551372)
	directions(func(out, in api.Vec) {
		got := Eval(k, out, in)
		if above(out, in) && !alikeRGB(got, say) {
			t.Fatalf("%v %v, both above: %v", out, in, got)
		}
		if !above(out, in) && got != black {
			t.Fatalf("%v %v, not both above: %v", out, in, got)
		}
	})
}

func TestEvalEachHeightByItself(t *testing.T) {
	k := c(math.Pi, 2*math.Pi, 4*math.Pi)
	for _, z := range aboves {
		if Eval(k, v(1, 0, z), up) != c(1, 2, 4) || Eval(k, up, v(1, 0, z)) != c(1, 2, 4) || Eval(k, v(0, 1, z), v(1, 0, z)) != c(1, 2, 4) {
			t.Errorf("the height %v is not above", z)
		}
	}
	for _, z := range flats {
		if Eval(k, v(1, 0, z), up) != black || Eval(k, up, v(1, 0, z)) != black || Eval(k, v(0, 1, z), v(1, 0, z)) != black {
			t.Errorf("the height %v is above", z)
		}
	}
}

func TestEvalBlackOfAnyColour(t *testing.T) {
	for _, x := range odd {
		for _, z := range flats {
			k := c(x, x, x)
			if Eval(k, up, v(0.6, 0, z)) != black || Eval(k, v(0.6, 0, z), up) != black {
				t.Errorf("%v at the height %v is not black", x, z)
			}
		}
	}
}

func TestEvalAsTheChapterSays(t *testing.T) {
	each := func(k api.RGB, out, in api.Vec) {
		if got, say := Eval(k, out, in), evalSays(k, out, in); !alikeRGB(got, say) {
			t.Fatalf("%v %v %v: %v, not %v", k, out, in, got, say)
		}
	}
	ordinary(1, 5000, each)
	strange(1, 20000, each)
}

func TestDensityByHand(t *testing.T) {
	for _, at := range []struct {
		name string
		in   api.Vec
		say  float64
	}{
		{"the pole", v(0, 0, 1), 0.25},
		{"the pole, of -0", v(nul, nul, 1), 0.25},
		{"twice as high", v(0, 0, 2), 0.5},
		{"along X", v(0.6, 0, 0.8), 0.2},
		{"along -X", v(-0.6, 0, 0.5), 0.125},
		{"along Y", v(0, 0.6, 0.5), 0.125},
		{"along -Y", v(0, -0.6, 0.5), 0.125},
		{"between X and Y", v(1, 1, 1), 0.5},
		{"between -X and Y", v(-3, 3, 0.5), 0.25},
		{"between -X and -Y", v(-2, -2, 2), 1},
		{"between X and -Y", v(tiny, -tiny, 1), 0.5},
		{"a half of a sector", v(2, 1, 1), 0.3125},
		{"a half, nearer to Y", v(-1, 2, 1), 0.3125},
		{"three quarters", v(4, -3, 1), 0.390625},
		{"three quarters, higher", v(-3, -4, 8), 3.125},
		{"X infinite", v(inf, 1, 1), 0.25},
		{"X infinite, the other way", v(-inf, 1, 1), 0.25},
		{"Y infinite", v(1, inf, 1), 0.25},
		{"both infinite", v(inf, -inf, 1), 0.25},
		{"X no number", v(nan, 1, 1), 0.25},
		{"Y no number", v(1, nan, 1), 0.25},
		{"both no numbers", v(nan, nan, 4), 1},
		{"Z infinite", v(0, 0, inf), 0},
		{"Z infinite, and X", v(inf, 0, inf), 0},
		{"Z infinite, between", v(1, 1, inf), 0},
		{"the greatest Z", v(0, 0, huge), huge / 4},
		{"the greatest Z, between", v(1, -1, huge), huge / 2},
	} {
		if got := Density(up, at.in); got != at.say {
			t.Errorf("%s: %v, not %v", at.name, got, at.say)
		}
	}
}

// A height may be so little that its product is 0, though it is above; twice
// the density comes ahead of the height, and twice the height would not be the
// same.
func TestDensityOfLittleHeights(t *testing.T) {
	for _, at := range []struct {
		name string
		in   api.Vec
		say  float64
	}{
		{"a quarter of the least", v(0, 0, tiny), 0},
		{"half of the least", v(1, 1, tiny), 0},
		{"two quarters", v(0, 0, 2*tiny), 0},
		{"two halves", v(1, 1, 2*tiny), tiny},
		{"three quarters", v(0, 0, 3*tiny), tiny},
		{"three halves", v(1, 1, 3*tiny), 2 * tiny},
		{"four quarters", v(0, 0, 4*tiny), tiny},
		{"six quarters", v(0, 0, 6*tiny), 2 * tiny},
		{"ten quarters", v(0, 0, 10*tiny), 2 * tiny},
		{"five halves", v(1, 1, 5*tiny), 2 * tiny},
	} {
		if got := Density(up, at.in); got != at.say {
			t.Errorf("%s: %v, not %v", at.name, got, at.say)
		}
	}
}

func TestDensityAsksBothDirections(t *testing.T) {
	directions(func(out, in api.Vec) {
		got, say := Density(out, in), densitySays(out, in)
		if got != say {
			t.Fatalf("%v %v: %v, not %v", out, in, got, say)
		}
		if !above(out, in) && got != 0 {
			t.Fatalf("%v %v, not both above: %v", out, in, got)
		}
		if !(got >= 0) || got > huge {
			t.Fatalf("%v %v: %v may not be", out, in, got)
		}
	})
}

func TestDensityEachHeightByItself(t *testing.T) {
	for _, z := range aboves {
		if got := Density(v(0.3, 1, z), v(4, 3, 1)); got != 0.390625 {
			t.Errorf("out at the height %v: %v", z, got)
		}
	}
	for _, z := range flats {
		if Density(v(0.3, 1, z), up) != 0 || Density(up, v(0.3, 1, z)) != 0 || Density(v(1, 1, z), v(0.3, 1, z)) != 0 {
			t.Errorf("the height %v is above", z)
		}
	}
}

// Of the way out only that it is above counts.
func TestDensityHangsOnInAlone(t *testing.T) {
	in := v(0.3, -0.4, 0.7)
	say := densitySays(up, in)
	for _, x := range sides {
		for _, y := range sides {
			for _, z := range aboves {
				if got := Density(v(x, y, z), in); got != say {
					t.Fatalf("out %v %v %v: %v, not %v", x, y, z, got, say)
				}
			}
		}
	}
}

func TestDensityAsTheChapterSays(t *testing.T) {
	each := func(_ api.RGB, out, in api.Vec) {
		if got, say := Density(out, in), densitySays(out, in); got != say {
			t.Fatalf("%v %v: %v, not %v", out, in, got, say)
		}
	}
	ordinary(2, 5000, each)
	strange(2, 20000, each)
}

// P14.2

func TestSampleByHand(t *testing.T) {
	h := math.Sqrt(0.75)
	for _, at := range []struct {
		name string
		u, v float64
		say  api.Vec
	}{
		{"the pole", 0, 0, v(0, 0, 1)},
		{"the pole, by any other draw", 0, 0.7, v(0, 0, 1)},
		{"along X", 0.25, 0, v(0.5, 0, h)},
		{"along Y", 0.25, 0.25, v(0, 0.5, h)},
		{"along -X", 0.25, 0.5, v(-0.5, 0, h)},
		{"along -Y", 0.25, 0.625, v(0, -0.5, h)},
		{"three quarters of the first sector", 0.25, 0.09375, v(0.4, 0.3, h)},
		{"three quarters of the second one", 0.25, 0.21875, v(0.3, 0.4, h)},
		{"farther out", 0.75, 0.25, v(0, h, 0.5)},
		{"just below 1", top, 0, v(math.Sqrt(top), 0, math.Sqrt(math.Ldexp(1, -53)))},
	} {
		if got, ok := Sample(up, at.u, at.v); got != at.say || !ok {
			t.Errorf("%s: %v %v, not %v", at.name, got, ok, at.say)
		}
	}
}

func TestSampleIsHemi(t *testing.T) {
	r := rand.New(rand.NewPCG(14, 3))
	each := func(u, w float64) {
		got, ok := Sample(v(0.3, -7, 0.1), u, w)
		if say, _ := warp.Hemi(u, w); got != say || !ok {
			t.Fatalf("%v %v: %v %v, not %v", u, w, got, ok, say)
		}
	}
	all := append(append([]float64{}, draws...), wrong...)
	for _, u := range all {
		for _, w := range all {
			each(u, w)
		}
	}
	for range 5000 {
		each(r.Float64(), r.Float64())
	}
}

func TestSampleOfWrongDraws(t *testing.T) {
	for _, w := range wrong {
		for _, u := range draws {
			first, ok := Sample(up, w, u)
			if say, _ := Sample(up, 0, u); first != say || !ok {
				t.Errorf("%v as the first draw: %v %v, not %v", w, first, ok, say)
			}
			second, ok := Sample(up, u, w)
			if say, _ := Sample(up, u, 0); second != say || !ok {
				t.Errorf("%v as the second draw: %v %v, not %v", w, second, ok, say)
			}
		}
	}
}

func TestSampleOfOutNotAbove(t *testing.T) {
	all := append(append([]float64{}, draws...), wrong...)
	for _, z := range flats {
		for i, x := range sides {
			for j, u := range all {
				out := v(x, sides[(i+j)%len(sides)], z)
				if got, ok := Sample(out, u, all[(i*3+j)%len(all)]); got != (api.Vec{}) || ok {
					t.Fatalf("%v: %v %v", out, got, ok)
				}
			}
		}
	}
}

// Of the way out only that it is above counts.
func TestSampleHangsOnTheDraws(t *testing.T) {
	say, _ := warp.Hemi(0.3, 0.7)
	for _, z := range aboves {
		for _, x := range sides {
			for _, y := range sides {
				if got, ok := Sample(v(x, y, z), 0.3, 0.7); got != say || !ok {
					t.Fatalf("%v %v %v: %v %v", x, y, z, got, ok)
				}
			}
		}
	}
}

// A direction that is drawn is above always, as a draw that counts is below 1;
// it is told just so, if it is above.
func TestSampleIsAbove(t *testing.T) {
	all := append(append([]float64{}, draws...), wrong...)
	for _, u := range append(all, math.Nextafter(top, 0), 1-math.Ldexp(1, -40)) {
		for _, w := range all {
			if got, ok := Sample(up, u, w); !(got.Z > 0) || !ok {
				t.Fatalf("%v %v: %v %v", u, w, got, ok)
			}
		}
	}
}

// P14.3

func TestWeightByHand(t *testing.T) {
	for _, at := range []struct {
		name       string
		k, say     api.RGB
		x, y, high float64
	}{
		{"the pole", c(math.Pi, 2*math.Pi, math.Pi/2), c(4, 8, 2), 0, 0, 1},
		{"along X", c(math.Pi, 0, 0), c(4, 0, 0), 0.6, 0, 0.8},
		{"along -Y", c(0, 0, math.Pi), c(0, 0, 4), 0, -0.5, 0.5},
		{"between X and Y", c(math.Pi, -math.Pi, nul), c(2, -2, 0), 1, 1, 0.25},
		{"a half of a sector, and the height falls out", c(0, 5*math.Pi, 0), c(0, 16, 0), 2, -1, 4},
		{"X infinite", c(math.Pi, math.Pi, 0), c(4, 4, 0), inf, 0, 1},
		{"Y no number", c(math.Pi, math.Pi, 0), c(4, 4, 0), 0, nan, 1},
		{"infinite, and no number", c(inf, -inf, nan), c(inf, -inf, nan), 0, 0, 1},
		{"no number among numbers", c(math.Pi, nan, math.Pi), c(4, nan, 4), 0, 0, 1},
		{"a colour that is 0 once it is divided", c(tiny, -tiny, 2*tiny), c(0, 0, 4*tiny), 0, 0, 1},
		{"Z infinite", c(1, 2, 3), black, 0, 0, inf},
		{"Z infinite, of no number", c(inf, nan, 3), black, 1, 0, inf},
		{"Z so little that Density is 0", c(1, inf, nan), black, 0, 0, tiny},
		{"Z so little, between", c(1, inf, nan), black, 1, 1, tiny},
		{"flat", c(1, inf, nan), black, 1, 0, 0},
	} {
		if got := Weight(at.k, up, v(at.x, at.y, at.high)); !alikeRGB(got, at.say) {
			t.Errorf("%s: %v, not %v", at.name, got, at.say)
		}
	}
}

// Where Density is just above 0, 1 divided by it may be infinite, and what is
// scaled by it as well, or no number, where there is no light to scale.
func TestWeightWhereDensityIsJustAboveNothing(t *testing.T) {
	k := c(math.Pi, 0, -math.Pi)
	for _, at := range []struct {
		name string
		in   api.Vec
		say  api.RGB
	}{
		{"the least density", v(1, 1, 2*tiny), c(inf, nan, -inf)},
		{"the least density, flatter", v(0, 0, 3*tiny), c(inf, nan, -inf)},
		{"the greatest one whose inverse is infinite", v(0, 0, math.Ldexp(1, -1022)), c(inf, nan, -inf)},
		{"the least one whose inverse is not", v(0, 0, math.Ldexp(1, -1022)+4*tiny), c(4, 0, -4)},
		{"twice as much", v(0, 0, math.Ldexp(1, -1021)), c(4, 0, -4)},
		{"a little more", v(1, 1, math.Ldexp(1, -1000)), c(2, 0, -2)},
	} {
		if got := Weight(k, up, at.in); !alikeRGB(got, at.say) {
			t.Errorf("%s: %v, not %v", at.name, got, at.say)
		}
	}
}

// The height is multiplied ahead of 1 divided by Density: what is too great, or
// too little, between them stays so.
func TestWeightIsTooGreatOrTooLittleBetween(t *testing.T) {
	for _, at := range []struct {
		name   string
		k, say api.RGB
		high   float64
	}{
		{"too great", c(1e308, 1, -1e308), c(inf, 4*0.3183098861837907, -inf), 64},
		{"too little", c(math.Pi*1e-310, math.Pi, 0), c(0, 4, 0), math.Ldexp(1, -60)},
		{"not too little, as 1 divided by Density comes later", c(math.Pi*math.Ldexp(1, -40), 0, 0), c(math.Ldexp(1, -38), 0, 0), math.Ldexp(1, -1020)},
		{"not too great, as 1 divided by Density comes later", c(math.Pi*math.Ldexp(1, 900), 0, 0), c(math.Ldexp(1, 902), 0, 0), math.Ldexp(1, -200)},
	} {
		if got := Weight(at.k, up, v(0, 0, at.high)); !alikeRGB(got, at.say) {
			t.Errorf("%s: %v, not %v", at.name, got, at.say)
		}
	}
}

// Each other order of the same numbers tells another number somewhere.
func TestWeightIsScaledTwice(t *testing.T) {
	names := []string{"scaled once", "scaled the other way about", "divided", "without the height", "Eval scaled by 1 divided by pi"}
	others := make([]int, len(names))
	ordinary(3, 5000, func(k api.RGB, out, in api.Vec) {
		if !above(out, in) {
			return
		}
		got, p := Weight(k, out, in), Density(out, in)
		e := evalSays(k, out, in)
		if say := scaled(scaled(e, in.Z), 1/p); got != say {
			t.Fatalf("%v %v %v: %v, not %v", k, out, in, got, say)
		}
		z := scaled(e, in.Z)
		for i, other := range []api.RGB{
			scaled(e, times(in.Z, 1/p)),
			scaled(scaled(e, 1/p), in.Z),
			c(z.R/p, z.G/p, z.B/p),
			scaled(e, 1/times(2, planeSays(in.X, in.Y))),
			scaled(scaled(scaled(k, 1/math.Pi), in.Z), 1/p),
		} {
			if other != got {
				others[i]++
			}
		}
	})
	for i, n := range others {
		if n < 100 {
			t.Errorf("%s: it differs %d times alone", names[i], n)
		}
	}
}

func TestWeightAsksBothDirections(t *testing.T) {
	k := c(1, nan, -3)
	directions(func(out, in api.Vec) {
		got, say := Weight(k, out, in), weightSays(k, out, in)
		if !alikeRGB(got, say) {
			t.Fatalf("%v %v: %v, not %v", out, in, got, say)
		}
		if !above(out, in) && got != black {
			t.Fatalf("%v %v, not both above: %v", out, in, got)
		}
	})
}

func TestWeightBlackOfAnyColour(t *testing.T) {
	for _, x := range odd {
		k := c(x, x, x)
		for _, z := range append([]float64{tiny, inf}, flats...) {
			if Weight(k, up, v(0.6, 0, z)) != black {
				t.Errorf("%v in from the height %v is not black", x, z)
			}
		}
		for _, z := range flats {
			if Weight(k, v(0.6, 0, z), up) != black {
				t.Errorf("%v out to the height %v is not black", x, z)
			}
		}
	}
}

// Of the way out only that it is above counts.
func TestWeightHangsOnInAlone(t *testing.T) {
	k, in := c(0.3, 0.6, 0.9), v(0.3, -0.4, 0.7)
	say := weightSays(k, up, in)
	for _, x := range sides {
		for _, z := range aboves {
			if got := Weight(k, v(x, -x, z), in); got != say {
				t.Fatalf("out %v %v: %v, not %v", x, z, got, say)
			}
		}
	}
}

func TestWeightAsTheChapterSays(t *testing.T) {
	each := func(k api.RGB, out, in api.Vec) {
		if got, say := Weight(k, out, in), weightSays(k, out, in); !alikeRGB(got, say) {
			t.Fatalf("%v %v %v: %v, not %v", k, out, in, got, say)
		}
	}
	ordinary(4, 5000, each)
	strange(4, 20000, each)
}

// What is drawn, together

// TestDensityIsHemis: a direction that is drawn is as probable as Hemi says.
func TestDensityIsHemis(t *testing.T) {
	r := rand.New(rand.NewPCG(14, 5))
	for range 5000 {
		u, w := r.Float64(), r.Float64()
		_, say := warp.Hemi(u, w)
		in, _ := Sample(up, u, w)
		if got := Density(up, in); math.Abs(got-say) > math.Ldexp(say, -40) {
			t.Fatalf("%v %v: %v, not %v", u, w, got, say)
		}
	}
}

// TestMeanOfWeights: over draws that lie evenly, what the surface throws back is
// its colour, from whichever way.
func TestMeanOfWeights(t *testing.T) {
	k, out := c(0.2, 0.5, 0.8), v(0.9, 0, 0.1)
	sum, n := black, 256
	for i := range n {
		for j := range n {
			in, ok := Sample(out, (float64(i)+0.5)/float64(n), (float64(j)+0.5)/float64(n))
			if !ok {
				t.Fatal("a direction that is not above")
			}
			w := Weight(k, out, in)
			sum = c(sum.R+w.R, sum.G+w.G, sum.B+w.B)
		}
	}
	all := float64(n * n)
	if math.Abs(sum.R/all-k.R) > 1e-4 || math.Abs(sum.G/all-k.G) > 1e-4 || math.Abs(sum.B/all-k.B) > 1e-4 {
		t.Errorf("the mean is %v %v %v", sum.R/all, sum.G/all, sum.B/all)
	}
}

func TestSameAgain(t *testing.T) {
	strange(6, 2000, func(k api.RGB, out, in api.Vec) {
		first, ok := Sample(out, k.R, k.G)
		again, still := Sample(out, k.R, k.G)
		if first != again || ok != still {
			t.Fatalf("%v %v %v: %v, then %v", out, k.R, k.G, first, again)
		}
		if Density(out, in) != Density(out, in) || !alikeRGB(Eval(k, out, in), Eval(k, out, in)) || !alikeRGB(Weight(k, out, in), Weight(k, out, in)) {
			t.Fatalf("%v %v %v: not the same again", k, out, in)
		}
	})
}

// The chapter's example

func TestExample1(t *testing.T) {
	if got := Density(up, v(0, 0, 1)); got != 0.25 {
		t.Errorf("%v, not 0.25", got)
	}
}
