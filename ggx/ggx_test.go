package ggx

import (
	"math"
	"math/big"
	"math/rand/v2"
	"testing"

	"penumbra/api"
	"penumbra/warp"
)

var (
	nan  = math.NaN()
	inf  = math.Inf(1)
	nul  = math.Copysign(0, -1)
	huge = math.MaxFloat64
	tiny = math.SmallestNonzeroFloat64
	top  = math.Nextafter(1, 0) // the greatest draw below 1
	low  = 1.0 / 1024           // the least roughness
	half = math.Sqrt(0.75)      // the side of a half as high as 0.5
)

// roughs are roughnesses that may be, rough and smooth those that are taken as
// 1 and as the least one.
var (
	roughs = []float64{low, math.Nextafter(low, 1), 0.01, 0.1, 0.25, 0.3, 0.5, 0.7, 0.9, top, 1}
	rough  = []float64{1, math.Nextafter(1, 2), 1.5, 1024, huge, inf, nan}
	smooth = []float64{low, math.Nextafter(low, 0), low / 2, tiny, 0, nul, -tiny, -low, -0.5, -1, -huge, -inf}
)

// aboves are heights above the surface, flats those within it, below it, and
// those that are no numbers.
var (
	aboves = []float64{tiny, 1e-310, 1e-162, 1e-9, 0.3, 0.5, top, 1, 2, 1e154, 1e200, huge, inf}
	flats  = []float64{0, nul, -tiny, -1e-310, -0.5, -1, -huge, -inf, nan}
)

// sides are what may stand beside a height.
var sides = []float64{0, nul, 1, -1, 0.3, -0.7, 5, tiny, -tiny, 1e-200, 1e200, huge, -huge, inf, -inf, nan}

// odd are numbers of every kind.
var odd = []float64{0, nul, 1, -1, 0.1, math.Pi, -2.5, tiny, -tiny, 2 * tiny, 1e-310, 1e-300, 1e300, huge, -huge, inf, -inf, nan}

// draws are of every kind; wrong ones count as 0.
var (
	draws = []float64{0, nul, tiny, 1e-200, math.Ldexp(1, -53), 0.1, 0.25, 0.375, 1.0 / 3, 0.5, 0.7, 0.75, 0.875, 0.99, math.Nextafter(top, 0), top}
	wrong = []float64{1, math.Nextafter(1, 2), 1.5, 8, huge, inf, -tiny, -0.5, -1, -huge, -inf, nan}
)

func v(x, y, z float64) api.Vec { return api.Vec{X: x, Y: y, Z: z} }

func c(r, g, b float64) api.RGB { return api.RGB{R: r, G: g, B: b} }

var (
	up    = v(0, 0, 1)
	none  = v(0, 0, 0)
	black = c(0, 0, 0)
	white = c(1, 1, 1)
)

func both(a, b []float64) []float64 { return append(append([]float64{}, a...), b...) }

// alike tells whether both are no numbers, or equal, as the document has it: 0
// and -0 are the same.
func alike(x, y float64) bool { return x == y || x != x && y != y }

func alikeRGB(a, b api.RGB) bool { return alike(a.R, b.R) && alike(a.G, b.G) && alike(a.B, b.B) }

func alikeVec(a, b api.Vec) bool { return alike(a.X, b.X) && alike(a.Y, b.Y) && alike(a.Z, b.Z) }

// The model is the chapter, word for word; its products are exact ones that are
// rounded once.

func times(x, y float64) float64 {
	if math.IsNaN(x) || math.IsNaN(y) || math.IsInf(x, 0) || math.IsInf(y, 0) {
		return x * y
	}
	p, _ := new(big.Float).SetPrec(200).Mul(big.NewFloat(x), big.NewFloat(y)).Float64()
	return p
}

func finite(x float64) bool { return !math.IsNaN(x) && !math.IsInf(x, 0) }

func above(out, in api.Vec) bool { return out.Z > 0 && in.Z > 0 }

func dot(a, b api.Vec) float64 { return (times(a.X, b.X) + times(a.Y, b.Y)) + times(a.Z, b.Z) }

func roughSays(a float64) float64 {
	switch {
	case a != a || a > 1:
		return 1
	case a < 0.0009765625:
		return 0.0009765625
	}
	return a
}

func a2Says(a float64) float64 { return times(roughSays(a), roughSays(a)) }

func normalsSays(a, z float64) float64 {
	if z > 0 {
		q := times(a2Says(a)-1, times(z, z)) + 1
		return a2Says(a) / times(3.141592653589793, times(q, q))
	}
	return 0
}

func shadowSays(a, z float64) float64 {
	if z > 0 {
		return times(2, z) / (z + math.Sqrt(a2Says(a)+times(1-a2Says(a), times(z, z))))
	}
	return 0
}

func fresnelSays(f api.RGB, cosine float64) api.RGB {
	if cosine != cosine || cosine > 1 {
		cosine = 1
	}
	if cosine < 0 {
		cosine = 0
	}
	g := 1 - cosine
	h := times(g, g)
	i := times(times(h, h), g)
	return c(f.R+times(1-f.R, i), f.G+times(1-f.G, i), f.B+times(1-f.B, i))
}

func halfSays(out, in api.Vec) (api.Vec, bool) {
	if !above(out, in) {
		return none, false
	}
	s := v(out.X+in.X, out.Y+in.Y, out.Z+in.Z)
	l := math.Sqrt(dot(s, s))
	if l > 0 && finite(l) {
		return v(s.X/l, s.Y/l, s.Z/l), true
	}
	return none, false
}

func evalSays(f api.RGB, a float64, out, in api.Vec) api.RGB {
	h, ok := halfSays(out, in)
	cosine := dot(out, h)
	if ok && cosine > 0 {
		d := normalsSays(a, h.Z)
		s := times(shadowSays(a, out.Z), shadowSays(a, in.Z))
		k := times(d, s) / times(times(4, out.Z), in.Z)
		t := fresnelSays(f, cosine)
		return c(times(t.R, k), times(t.G, k), times(t.B, k))
	}
	return black
}

func planeSays(x, y float64) float64 {
	m, l := math.Abs(x), math.Abs(y)
	if m < l {
		m, l = l, m
	}
	f := l / m
	if m == 0 || !finite(l) || !finite(m) {
		f = 0
	}
	ff := times(f, f)
	return times(1+ff, 0.125)
}

func densitySays(a float64, out, in api.Vec) float64 {
	h, ok := halfSays(out, in)
	cosine := dot(out, h)
	if !ok || !(cosine > 0) {
		return 0
	}
	p := times(times(normalsSays(a, h.Z), h.Z), times(6.283185307179586, planeSays(h.X, h.Y))) / times(4, cosine)
	if finite(p) {
		return p
	}
	return 0
}

func clean(u float64) float64 {
	if u >= 0 && u < 1 {
		return u
	}
	return 0
}

func drawnSays(a, u, w float64) api.Vec {
	w1 := clean(u)
	z := math.Sqrt((1 - w1) / (1 + times(a2Says(a)-1, w1)))
	zz := times(z, z)
	r := 0.0
	if 1-zz > 0 {
		r = math.Sqrt(1 - zz)
	}
	x, y, _ := warp.Sector(w)
	return v(times(x, r), times(y, r), z)
}

func sampleSays(a float64, out api.Vec, u, w float64) (api.Vec, bool) {
	h := drawnSays(a, u, w)
	cosine := dot(out, h)
	k := times(2, cosine)
	in := v(times(h.X, k)-out.X, times(h.Y, k)-out.Y, times(h.Z, k)-out.Z)
	if out.Z > 0 && cosine > 0 && in.Z > 0 {
		return in, true
	}
	return none, false
}

// directions calls with pairs of directions: each height beside each other one,
// with all kinds of sides.
func directions(each func(out, in api.Vec)) {
	heights := both(aboves, flats)
	n := 0
	side := func() float64 {
		n = (n*5 + 3) % 1009
		return sides[n%len(sides)]
	}
	for _, o := range heights {
		for _, i := range heights {
			for range 12 {
				each(v(side(), side(), o), v(side(), side(), i))
			}
		}
	}
}

// numbers are what a test is called with: a colour, a roughness, directions.
type numbers struct {
	f       api.RGB
	a       float64
	out, in api.Vec
}

// ordinary calls with numbers that come up in pictures.
func ordinary(seed uint64, n int, each func(x numbers)) {
	r := rand.New(rand.NewPCG(15, seed))
	part := func() float64 { return 2*r.Float64() - 1 }
	direction := func() api.Vec {
		a := v(part(), part(), part()+0.8)
		l := math.Sqrt(a.X*a.X + a.Y*a.Y + a.Z*a.Z)
		return v(a.X/l, a.Y/l, a.Z/l)
	}
	for range n {
		each(numbers{c(r.Float64(), r.Float64(), r.Float64()), r.Float64(), direction(), direction()})
	}
}

// strange calls with numbers of every size, and edges among them. Half of the
// directions are long or short, but of one size, so that they have a Half.
func strange(seed uint64, n int, each func(x numbers)) {
	r := rand.New(rand.NewPCG(51, seed))
	number := func() float64 {
		switch r.IntN(8) {
		case 0:
			return odd[r.IntN(len(odd))]
		case 1:
			return sides[r.IntN(len(sides))]
		case 2:
			return r.Float64()
		}
		return math.Ldexp(r.Float64()-0.25, r.IntN(2098)-1074)
	}
	size := 0
	direction := func() api.Vec {
		if size == 0 {
			return v(number(), number(), number())
		}
		part := func(less float64) float64 { return math.Ldexp(r.Float64()-less, size) }
		return v(part(0.5), part(0.5), part(0.1))
	}
	for i := range n {
		size = (i % 2) * (r.IntN(1200) - 600)
		each(numbers{c(number(), number(), number()), number(), direction(), direction()})
	}
}

// P15.1

func TestRoughByHand(t *testing.T) {
	for _, a := range roughs {
		if got := Rough(a); got != a {
			t.Errorf("%v is taken as %v", a, got)
		}
	}
	for _, a := range rough {
		if got := Rough(a); got != 1 {
			t.Errorf("%v is taken as %v, not 1", a, got)
		}
	}
	for _, a := range smooth {
		if got := Rough(a); got != 0.0009765625 {
			t.Errorf("%v is taken as %v, not 2^-10", a, got)
		}
	}
}

func TestRoughAsTheChapterSays(t *testing.T) {
	r := rand.New(rand.NewPCG(15, 1))
	for range 20000 {
		a := math.Ldexp(r.Float64()-0.2, r.IntN(20)-15)
		if got := Rough(a); got != roughSays(a) {
			t.Fatalf("%v: %v, not %v", a, got, roughSays(a))
		}
	}
}

// roughnessOf asks that a number be the same for a roughness that may not be
// and for the nearer end.
func roughnessOf(t *testing.T, name string, same func(a, end float64) bool) {
	for _, a := range rough {
		if !same(a, 1) {
			t.Fatalf("%s: %v is not taken as 1", name, a)
		}
	}
	for _, a := range smooth {
		if !same(a, 0.0009765625) {
			t.Fatalf("%s: %v is not taken as 2^-10", name, a)
		}
	}
}

func TestRoughnessIsTakenSoEverywhere(t *testing.T) {
	out, in := v(0.1, 0.2, 0.9), v(0.1, -0.3, 0.8)
	for _, z := range []float64{0.2, 0.5, 1, 0} {
		roughnessOf(t, "Normals", func(a, end float64) bool { return Normals(a, z) == Normals(end, z) })
		roughnessOf(t, "Shadow", func(a, end float64) bool { return Shadow(a, z) == Shadow(end, z) })
	}
	roughnessOf(t, "Eval", func(a, end float64) bool { return Eval(white, a, out, in) == Eval(white, end, out, in) })
	roughnessOf(t, "Density", func(a, end float64) bool { return Density(a, out, in) == Density(end, out, in) })
	roughnessOf(t, "Sample", func(a, end float64) bool {
		x, is := Sample(a, out, 0.3, 0.6)
		y, was := Sample(end, out, 0.3, 0.6)
		return is && was && x == y
	})
	if Normals(low, 0.5) == Normals(1, 0.5) || Shadow(low, 0.5) == Shadow(1, 0.5) || Eval(white, low, out, in) == Eval(white, 1, out, in) || Density(low, out, in) == Density(1, out, in) {
		t.Error("both ends are the same")
	}
}

func TestNormalsByHand(t *testing.T) {
	for _, at := range []struct {
		name      string
		a, z, say float64
	}{
		{"as rough as may be", 1, 1, 0.3183098861837907},
		{"as rough as may be, flatter", 1, 0.3, 0.3183098861837907},
		{"as rough as may be, higher than 1", 1, 5, 0.3183098861837907},
		{"as rough as may be, hardly above", 1, tiny, 0.3183098861837907},
		{"half as rough", 0.5, 1, 1.2732395447351628},
		{"half as rough, hardly above", 0.5, tiny, 0.07957747154594767},
		{"half as rough, half as high: q is 0.8125", 0.5, 0.5, 0.25 / (math.Pi * 0.66015625)},
		{"half as rough, twice as high: q is -2", 0.5, 2, 0.25 / (math.Pi * 4)},
		{"a quarter as rough, half as high: q is 0.765625", 0.25, 0.5, 0.0625 / (math.Pi * 0.586181640625)},
		{"as smooth as may be", low, 1, 1048576 / math.Pi},
		{"as smooth as may be, hardly above", low, tiny, 1 / (math.Pi * 1048576)},
		{"0", 0.5, 0, 0},
		{"-0", 0.5, nul, 0},
		{"below 0", 0.5, -1, 0},
		{"hardly below 0", 1, -tiny, 0},
		{"infinite, below", 0.5, -inf, 0},
		{"no number", 0.5, nan, 0},
		{"no numbers", nan, nan, 0},
		{"infinite", 0.5, inf, 0},
		{"infinite, as rough as may be: 0 times that", 1, inf, nan},
		{"a square that is infinite", 0.5, 1e200, 0},
		{"a square that is infinite, as rough as may be", 1, 1e200, nan},
		{"a square of q that is infinite", 0.5, 1e100, 0},
		{"q just 0", 0.5, 1.1547005383792515, inf},
	} {
		if got := Normals(at.a, at.z); !alike(got, at.say) {
			t.Errorf("%s: %v, not %v", at.name, got, at.say)
		}
	}
}

func TestNormalsAndShadowOfNothingAbove(t *testing.T) {
	for _, z := range flats {
		for _, a := range both(roughs, both(rough, smooth)) {
			if n, s := Normals(a, z), Shadow(a, z); n != 0 || s != 0 {
				t.Errorf("%v at the height %v: %v %v", a, z, n, s)
			}
		}
	}
	for _, z := range aboves[3:9] {
		for _, a := range both(roughs, both(rough, smooth)) {
			if n, s := Normals(a, z), Shadow(a, z); !(n > 0) || !(s > 0) {
				t.Errorf("%v at the height %v: %v %v", a, z, n, s)
			}
		}
	}
}

func TestShadowByHand(t *testing.T) {
	for _, at := range []struct {
		name      string
		a, z, say float64
	}{
		{"as rough as may be", 1, 1, 1},
		{"as rough as may be, flatter", 1, 0.25, 0.4},
		{"as rough as may be, higher than 1", 1, 3, 1.5},
		{"as rough as may be, hardly above", 1, tiny, 2 * tiny},
		{"half as rough", 0.5, 1, 1},
		{"half as rough, 4 high: the root is 3.5", 0.5, 4, 8 / 7.5},
		{"half as rough, 15 high: the root is 13", 0.5, 15, 30.0 / 28},
		{"half as rough, hardly above", 0.5, tiny, 4 * tiny},
		{"as smooth as may be", low, 1, 1},
		{"as smooth as may be, hardly above", low, tiny, 2048 * tiny},
		{"0", 0.5, 0, 0},
		{"-0", 0.5, nul, 0},
		{"below 0", 0.5, -1, 0},
		{"hardly below 0", 1, -tiny, 0},
		{"infinite, below", 0.5, -inf, 0},
		{"no number", 0.5, nan, 0},
		{"no numbers", nan, nan, 0},
		{"infinite: infinite by infinite", 0.5, inf, nan},
		{"a square that is infinite", 0.5, 1e200, 0},
		{"twice that is infinite", 0.5, huge, nan},
		{"a square that is infinite, as rough as may be: 0 times that", 1, 1e200, nan},
	} {
		if got := Shadow(at.a, at.z); !alike(got, at.say) {
			t.Errorf("%s: %v, not %v", at.name, got, at.say)
		}
	}
}

func TestNormalsAndShadowAsTheChapterSays(t *testing.T) {
	r := rand.New(rand.NewPCG(15, 2))
	each := func(a, z float64) {
		if got, say := Normals(a, z), normalsSays(a, z); !alike(got, say) {
			t.Fatalf("Normals %v %v: %v, not %v", a, z, got, say)
		}
		if got, say := Shadow(a, z), shadowSays(a, z); !alike(got, say) {
			t.Fatalf("Shadow %v %v: %v, not %v", a, z, got, say)
		}
	}
	for _, a := range both(roughs, both(rough, smooth)) {
		for _, z := range both(aboves, flats) {
			each(a, z)
		}
	}
	for range 10000 {
		each(r.Float64(), r.Float64())
		each(r.Float64()*r.Float64()*0.1, 1-r.Float64()*r.Float64()*0.01)
		each(r.Float64(), math.Ldexp(r.Float64(), r.IntN(2098)-1074))
	}
}

// count asks that each other order of the same numbers tell another one often
// enough, so that a test bit by bit would find it.
type count struct {
	names  []string
	others []int
}

func counting(names ...string) *count { return &count{names, make([]int, len(names))} }

func (n *count) hold(got float64, others ...float64) {
	for i, x := range others {
		if x != got {
			n.others[i]++
		}
	}
}

func (n *count) ask(t *testing.T, least int) {
	for i, x := range n.others {
		if x < least {
			t.Errorf("%s: it differs %d times alone", n.names[i], x)
		}
	}
}

func TestNormalsInItsOrder(t *testing.T) {
	n := counting("the product joined with the sum", "z times z last", "q without the first product", "pi last", "divided twice", "a2 by half of pi", "a2 by q, twice")
	ordinary(1, 5000, func(x numbers) {
		a, z := x.a, x.f.R
		a2, zz := a2Says(a), times(z, z)
		q := times(a2-1, zz) + 1
		joined := math.FMA(a2-1, zz, 1)
		last := times(times(a2-1, z), z) + 1
		bare := times(a2, zz) - zz + 1
		n.hold(Normals(a, z),
			a2/times(math.Pi, times(joined, joined)),
			a2/times(math.Pi, times(last, last)),
			a2/times(math.Pi, times(bare, bare)),
			a2/times(times(math.Pi, q), q),
			a2/times(q, q)/math.Pi,
			times(a2/times(q, q), 1/math.Pi),
			a2/q/q/math.Pi)
	})
	n.ask(t, 100)
}

func TestShadowInItsOrder(t *testing.T) {
	n := counting("the product joined with the sum", "z times z last", "1 less the product", "twice the quotient's half", "the root's share of the quotient")
	ordinary(2, 5000, func(x numbers) {
		a, z := x.a, x.f.R
		a2, zz := a2Says(a), times(z, z)
		root := math.Sqrt(a2 + times(1-a2, zz))
		n.hold(Shadow(a, z),
			times(2, z)/(z+math.Sqrt(math.FMA(1-a2, zz, a2))),
			times(2, z)/(z+math.Sqrt(a2+times(times(1-a2, z), z))),
			times(2, z)/(z+math.Sqrt(a2+(zz-times(a2, zz)))),
			times(times(2, z), 1/(z+root)),
			2/(1+root/z))
	})
	n.ask(t, 100)
}

// P15.2

func TestFresnelByHand(t *testing.T) {
	for _, at := range []struct {
		name   string
		f      api.RGB
		cosine float64
		say    api.RGB
	}{
		{"straight on", c(0, 0.5, 1), 1, c(0, 0.5, 1)},
		{"level", c(0, 0.5, 1), 0, white},
		{"level, of -0", c(0, 0.5, 1), nul, white},
		{"between", c(0, 0.5, 1), 0.5, c(0.03125, 0.515625, 1)},
		{"nearer to straight on", c(0, 0.5, 1), 0.75, c(0.0009765625, 0.50048828125, 1)},
		{"nearer to level", c(0, 0.5, 1), 0.25, c(0.2373046875, 0.61865234375, 1)},
		{"red", c(0.5, 0, 0), 0.5, c(0.515625, 0.03125, 0.03125)},
		{"blue", c(0, 0, 0.5), 0.5, c(0.03125, 0.03125, 0.515625)},
		{"below 0", c(0, 0.5, 1), -1, white},
		{"hardly below 0", c(0, 0.5, 1), -tiny, white},
		{"infinite, below", c(0, 0.5, 1), -inf, white},
		{"above 1", c(0, 0.5, 1), 2, c(0, 0.5, 1)},
		{"hardly above 1", c(0, 0.5, 1), math.Nextafter(1, 2), c(0, 0.5, 1)},
		{"infinite", c(0, 0.5, 1), inf, c(0, 0.5, 1)},
		{"no number", c(0, 0.5, 1), nan, c(0, 0.5, 1)},
		{"hardly above 0", c(0, 0.5, 1), tiny, white},
		{"hardly below 1", c(0, 0.5, 1), top, c(math.Ldexp(1, -265), 0.5, 1)},
		{"colours of -0", c(nul, nul, nul), 1, black},
		{"colours below 0", c(-1, -2, -1024), 0.5, c(-0.9375, -1.90625, -991.96875)},
		{"colours below 0, level", c(-1, -2, -1024), 0, white},
		{"colours above 1", c(2, 3, 1025), 0.5, c(1.96875, 2.9375, 993)},
		{"infinite colours", c(inf, -inf, 1), 0.5, c(nan, nan, 1)},
		{"infinite colours, straight on", c(inf, -inf, 0.5), 1, c(nan, nan, 0.5)},
		{"infinite colours, level", c(inf, -inf, 0.5), 0, c(nan, nan, 1)},
		{"colours that are no numbers", c(nan, 0, nan), 0.5, c(nan, 0.03125, nan)},
		{"green is no number", c(0, nan, 1), 1, c(0, nan, 1)},
		{"the greatest", c(huge, -huge, 0), 1, c(huge, -huge, 0)},
		{"the greatest, between", c(huge, -huge, 0), 0.5, c(huge/32*31, -huge/32*31, 0.03125)},
		{"the greatest, level", c(huge, 1e17, -1e17), 0, black},
		{"the least, straight on", c(tiny, -tiny, 2*tiny), 1, c(tiny, -tiny, 2*tiny)},
	} {
		if got := Fresnel(at.f, at.cosine); !alikeRGB(got, at.say) {
			t.Errorf("%s: %v, not %v", at.name, got, at.say)
		}
	}
}

func TestFresnelAsTheChapterSays(t *testing.T) {
	each := func(x numbers) {
		for _, cosine := range []float64{x.a, x.out.Z, x.in.X} {
			if got, say := Fresnel(x.f, cosine), fresnelSays(x.f, cosine); !alikeRGB(got, say) {
				t.Fatalf("%v %v: %v, not %v", x.f, cosine, got, say)
			}
		}
	}
	ordinary(3, 5000, each)
	strange(3, 10000, each)
	for _, f := range odd {
		for _, cosine := range both(odd, both(draws, wrong)) {
			each(numbers{c(f, 0.5, f), cosine, up, up})
		}
	}
}

func TestFresnelInItsOrder(t *testing.T) {
	n := counting("the product joined with the sum", "g five times", "g times g, h last", "x less its product", "what is left, and i")
	ordinary(4, 5000, func(x numbers) {
		f, g := x.f.R, 1-x.a
		h := times(g, g)
		i := times(times(h, h), g)
		five := times(times(times(times(g, g), g), g), g)
		late := times(h, times(h, g))
		n.hold(Fresnel(x.f, x.a).R,
			math.FMA(1-f, i, f),
			f+times(1-f, five),
			f+times(1-f, late),
			f+(i-times(f, i)),
			times(f, 1-i)+i)
	})
	n.ask(t, 100)
}

func TestHalfByHand(t *testing.T) {
	for _, at := range []struct {
		name         string
		out, in, say api.Vec
		ok           bool
	}{
		{"straight on", up, up, up, true},
		{"to both sides", v(0.6, 0, 0.8), v(-0.6, 0, 0.8), up, true},
		{"to both sides of Y", v(0, 0.6, 0.8), v(0, -0.6, 0.8), up, true},
		{"of two lengths", v(1, 0, 3), v(2, 0, 1), v(0.6, 0, 0.8), true},
		{"of two lengths, along Y", v(0, 1, 3), v(0, -4, 1), v(0, -0.6, 0.8), true},
		{"along all", v(1, 1, 0.5), v(1, 0, 1.5), v(2.0/3, 1.0/3, 2.0/3), true},
		{"another one", v(1, 1, 1), v(1, 2, 5), v(2.0/7, 3.0/7, 6.0/7), true},
		{"out is not above", v(1, 0, 0), up, none, false},
		{"out is not above, of -0", v(1, 0, nul), up, none, false},
		{"out is below", v(0, 0, -0.5), up, none, false},
		{"out is no number", v(0, 0, nan), up, none, false},
		{"in is not above", up, v(1, 0, 0), none, false},
		{"in is not above, of -0", up, v(1, 0, nul), none, false},
		{"in is below", up, v(0, 0, -0.5), none, false},
		{"in is no number", up, v(0, 0, nan), none, false},
		{"both are below", v(0, 0, -1), v(0, 0, -1), none, false},
		{"hardly above, to both sides", v(1, 0, tiny), v(-1, 0, tiny), none, false},
		{"a sum whose square is 0", v(0, 0, 1e-170), v(0, 0, 1e-170), none, false},
		{"a sum whose square is infinite", v(0, 0, 1e160), v(0, 0, 1e160), none, false},
		{"a sum that is infinite", v(0, 0, huge), v(0, 0, huge), none, false},
		{"infinite", v(0, 0, inf), up, none, false},
		{"infinite to one side", v(inf, 0, 1), up, none, false},
		{"infinite to both sides", v(inf, 0, 1), v(-inf, 0, 1), none, false},
		{"no number to one side", v(nan, 0, 1), up, none, false},
		{"no number to another side", up, v(0, nan, 1), none, false},
		{"the greatest to both sides", v(huge, -huge, 3), v(-huge, huge, 3), up, true},
		{"hardly above", v(1, 0, tiny), v(1, 0, tiny), v(1, 0, tiny), true},
	} {
		if got, ok := Half(at.out, at.in); !alikeVec(got, at.say) || ok != at.ok {
			t.Errorf("%s: %v %v, not %v", at.name, got, ok, at.say)
		}
	}
}

func TestHalfAsTheChapterSays(t *testing.T) {
	there := 0
	each := func(out, in api.Vec) {
		got, ok := Half(out, in)
		say, is := halfSays(out, in)
		if !alikeVec(got, say) || ok != is {
			t.Fatalf("%v %v: %v %v, not %v %v", out, in, got, ok, say, is)
		}
		if ok {
			there++
		} else if got != none {
			t.Fatalf("%v %v: %v, though there is none", out, in, got)
		}
	}
	directions(each)
	ordinary(5, 5000, func(x numbers) { each(x.out, x.in) })
	strange(5, 20000, func(x numbers) { each(x.out, x.in) })
	if there < 5000 {
		t.Errorf("there are %d alone", there)
	}
}

// P15.3

// share is what Eval's colours are scaled by.
func share(a float64, out, in api.Vec) float64 { return Eval(white, a, out, in).R }

func TestEvalByHand(t *testing.T) {
	steep := v(0.6, 0, 0.8)
	for _, at := range []struct {
		name    string
		f       api.RGB
		a       float64
		out, in api.Vec
		say     api.RGB
	}{
		{"straight on", c(0, 0.5, 1), 1, up, up, c(0, 0.07957747154594767/2, 0.07957747154594767)},
		{"straight on, half as rough", c(1, 0.5, 0), 0.5, up, up, c(0.3183098861837907, 0.15915494309189535, 0)},
		{"straight on, as smooth as may be", white, low, up, up, c(262144/math.Pi, 262144/math.Pi, 262144/math.Pi)},
		{"out is twice as long", c(1, 0.5, 0), 1, v(0, 0, 2), up, c((4.0/3)/(8*math.Pi), (4.0/3)/(8*math.Pi)/2, 0)},
		{"out is shorter, so that c is 0.5", c(1, 0.5, 0), 1, v(0, 0, 0.5), up, c((2.0/3)/(2*math.Pi), 0.515625*((2.0/3)/(2*math.Pi)), 0.03125*((2.0/3)/(2*math.Pi)))},
		{"below 0, and no number", c(-1, nan, 0), 1, up, up, c(-0.07957747154594767, nan, 0)},
		{"infinite", c(inf, -inf, 1), 1, up, up, c(nan, nan, 0.07957747154594767)},
		{"out is not above", white, 1, v(1, 0, 0), up, black},
		{"in is not above", white, 1, up, v(1, 0, 0), black},
		{"out is below", white, 1, v(0, 0, -1), up, black},
		{"in is below", white, 1, up, v(0, 0, -1), black},
		{"neither is above", white, 1, v(1, 0, 0), v(-1, 0, nul), black},
		{"no number", c(1, nan, inf), 1, v(0, 0, nan), steep, black},
		{"no Half", c(1, nan, inf), 1, v(1, 0, tiny), v(-1, 0, tiny), black},
		{"no Half, infinite", c(1, nan, inf), 1, v(0, 0, inf), up, black},
		{"no Half, infinite to one side", c(1, nan, inf), 1, v(inf, 0, 1), up, black},
		{"a Half that out does not see", c(1, nan, inf), 1, v(1, 0, 0.1), v(-3, 0, 0.1), black},
		{"a Half to which out is level", c(1, nan, inf), 1, v(2, 0, 1), v(-3, 0, 1), black},
		{"a Half that in does not see", c(1, 0, 1), 1, v(-3, 0, 0.5), v(1, 0, 0.5), evalSays(c(1, 0, 1), 1, v(-3, 0, 0.5), v(1, 0, 0.5))},
		{"infinite, where q is 0", white, 0.5, v(0, 0, 1.2833103623588054e-162), v(0, 0, 1.2833103623588054e-162), c(inf, inf, inf)},
		{"no number, where both heights are hardly above", white, 1, v(1, 0, 1e-200), v(1, 0, 1e-200), c(nan, nan, nan)},
	} {
		if got := Eval(at.f, at.a, at.out, at.in); !alikeRGB(got, at.say) {
			t.Errorf("%s: %v, not %v", at.name, got, at.say)
		}
	}
	if Eval(c(1, 0, 1), 1, v(-3, 0, 0.5), v(1, 0, 0.5)) == black {
		t.Error("a Half that in does not see is black")
	}
}

func TestEvalAsTheChapterSays(t *testing.T) {
	lit, wild := 0, 0
	each := func(x numbers) {
		got, say := Eval(x.f, x.a, x.out, x.in), evalSays(x.f, x.a, x.out, x.in)
		if !alikeRGB(got, say) {
			t.Fatalf("%v: %v, not %v", x, got, say)
		}
		if _, ok := halfSays(x.out, x.in); !ok && got != black {
			t.Fatalf("%v: %v without a Half", x, got)
		}
		if !(got == black) {
			lit++
		}
		if !finite(got.R) {
			wild++
		}
	}
	ordinary(6, 5000, each)
	strange(6, 20000, each)
	directions(func(out, in api.Vec) { each(numbers{c(0.3, nan, -2), 0.4, out, in}) })
	if lit < 5000 || wild < 100 {
		t.Errorf("%d are lit, %d are not finite alone", lit, wild)
	}
}

func TestEvalEachHeightByItself(t *testing.T) {
	for _, z := range []float64{1e-150, 1e-9, 0.5, 1, 2, 1e100} {
		if share(0.5, v(1, 0, z), up) == 0 || share(0.5, up, v(1, 0, z)) == 0 {
			t.Errorf("the height %v is not above", z)
		}
	}
	for _, z := range flats {
		for _, f := range odd {
			k := c(f, f, f)
			if Eval(k, 0.5, v(1, 0, z), up) != black || Eval(k, 0.5, up, v(1, 0, z)) != black || Eval(k, 0.5, v(1, 0, z), v(0, 1, z)) != black {
				t.Errorf("%v at the height %v is not black", f, z)
			}
		}
	}
}

// Each colour is what Fresnel makes of it at out's cosine, not in's.
func TestEvalTakesOutsCosine(t *testing.T) {
	out, in := v(0, 0, 0.5), v(0, 0, 0.75)
	got, k := Eval(c(0, 0.25, 1), 0.7, out, in), share(0.7, out, in)
	say, other := fresnelSays(c(0, 0.25, 1), 0.5), fresnelSays(c(0, 0.25, 1), 0.75)
	if got != c(times(say.R, k), times(say.G, k), times(say.B, k)) || say == other {
		t.Errorf("%v", got)
	}
}

func TestEvalInItsOrder(t *testing.T) {
	n := counting("divided one by one", "s one by one", "d by the divisor", "scaled by s ahead", "Fresnel divided", "out's shadow by out's height")
	ordinary(7, 5000, func(x numbers) {
		h, ok := halfSays(x.out, x.in)
		if !ok {
			return
		}
		d, so, si := normalsSays(x.a, h.Z), shadowSays(x.a, x.out.Z), shadowSays(x.a, x.in.Z)
		s, o, i := times(so, si), x.out.Z, x.in.Z
		f := fresnelSays(x.f, dot(x.out, h)).R
		n.hold(Eval(x.f, x.a, x.out, x.in).R,
			times(f, times(d, s)/times(4, o)/i),
			times(f, times(times(d, so), si)/times(times(4, o), i)),
			times(f, times(d, s/times(times(4, o), i))),
			times(times(f, s), d/times(times(4, o), i)),
			times(f, times(d, s))/times(times(4, o), i),
			times(f, times(d, times(so/times(4, o), si/i))))
	})
	n.ask(t, 100)
}

// 4 times out's height comes first: as 4 is a power of 2, another place of it
// tells another number at the ends of the range alone.
func TestEvalsDivisorInItsOrder(t *testing.T) {
	for _, at := range []struct {
		name    string
		out, in api.Vec
	}{
		{"in's height is hardly above", v(0, 0, 1), v(1, 0, tiny)},
		{"out's height is hardly above", v(1, 0, tiny), v(0, 0, 1)},
		{"both are little", v(1, 0, 1e-161), v(1, 0, 3e-163)},
		{"both are little, the other way about", v(1, 0, 3e-163), v(1, 0, 1e-161)},
		{"just the least", v(1, 0, 0.25), v(1, 0, tiny)},
		{"less than the least", v(1, 0, 0.125), v(1, 0, tiny)},
		{"less than the least, the other way about", v(1, 0, tiny), v(1, 0, 0.125)},
	} {
		for _, a := range roughs {
			if got, say := Eval(white, a, at.out, at.in), evalSays(white, a, at.out, at.in); !alikeRGB(got, say) {
				t.Errorf("%s, %v: %v, not %v", at.name, a, got, say)
			}
		}
	}
}

func TestDensityByHand(t *testing.T) {
	half := math.Pi / 4
	for _, at := range []struct {
		name    string
		a       float64
		out, in api.Vec
		say     float64
	}{
		{"straight on", 1, up, up, 0.0625},
		{"straight on, half as rough", 0.5, up, up, 0.25},
		{"straight on, as smooth as may be", low, up, up, 65536},
		{"out is twice as long", 1, v(0, 0, 2), up, 0.03125},
		{"in is twice as long", 1, up, v(0, 0, 2), 0.0625},
		{"to both sides", 1, v(0.6, 0, 0.8), v(-0.6, 0, 0.8), ((1 / math.Pi) * half) / 3.2},
		{"a Half along X", 1, v(1, 0, 3), v(2, 0, 1), densitySays(1, v(1, 0, 3), v(2, 0, 1))},
		{"out is not above", 1, v(1, 0, 0), up, 0},
		{"in is not above", 1, up, v(1, 0, 0), 0},
		{"out is below", 1, v(0, 0, -1), up, 0},
		{"in is below", 1, up, v(0, 0, -1), 0},
		{"no number", 1, v(0, 0, nan), up, 0},
		{"no Half", 1, v(1, 0, tiny), v(-1, 0, tiny), 0},
		{"no Half, infinite", 1, v(0, 0, inf), up, 0},
		{"no Half, infinite to one side", 1, v(inf, 0, 1), up, 0},
		{"a Half that out does not see", 1, v(1, 0, 0.1), v(-3, 0, 0.1), 0},
		{"a Half to which out is level", 1, v(2, 0, 1), v(-3, 0, 1), 0},
		{"infinite, as out is hardly above", 1, v(0, 0, 1e-310), up, 0},
		{"infinite, as out is the least", 1, v(0, 0, tiny), up, 0},
		{"infinite, where q is 0", 0.5, v(0, 0, 1.2833103623588054e-162), v(0, 0, 1.2833103623588054e-162), 0},
		{"as great as may be, nearly", 1, v(0, 0, math.Ldexp(1, -1022)), up, math.Ldexp(1, 1018)},
	} {
		if got := Density(at.a, at.out, at.in); got != at.say {
			t.Errorf("%s: %v, not %v", at.name, got, at.say)
		}
	}
}

func TestDensityAsTheChapterSays(t *testing.T) {
	there, wild := 0, 0
	each := func(x numbers) {
		got, say := Density(x.a, x.out, x.in), densitySays(x.a, x.out, x.in)
		if got != say {
			t.Fatalf("%v: %v, not %v", x, got, say)
		}
		if !(got >= 0) || got > huge {
			t.Fatalf("%v: %v may not be", x, got)
		}
		h, ok := halfSays(x.out, x.in)
		if got > 0 {
			there++
		} else if ok && dot(x.out, h) > 0 {
			wild++
		}
		if !ok && got != 0 {
			t.Fatalf("%v: %v without a Half", x, got)
		}
	}
	ordinary(8, 5000, each)
	strange(8, 20000, each)
	directions(func(out, in api.Vec) { each(numbers{white, 0.4, out, in}) })
	if there < 5000 || wild < 10 {
		t.Errorf("%d are above 0, %d are not finite alone", there, wild)
	}
}

func TestDensityEachHeightByItself(t *testing.T) {
	for _, z := range []float64{1e-150, 1e-9, 0.5, 1, 2, 1e100} {
		if Density(0.5, v(1, 0, z), up) == 0 || Density(0.5, up, v(1, 0, z)) == 0 {
			t.Errorf("the height %v is not above", z)
		}
	}
	for _, z := range flats {
		for _, x := range sides {
			if Density(0.5, v(x, 0, z), up) != 0 || Density(0.5, up, v(x, 0, z)) != 0 || Density(0.5, v(0, x, z), v(0, 1, z)) != 0 {
				t.Errorf("the height %v is above", z)
			}
		}
	}
}

func TestDensityInItsOrder(t *testing.T) {
	n := counting("d last", "2 pi ahead", "the height behind the angle", "2 pi last", "divided by c alone", "divided twice", "scaled by 1 divided by 4 c", "in's cosine")
	ordinary(9, 5000, func(x numbers) {
		h, ok := halfSays(x.out, x.in)
		if !ok {
			return
		}
		d, p, k, pi := normalsSays(x.a, h.Z), planeSays(h.X, h.Y), dot(x.out, h), 2*math.Pi
		if !(k > 0) {
			return
		}
		n.hold(Density(x.a, x.out, x.in),
			times(d, times(h.Z, times(pi, p)))/times(4, k),
			times(times(times(d, h.Z), pi), p)/times(4, k),
			times(times(d, times(pi, p)), h.Z)/times(4, k),
			times(pi, times(times(d, h.Z), p))/times(4, k),
			times(times(d, h.Z)/k, times(pi/4, p)),
			times(d, h.Z)/times(4, k)*times(pi, p),
			times(times(times(d, h.Z), times(pi, p)), 1/times(4, k)),
			times(times(d, h.Z), times(pi, p))/times(4, dot(x.in, h)))
	})
	n.ask(t, 100)
}

// P15.4

func TestSampleByHand(t *testing.T) {
	r, more := half, math.Nextafter(1, 2)
	wide, just := times(2, r)+0.25, times(more, r)+r // what out's Dot is
	for _, at := range []struct {
		name string
		a    float64
		out  api.Vec
		u, w float64
		say  api.Vec
		ok   bool
	}{
		{"straight back", 1, up, 0, 0, up, true},
		{"straight back, by any other draw", 1, up, 0, 0.7, up, true},
		{"straight back, as smooth as may be", low, up, 0, 0.3, up, true},
		{"a mirror's way", 1, v(0.6, -0.3, 0.8), 0, 0.4, v(-0.6, 0.3, 0.8), true},
		{"along X, level as can be", 1, up, 0.5, 0, v(1, 0, math.Ldexp(1, -52)), true},
		{"along Y", 1, up, 0.5, 0.25, v(0, 1, math.Ldexp(1, -52)), true},
		{"along -X", 1, up, 0.5, 0.5, v(-1, 0, math.Ldexp(1, -52)), true},
		{"along -Y", 1, up, 0.5, 0.75, v(0, -1, math.Ldexp(1, -52)), true},
		{"below", 1, up, 0.75, 0, none, false},
		{"the Half is half as high", 1, v(2, 0, 0.5), 0.75, 0, v(times(r, 2*wide)-2, 0, wide-0.5), true},
		{"the Half is half as high, along Y", 1, v(0, 2, 0.5), 0.75, 0.25, v(0, times(r, 2*wide)-2, wide-0.5), true},
		{"just level, of 0", 1, v(1, 0, 2*r), 0.75, 0, none, false},
		{"hardly above that", 1, v(more, 0, 2*r), 0.75, 0, v(times(r, 2*just)-more, 0, just-2*r), true},
		{"c is just 0", 1, v(-1, 0, 2*r), 0.75, 0, none, false},
		{"c is below 0", 1, v(-1, 0, 0.5), 0.75, 0, none, false},
		{"out is level", 1, v(1, 0, 0), 0.75, 0, none, false},
		{"out is level, of -0", 1, v(1, 0, nul), 0.75, 0, none, false},
		{"out is below", 1, v(1, 0, -0.1), 0.75, 0, none, false},
		{"out is no number", 1, v(0, 0, nan), 0.75, 0, none, false},
		{"out is infinite", 1, v(0, 0, inf), 0, 0, none, false},
		{"out is infinite, below", 1, v(0, 0, -inf), 0, 0, none, false},
		{"a side is no number", 1, v(nan, 0, 1), 0.3, 0, none, false},
		{"a side is infinite, the other way", 1, v(-inf, 0, 1), 0.3, 0, none, false},
		{"a side is infinite", 1, v(inf, 0, 1), 0.3, 0.1, v(nan, inf, inf), true},
		{"a c that is infinite", 1, v(0, 0, huge), 0, 0, v(nan, nan, inf), true},
	} {
		if got, ok := Sample(at.a, at.out, at.u, at.w); !alikeVec(got, at.say) || ok != at.ok {
			t.Errorf("%s: %v %v, not %v", at.name, got, ok, at.say)
		}
	}
}

func TestSampleAsTheChapterSays(t *testing.T) {
	r := rand.New(rand.NewPCG(15, 10))
	var there, sunk, away int
	each := func(a float64, out api.Vec, u, w float64) {
		got, ok := Sample(a, out, u, w)
		say, is := sampleSays(a, out, u, w)
		if !alikeVec(got, say) || ok != is {
			t.Fatalf("%v %v %v %v: %v %v, not %v %v", a, out, u, w, got, ok, say, is)
		}
		switch cosine := dot(out, drawnSays(a, u, w)); {
		case ok && got.Z > 0:
			there++
		case ok || got != none:
			t.Fatalf("%v %v %v %v: %v %v", a, out, u, w, got, ok)
		case out.Z > 0 && cosine > 0:
			sunk++
		case out.Z > 0:
			away++
		}
	}
	ordinary(10, 10000, func(x numbers) { each(x.a, x.out, x.f.R, x.f.G) })
	strange(10, 10000, func(x numbers) {
		each(x.a, x.out, r.Float64(), r.Float64())
		each(x.a, x.in, x.f.R, x.f.G)
	})
	all := both(draws, wrong)
	directions(func(out, in api.Vec) { each(r.Float64(), out, all[r.IntN(len(all))], all[r.IntN(len(all))]) })
	if there < 5000 || sunk < 1000 || away < 1000 {
		t.Errorf("%d are there, %d below, %d turned away alone", there, sunk, away)
	}
}

func TestSampleOfWrongDraws(t *testing.T) {
	out := v(0.3, -0.2, 0.9)
	for _, w := range wrong {
		for _, u := range draws {
			first, ok := Sample(0.4, out, w, u)
			if say, is := Sample(0.4, out, 0, u); first != say || ok != is || !ok {
				t.Errorf("%v as the first draw: %v %v, not %v", w, first, ok, say)
			}
			second, ok := Sample(0.4, out, u, w)
			if say, is := Sample(0.4, out, u, 0); second != say || ok != is {
				t.Errorf("%v as the second draw: %v %v, not %v", w, second, ok, say)
			}
		}
	}
}

func TestSampleOfOutNotAbove(t *testing.T) {
	all := both(draws, wrong)
	for _, z := range flats {
		for i, x := range sides {
			for j, u := range all {
				out := v(x, sides[(i+j)%len(sides)], z)
				if got, ok := Sample(roughs[j%len(roughs)], out, u, all[(i*3+j)%len(all)]); got != none || ok {
					t.Fatalf("%v: %v %v", out, got, ok)
				}
			}
		}
	}
}

// The Half that is drawn is above always, and never higher than 1, so that 1
// less its square is never below 0: 1 less a draw is not more than 1 less a part
// of it, rounded neither.
func TestSamplesHalfIsFromZeroToOne(t *testing.T) {
	r := rand.New(rand.NewPCG(15, 11))
	each := func(a, u float64) {
		z := drawHalf(a, u, 0.3).Z
		if !(z > 0) || z > 1 || times(z, z) > 1 {
			t.Fatalf("%v %v: %v", a, u, z)
		}
		if got, ok := Sample(a, up, u, 0.3); ok && !(got.Z <= 1) {
			t.Fatalf("%v %v: %v", a, u, got)
		}
	}
	for _, a := range both(roughs, both(rough, smooth)) {
		for _, u := range both(draws, wrong) {
			each(a, u)
		}
		for i := range 60 {
			each(a, math.Ldexp(1, -i))
			each(a, 1-math.Ldexp(1, -i))
		}
	}
	for range 5000 {
		each(r.Float64(), r.Float64())
		each(r.Float64()*0.01, math.Ldexp(r.Float64(), -r.IntN(60)))
	}
}

func TestSampleInItsOrder(t *testing.T) {
	n := counting("the product joined with the sum", "1 less w, and the product", "times 1 by the divisor", "a root of each", "r without z", "r by a quotient", "1 less z times 1 and z", "1 less z times z, joined", "less out, joined")
	ordinary(11, 5000, func(x numbers) {
		got, ok := Sample(x.a, x.out, x.f.R, x.f.G)
		if !ok {
			return
		}
		a2, w := a2Says(x.a), x.f.R
		by := 1 + times(a2-1, w)
		sx, sy, _ := warp.Sector(x.f.G)
		half := func(z, r float64) api.Vec { return v(times(sx, r), times(sy, r), z) }
		thrown := func(z, r float64) float64 {
			h := half(z, r)
			return times(h.X, times(2, dot(x.out, h))) - x.out.X
		}
		high := func(z float64) float64 { return thrown(z, math.Sqrt(max(0, 1-times(z, z)))) }
		z := math.Sqrt((1 - w) / by)
		h := half(z, math.Sqrt(1-times(z, z)))
		n.hold(got.X,
			high(math.Sqrt((1-w)/math.FMA(a2-1, w, 1))),
			high(math.Sqrt((1-w)/((1-w)+times(a2, w)))),
			high(math.Sqrt(times(1-w, 1/by))),
			high(math.Sqrt(1-w)/math.Sqrt(by)),
			thrown(z, math.Sqrt(1-(1-w)/by)),
			thrown(z, math.Sqrt(times(a2, w)/by)),
			thrown(z, math.Sqrt(times(1-z, 1+z))),
			thrown(z, math.Sqrt(math.FMA(-z, z, 1))),
			math.FMA(h.X, times(2, dot(x.out, h)), -x.out.X))
	})
	n.ask(t, 100)
}

// What is drawn, together

// TestSampleIsThrownBack: the Half of out and the direction is the one that was
// drawn, and both stand to it alike.
func TestSampleIsThrownBack(t *testing.T) {
	ordinary(12, 5000, func(x numbers) {
		in, ok := Sample(x.a, x.out, x.f.R, x.f.G)
		if !ok || in.Z < 1e-6 {
			return
		}
		h, is := Half(x.out, in)
		drawn := drawnSays(x.a, x.f.R, x.f.G)
		if !is || math.Abs(dot(h, drawn)-1) > 1e-9 || math.Abs(dot(in, h)-dot(x.out, h)) > 1e-6 {
			t.Fatalf("%v: %v, Half %v, not %v", x, in, h, drawn)
		}
	})
}

func cross(a, b api.Vec) api.Vec {
	return v(a.Y*b.Z-a.Z*b.Y, a.Z*b.X-a.X*b.Z, a.X*b.Y-a.Y*b.X)
}

// TestDensityIsThatOfSample: how much of all directions a little square of draws
// reaches is what Density says.
func TestDensityIsThatOfSample(t *testing.T) {
	n, step := 0, 1e-6
	ordinary(13, 5000, func(x numbers) {
		a, u, w := 0.2+0.8*x.a, 0.05+0.9*x.f.R, x.f.G
		if at := 8 * w; at-math.Floor(at) > 0.9 || at-math.Floor(at) < 0.1 {
			return
		}
		less := func(a, b api.Vec) api.Vec { return v(a.X-b.X, a.Y-b.Y, a.Z-b.Z) }
		in, ok := Sample(a, x.out, u, w)
		left, is := Sample(a, x.out, u-step, w)
		right, was := Sample(a, x.out, u+step, w)
		under, can := Sample(a, x.out, u, w-step)
		over, could := Sample(a, x.out, u, w+step)
		if !ok || !is || !was || !can || !could {
			return
		}
		n++
		wide := cross(less(right, left), less(over, under))
		say := 4 * step * step / math.Sqrt(dot(wide, wide))
		if got := Density(a, x.out, in); math.Abs(got-say) > 1e-4*say {
			t.Fatalf("%v %v %v %v: %v, not %v", a, x.out, u, w, got, say)
		}
	})
	if n < 1000 {
		t.Errorf("%d are asked alone", n)
	}
}

// mean tells what a surface throws back by its own draws, and by those of a
// matt one.
func mean(f api.RGB, a float64, out api.Vec) (own, matt float64) {
	n := 256
	for i := range n {
		for j := range n {
			u, w := (float64(i)+0.5)/float64(n), (float64(j)+0.5)/float64(n)
			if in, ok := Sample(a, out, u, w); ok && Density(a, out, in) > 0 {
				own += Eval(f, a, out, in).G * in.Z / Density(a, out, in)
			}
			in, p := warp.Hemi(u, w)
			matt += Eval(f, a, out, in).G * in.Z / p
		}
	}
	return own / float64(n*n), matt / float64(n*n)
}

func TestMeanOfEval(t *testing.T) {
	for _, at := range []struct {
		f   api.RGB
		a   float64
		out api.Vec
	}{
		{white, 1, up},
		{white, 0.5, v(0.6, 0, 0.8)},
		{c(0, 0.5, 0), 0.5, v(0, -0.8, 0.6)},
		{c(0, 0.04, 0), 0.7, v(0.48, 0.6, 0.64)},
		{white, 0.3, v(-0.48, 0.36, 0.8)},
	} {
		own, matt := mean(at.f, at.a, at.out)
		if math.Abs(own-matt) > 0.003 || own > 1.0001 {
			t.Errorf("%v %v %v: %v by its own draws, %v by others", at.f, at.a, at.out, own, matt)
		}
	}
	if own, _ := mean(c(0, 0.5, 0), low, up); math.Abs(own-0.5) > 0.001 {
		t.Errorf("as smooth as may be, %v of 0.5 is thrown back", own)
	}
}

// TestEvalEitherWay: light that comes the other way is thrown back as much.
func TestEvalEitherWay(t *testing.T) {
	ordinary(14, 5000, func(x numbers) {
		there, back := Eval(x.f, x.a, x.out, x.in), Eval(x.f, x.a, x.in, x.out)
		if math.Abs(there.G-back.G) > 1e-9*there.G {
			t.Fatalf("%v: %v, and %v back", x, there, back)
		}
	})
}

func TestSameAgain(t *testing.T) {
	strange(15, 2000, func(x numbers) {
		first, ok := Sample(x.a, x.out, x.f.R, x.f.G)
		again, still := Sample(x.a, x.out, x.f.R, x.f.G)
		if !alikeVec(first, again) || ok != still {
			t.Fatalf("%v: %v, then %v", x, first, again)
		}
		if Density(x.a, x.out, x.in) != Density(x.a, x.out, x.in) || !alikeRGB(Eval(x.f, x.a, x.out, x.in), Eval(x.f, x.a, x.out, x.in)) {
			t.Fatalf("%v: not the same again", x)
		}
	})
}

// The chapter's example

func TestExample1(t *testing.T) {
	if got := Normals(1, 1); got != 1/math.Pi {
		t.Errorf("%v, not 1 divided by pi", got)
	}
}
