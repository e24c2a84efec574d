package frame

import (
	"math"
	"math/big"
	"testing"

	"penumbra/api"
)

var (
	nan  = math.NaN()
	inf  = math.Inf(1)
	nul  = math.Copysign(0, -1)
	huge = math.MaxFloat64
	tiny = math.SmallestNonzeroFloat64

	// The product of these two is 1 - 2^-60, and 1, when it is rounded for
	// itself: a product that is joined with a sum shows by that.
	over  = 1 + math.Ldexp(1, -30)
	under = 1 - math.Ldexp(1, -30)
)

// edges are numbers that are tried in every place.
var edges = []float64{0, nul, 1, -1, 0.1, -0.3, 3, 1e16, 1e200, -1e200, 1e-200, huge, -huge, tiny, -tiny, over, -under, inf, -inf, nan}

func v(x, y, z float64) api.Vec { return api.Vec{X: x, Y: y, Z: z} }

// bits tells whether both are no numbers, or equal, with the same sign: as the
// orders of the operations are named, the sign of a 0 is too.
func bits(x, y float64) bool {
	return x == y && math.Signbit(x) == math.Signbit(y) || x != x && y != y
}

func sameVec(a, b api.Vec) bool { return bits(a.X, b.X) && bits(a.Y, b.Y) && bits(a.Z, b.Z) }

func sameFrame(f, g api.Frame) bool {
	return sameVec(f.T, g.T) && sameVec(f.B, g.B) && sameVec(f.N, g.N)
}

// alike is as sameVec, but 0 and -0 are the same.
func alike(a, b api.Vec) bool {
	one := func(x, y float64) bool { return x == y || x != x && y != y }
	return one(a.X, b.X) && one(a.Y, b.Y) && one(a.Z, b.Z)
}

func finite(x float64) bool { return x >= -huge && x <= huge }

// times multiplies finite numbers by way of exact ones, rounded once.
func times(x, y float64) float64 {
	if !finite(x) || !finite(y) {
		return x * y
	}
	p, _ := new(big.Float).SetPrec(200).Mul(big.NewFloat(x), big.NewFloat(y)).Float64()
	return p
}

func dot(a, b api.Vec) float64 {
	xy := times(a.X, b.X) + times(a.Y, b.Y)
	return xy + times(a.Z, b.Z)
}

// vectors is every edge in every place, with every other one in the next, and
// directions of length 1 all around.
func vectors() []api.Vec {
	var all []api.Vec
	for _, e := range edges {
		for _, f := range edges {
			all = append(all, v(e, f, 0.5), v(e, 3, f), v(-2, e, f))
		}
	}
	return append(all, directions()...)
}

// directions are many of length 1, none of them ordinary.
func directions() []api.Vec {
	var all []api.Vec
	for i := range 1000 {
		z := float64(i)/500 - 0.999
		r, phi := math.Sqrt(1-z*z), float64(i)*2.399963
		all = append(all, v(r*math.Cos(phi), r*math.Sin(phi), z))
	}
	return all
}

// P3.1

func TestNew(t *testing.T) {
	for _, c := range []struct {
		name    string
		n, t, b api.Vec
	}{
		{"along X", v(1, 0, 0), v(0, nul, -1), v(nul, 1, 0)},
		{"along Y", v(0, 1, 0), v(1, nul, 0), v(nul, 0, -1)},
		{"back along X", v(-1, 0, 0), v(0, 0, 1), v(0, 1, 0)},
		{"back along Y", v(0, -1, 0), v(1, 0, 0), v(0, 0, 1)},
		{"above", v(2, 3, 1), v(-1, -3, -2), v(-3, -3.5, -3)},
		{"below", v(2, 3, -1), v(-1, -3, 2), v(3, 3.5, -3)},
		{"farther below", v(2, 3, -3), v(0, -1.5, 2), v(1.5, 1.25, -3)},
		{"Z is 0", v(2, 3, 0), v(-3, -6, -2), v(-6, -8, -3)},
		{"Z is -0", v(2, 3, nul), v(-3, -6, -2), v(-6, -8, -3)},
		{"Z is just above 0", v(2, 3, tiny), v(-3, -6, -2), v(-6, -8, -3)},
		{"Z is just below 0", v(2, 3, -tiny), v(-3, -6, 2), v(6, 8, -3)},
		{"signs of X and Y", v(-2, 3, 1), v(-1, 3, 2), v(3, -3.5, -3)},
		{"nowhere", v(0, 0, 0), v(1, nul, 0), v(nul, 1, 0)},
	} {
		if got, say := New(c.n), (api.Frame{T: c.t, B: c.b, N: c.n}); !sameFrame(got, say) {
			t.Errorf("%s: %v, not %v", c.name, got, say)
		}
	}
}

func TestNewOfNoDirections(t *testing.T) {
	for _, c := range []struct {
		name    string
		n, t, b api.Vec
	}{
		{"Z is no number", v(2, 3, nan), v(nan, nan, -2), v(nan, nan, -3)},
		{"X is no number", v(nan, 3, 1), v(nan, nan, nan), v(nan, -3.5, -3)},
		{"Y is no number", v(2, nan, -1), v(-1, nan, 2), v(nan, nan, nan)},
		{"Z is infinite", v(2, 3, inf), v(1, nul, -2), v(nul, 1, -3)},
		{"Z is infinite below", v(2, 3, -inf), v(1, nul, 2), v(0, -1, -3)},
		{"X is infinite", v(inf, 0, 1), v(-inf, nan, -inf), v(nan, 1, 0)},
		{"Y is infinite", v(2, -inf, 1), v(-1, inf, -2), v(inf, -inf, inf)},
		{"X and Z are infinite", v(inf, 3, inf), v(nan, nan, -inf), v(nan, 1, -3)},
		{"the product of X and Y is first", v(huge, 2, 1), v(-inf, -inf, -huge), v(-inf, -1, -2)},
		{"the square of X is first", v(1e200, 0, huge), v(-inf, nul, -1e200), v(nul, 1, 0)},
		{"the square of Y is first", v(0, 1e200, huge), v(1, nul, 0), v(nul, -inf, -1e200)},
		{"small squares", v(1e-200, 1e-200, 1), v(1, nul, -1e-200), v(nul, 1, -1e-200)},
	} {
		if got, say := New(c.n), (api.Frame{T: c.t, B: c.b, N: c.n}); !sameFrame(got, say) {
			t.Errorf("%s: %v, not %v", c.name, got, say)
		}
	}
}

// frameOf is the chapter's rule, with products that are exact until they are
// rounded.
func frameOf(n api.Vec) api.Frame {
	s := 1.0
	if n.Z < 0 {
		s = -1
	}
	a := -1 / (s + n.Z)
	b := times(times(n.X, n.Y), a)
	x, y := times(times(times(s, n.X), n.X), a), times(times(n.Y, n.Y), a)
	return api.Frame{T: v(1+x, times(s, b), 0-times(s, n.X)), B: v(b, s+y, 0-n.Y), N: n}
}

func TestNewEverywhere(t *testing.T) {
	for _, n := range vectors() {
		if got, say := New(n), frameOf(n); !sameFrame(got, say) {
			t.Fatalf("New of %v: %v, not %v", n, got, say)
		}
	}
}

func TestNewIsAtRightAngles(t *testing.T) {
	near := func(x, y float64) bool { return math.Abs(x-y) < 1e-14 }
	for _, n := range directions() {
		f := New(n)
		if !near(dot(f.T, f.B), 0) || !near(dot(f.T, f.N), 0) || !near(dot(f.B, f.N), 0) {
			t.Fatalf("of %v: not at right angles: %v", n, f)
		}
		if !near(dot(f.T, f.T), 1) || !near(dot(f.B, f.B), 1) {
			t.Fatalf("of %v: not of length 1: %v", n, f)
		}
		if !near(f.T.X*f.B.Y-f.T.Y*f.B.X, n.Z) || !near(f.T.Y*f.B.Z-f.T.Z*f.B.Y, n.X) || !near(f.T.Z*f.B.X-f.T.X*f.B.Z, n.Y) {
			t.Fatalf("of %v: T, B and N are not in their order: %v", n, f)
		}
	}
}

// P3.2

// primes is a frame of which no two numbers are the same.
var primes = api.Frame{T: api.Vec{X: 1, Y: 2, Z: 3}, B: api.Vec{X: 5, Y: 7, Z: 11}, N: api.Vec{X: 13, Y: 17, Z: 19}}

func TestTo(t *testing.T) {
	up := New(v(0, 0, 1))
	for _, c := range []struct {
		name   string
		f      api.Frame
		v, say api.Vec
	}{
		{"the document's", up, v(3, -4, 5), v(3, -4, 5)},
		{"along X", New(v(1, 0, 0)), v(5, 6, 7), v(-7, 6, 5)},
		{"a frame as it comes", primes, v(23, 29, 31), v(174, 659, 1381)},
		{"no frame", api.Frame{}, v(1, 2, 3), v(0, 0, 0)},
		{"X and Y are added first", api.Frame{T: v(1e16, -1e16, 1), B: v(1e16, 1, 1), N: v(1, 1, 1e16)}, v(1, 1, 1), v(1, 1e16, 1e16+2)},
		{"products are rounded", api.Frame{T: v(over, -1, 0), B: v(-1, over, 0), N: v(-1, 0, over)}, v(under, under, under), v(1-under, 1-under, 1-under)},
		{"too great on the way", primes, v(huge, huge, -huge), v(nan, nan, nan)},
		{"no number", up, v(1, nan, 3), v(nan, nan, nan)},
		{"infinite", up, v(inf, 1, 2), v(inf, nan, nan)},
		{"a frame of no numbers", api.Frame{T: v(nan, 0, 0), B: v(0, inf, 0), N: v(0, 0, 1)}, v(1, 2, 3), v(nan, inf, 3)},
	} {
		if got := To(c.f, c.v); !alike(got, c.say) {
			t.Errorf("%s: %v, not %v", c.name, got, c.say)
		}
	}
	for _, a := range vectors() {
		if finite(a.X) && finite(a.Y) && finite(a.Z) && !alike(To(up, a), a) {
			t.Errorf("To of the frame of 0 0 1: %v, not %v", To(up, a), a)
		}
	}
}

func TestFrom(t *testing.T) {
	up := New(v(0, 0, 1))
	for _, c := range []struct {
		name   string
		f      api.Frame
		v, say api.Vec
	}{
		{"up", up, v(3, -4, 5), v(3, -4, 5)},
		{"along X", New(v(1, 0, 0)), v(-7, 6, 5), v(5, 6, 7)},
		{"a frame as it comes", primes, v(23, 29, 31), v(571, 776, 977)},
		{"no frame", api.Frame{}, v(1, 2, 3), v(0, 0, 0)},
		{"T and B are added first", api.Frame{T: v(1e16, 1, 1), B: v(-1e16, 1, 1e16), N: v(1, 1e16, 1)}, v(1, 1, 1), v(1, 1e16+2, 1e16)},
		{"products are rounded", api.Frame{T: v(over, -1, -1), B: v(-1, over, 0), N: v(0, 0, over)}, v(under, under, under), v(1-under, 1-under, 1-under)},
		{"zeros below 0 stay", api.Frame{T: v(nul, nul, 0), B: v(nul, nul, nul), N: v(nul, 0, nul)}, v(1, 2, 3), v(nul, 0, 0)},
		{"no number", up, v(1, nan, 3), v(nan, nan, nan)},
		{"infinite", up, v(inf, 1, 2), v(inf, nan, nan)},
		{"a frame of no numbers", api.Frame{T: v(nan, 0, 0), B: v(0, inf, 0), N: v(0, 0, 1)}, v(1, 2, 3), v(nan, inf, 3)},
	} {
		if got := From(c.f, c.v); !alike(got, c.say) {
			t.Errorf("%s: %v, not %v", c.name, got, c.say)
		}
	}
}

// shares is the chapter's rule of From for one part.
func shares(t, b, n float64, a api.Vec) float64 {
	tb := times(t, a.X) + times(b, a.Y)
	return tb + times(n, a.Z)
}

func TestToFromEverywhere(t *testing.T) {
	all := vectors()
	for i, a := range all {
		for j := range 40 {
			b, n := all[(i*31+j*17+5)%len(all)], all[(i*7+j*53+11)%len(all)]
			f := api.Frame{T: all[(i*13+j*29)%len(all)], B: b, N: n}
			if got, say := To(f, a), v(dot(a, f.T), dot(a, f.B), dot(a, f.N)); !sameVec(got, say) {
				t.Fatalf("To of %v, %v: %v, not %v", f, a, got, say)
			}
			say := v(shares(f.T.X, f.B.X, f.N.X, a), shares(f.T.Y, f.B.Y, f.N.Y, a), shares(f.T.Z, f.B.Z, f.N.Z, a))
			if got := From(f, a); !sameVec(got, say) {
				t.Fatalf("From of %v, %v: %v, not %v", f, a, got, say)
			}
		}
	}
}

func TestThereAndBack(t *testing.T) {
	all := directions()
	for i, n := range all {
		f, a := New(n), all[(i*37+5)%len(all)]
		back := From(f, To(f, a))
		if math.Abs(back.X-a.X)+math.Abs(back.Y-a.Y)+math.Abs(back.Z-a.Z) > 1e-14 {
			t.Fatalf("of %v: %v came back as %v", n, a, back)
		}
	}
}

// P3.3

func TestCosMirror(t *testing.T) {
	for _, x := range edges {
		if got := Cos(v(2, 3, x)); !bits(got, x) {
			t.Errorf("Cos of Z %v: %v", x, got)
		}
		for _, a := range []api.Vec{v(x, 2, 3), v(2, x, -3), v(2, -3, x), v(x, x, x)} {
			if got, say := Mirror(a), v(0-a.X, 0-a.Y, a.Z); !sameVec(got, say) {
				t.Errorf("Mirror of %v: %v, not %v", a, got, say)
			}
		}
	}
	for _, c := range []struct{ v, say api.Vec }{
		{v(1, -2, 3), v(-1, 2, 3)},
		{v(-0.5, 0.25, -1), v(0.5, -0.25, -1)},
		{v(0, nul, nul), v(0, 0, nul)},
		{v(inf, -inf, inf), v(-inf, inf, inf)},
		{v(nan, 1, -inf), v(nan, -1, -inf)},
	} {
		if got := Mirror(c.v); !sameVec(got, c.say) {
			t.Errorf("Mirror of %v: %v, not %v", c.v, got, c.say)
		}
	}
}

func TestUpper(t *testing.T) {
	above := map[bool][]float64{
		true:  {1, tiny, huge, inf, 0.1},
		false: {0, nul, -tiny, -1, -huge, -inf, nan},
	}
	for first, xs := range above {
		for second, ys := range above {
			for _, x := range xs {
				for _, y := range ys {
					if got := Upper(v(-1, nan, x), v(0, -inf, y)); got != (first && second) {
						t.Errorf("Upper of Z %v, %v: %v", x, y, got)
					}
				}
			}
		}
	}
}

// P3.4

func TestPoles(t *testing.T) {
	for _, c := range []struct{ n, t, b api.Vec }{
		{v(0, 0, 1), v(1, 0, 0), v(0, 1, 0)},
		{v(nul, nul, 1), v(1, 0, 0), v(0, 1, 0)},
		{v(0, 0, -1), v(1, 0, 0), v(0, -1, 0)},
		{v(nul, 0, -1), v(1, 0, 0), v(0, -1, 0)},
	} {
		f := New(c.n)
		if !alike(f.T, c.t) || !alike(f.B, c.b) || f.N != c.n {
			t.Errorf("of %v: %v", c.n, f)
		}
	}
	down := New(v(0, 0, -1))
	if got := To(down, v(2, 3, 5)); got != v(2, -3, -5) {
		t.Errorf("To of the frame of 0 0 -1: %v", got)
	}
}
