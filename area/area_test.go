package area

import (
	"math"
	"math/big"
	"math/rand/v2"
	"testing"

	"penumbra/api"
)

var (
	nan  = math.NaN()
	inf  = math.Inf(1)
	nul  = math.Copysign(0, -1)
	huge = math.MaxFloat64
	tiny = math.SmallestNonzeroFloat64
	top  = math.Nextafter(1, 0) // the greatest draw below 1
	bit  = math.Ldexp(1, -40)

	// The product of these two is 1 - 2^-60, and 1, when it is rounded for
	// itself: a product that is joined with a sum shows by that.
	over  = 1 + math.Ldexp(1, -30)
	under = 1 - math.Ldexp(1, -30)
)

// edges are numbers that are tried in every place.
var edges = []float64{inf, -inf, nan, 0, nul, 1, -1, 0.1, -0.3, 3, 49, -2, 1e16, 1e200, -1e200, 1e-200, -1e-310, 1e150, -1e-160, huge, -huge, tiny, -tiny, over, -under}

// grid is ordinary numbers that fall together often.
var grid = []float64{-3, -2, -1.5, -1, -0.7, -0.1, 0, 0.1, 0.3, 1, 1.5, 2, 3}

// sizes are numbers that make triangles and ways of every size.
var sizes = []float64{0, 0, 1, -1, over, -under, 3, 1e75, -1e76, 1e77, 1e153, -1e154, 1e-75, -1e-80, 1e-81, 1e-155, -2e-162, 1e-300}

// draws are of every kind; wrong ones count as 0.
var (
	draws = []float64{0, nul, tiny, 1e-200, math.Ldexp(1, -53), 0.1, 0.25, 1.0 / 3, 0.5, 0.7, 1 - bit, top}
	wrong = []float64{1, math.Nextafter(1, 2), 1.5, 8, huge, inf, -tiny, -0.5, -1, -huge, -inf, nan}
)

func v(x, y, z float64) api.Vec { return api.Vec{X: x, Y: y, Z: z} }

func shape(a, b, c api.Vec) api.Tri { return api.Tri{A: a, B: b, C: c} }

var (
	zero   = v(0, 0, 0)
	corner = shape(zero, v(1, 0, 0), v(0, 1, 0))
	// large has edges of 8 along X, and of 8 and 16 along Y and Z.
	large = shape(v(1, 2, 3), v(9, 2, 3), v(1, 10, 19))
	// askew looks along 0 0.8 -0.6, and has an area of 12.5.
	askew = shape(v(1, 1, 1), v(1, 4, 5), v(6, 1, 1))
)

// legs is a triangle at 0 that looks along Z, with edges along X and Y, so long.
func legs(x, y float64) api.Tri { return shape(zero, v(x, 0, 0), v(0, y, 0)) }

func pow(n int) float64 { return math.Ldexp(1, n) }

// alike tells whether both are no numbers, or equal, as the document has it: 0
// and -0 are the same.
func alike(x, y float64) bool { return x == y || x != x && y != y }

func alikeVec(a, b api.Vec) bool { return alike(a.X, b.X) && alike(a.Y, b.Y) && alike(a.Z, b.Z) }

func finite(x float64) bool { return x >= -huge && x <= huge }

// times multiplies finite numbers by way of exact ones, rounded once.
func times(x, y float64) float64 {
	if !finite(x) || !finite(y) {
		return x * y
	}
	p, _ := new(big.Float).SetPrec(200).Mul(big.NewFloat(x), big.NewFloat(y)).Float64()
	return p
}

// The model is the chapter, and what it names of others, word for word.

func less(a, b api.Vec) api.Vec { return v(a.X-b.X, a.Y-b.Y, a.Z-b.Z) }

func dot(a, b api.Vec) float64 {
	xy := times(a.X, b.X) + times(a.Y, b.Y)
	return xy + times(a.Z, b.Z)
}

func length(a api.Vec) float64 { return math.Sqrt(dot(a, a)) }

func unit(a api.Vec) (api.Vec, bool) {
	l := length(a)
	if l > 0 && finite(l) {
		return v(a.X/l, a.Y/l, a.Z/l), true
	}
	return zero, false
}

func upright(t api.Tri) api.Vec {
	e, f := less(t.B, t.A), less(t.C, t.A)
	return v(times(e.Y, f.Z)-times(e.Z, f.Y), times(e.Z, f.X)-times(e.X, f.Z), times(e.X, f.Y)-times(e.Y, f.X))
}

func drawSays(u float64) float64 {
	if u >= 0 && u < 1 {
		return u
	}
	return 0
}

func pointSays(t api.Tri, u, w float64) api.Vec {
	r, share := math.Sqrt(drawSays(u)), drawSays(w)
	second, third := times(r, 1-share), times(r, share)
	part := func(a, b, c float64) float64 {
		e, f := b-a, c-a
		first := a + times(e, second)
		return first + times(f, third)
	}
	return v(part(t.A.X, t.B.X, t.C.X), part(t.A.Y, t.B.Y, t.C.Y), part(t.A.Z, t.B.Z, t.C.Z))
}

func densitySays(t api.Tri) float64 {
	area := times(length(upright(t)), 0.5)
	if !(area > 0) {
		return 0
	}
	if d := 1 / area; finite(d) {
		return d
	}
	return 0
}

func lookSays(from, to api.Vec) (api.Vec, float64, bool) {
	way := less(to, from)
	d, ok := unit(way)
	return d, dot(way, way), ok
}

func cosineSays(t api.Tri, from, to api.Vec) float64 {
	d, _, looks := lookSays(from, to)
	n, stands := unit(upright(t))
	if !looks || !stands {
		return 0
	}
	return 0 - dot(d, n)
}

func solidSays(t api.Tri, from, to api.Vec) float64 {
	_, far, _ := lookSays(from, to)
	c := cosineSays(t, from, to)
	if !(c > 0) {
		return 0
	}
	p := times(densitySays(t), far)
	if s := p / c; finite(s) {
		return s
	}
	return 0
}

func frontSays(t api.Tri, from api.Vec) bool {
	n, stands := unit(upright(t))
	return stands && dot(n, less(from, t.A)) > 0
}

// picker makes a function that picks one of xs, always in the same order.
func picker(xs []float64) func() float64 {
	r := rand.New(rand.NewPCG(11, uint64(len(xs))))
	return func() float64 { return xs[r.IntN(len(xs))] }
}

// spoilt are copies of a triangle with x in the place of each of its parts.
func spoilt(t api.Tri, x float64) []api.Tri {
	l := []api.Tri{}
	for k := range 9 {
		s := t
		*[]*float64{&s.A.X, &s.A.Y, &s.A.Z, &s.B.X, &s.B.Y, &s.B.Z, &s.C.X, &s.C.Y, &s.C.Z}[k] = x
		l = append(l, s)
	}
	return l
}

// spoiltVecs are copies of a vector with x in the place of each of its parts.
func spoiltVecs(a api.Vec, x float64) []api.Vec {
	return []api.Vec{v(x, a.Y, a.Z), v(a.X, x, a.Z), v(a.X, a.Y, x)}
}

// scenes calls with triangles, and with two points: any, some of the triangle,
// some in its plane.
func scenes(each func(t api.Tri, from, to api.Vec)) {
	r := rand.New(rand.NewPCG(11, 1))
	for _, xs := range [][]float64{grid, grid, edges, sizes, sizes} {
		pick := picker(xs)
		vec := func() api.Vec { return v(pick(), pick(), pick()) }
		for range 12000 {
			t := shape(vec(), vec(), vec())
			if r.IntN(4) == 0 { // level with two axes
				z := pick()
				t.A.Z, t.B.Z, t.C.Z = z, z, z
			}
			points := []api.Vec{vec(), vec(), t.A, pointSays(t, r.Float64(), r.Float64())}
			each(t, points[r.IntN(4)], points[r.IntN(4)])
		}
	}
	for _, x := range edges {
		for _, s := range append(spoilt(askew, x), spoilt(corner, x)...) {
			each(s, v(2, 3, 4), s.A)
			each(s, v(2, 3, -4), v(0.25, 0.5, 0))
		}
		for _, s := range spoiltVecs(v(1, 2, 3), x) {
			each(askew, s, askew.A)
			each(corner, s, v(0.25, 0.5, 0))
			each(corner, v(0.25, 0.5, 1), s)
			each(corner, s, s)
		}
	}
}

// P11.1

func TestPoint(t *testing.T) {
	line := shape(v(1, 1, 1), v(9, 9, 9), v(17, 17, 17))
	for _, c := range []struct {
		name string
		t    api.Tri
		u, w float64
		say  api.Vec
	}{
		{"the corner A", large, 0, 0, large.A},
		{"the corner A, whatever the second draw", large, 0, 0.75, large.A},
		{"on the edge from A to B", large, 0.25, 0, v(5, 2, 3)},
		{"between", large, 0.25, 0.25, v(4, 3, 5)},
		{"nearer to C", large, 0.25, 0.75, v(2, 5, 9)},
		{"far from A", large, 0.5625, 0.5, v(4, 5, 9)},
		{"just below C", corner, top, top, v(0x1p-53-0x1p-106, 1-0x1p-52, 0)},
		{"just below B", corner, top, 0, v(1-0x1p-53, 0, 0)},
		{"a first draw of 1 counts as 0", large, 1, 0.25, large.A},
		{"a second draw of 1 counts as 0", large, 0.25, 1, v(5, 2, 3)},
		{"both of 1", large, 1, 1, large.A},
		{"a first draw above 1", large, 1.25, 0.25, large.A},
		{"a second draw above 1", large, 0.25, 1.25, v(5, 2, 3)},
		{"a first draw below 0", large, -0.25, 0.25, large.A},
		{"a second draw below 0", large, 0.25, -0.25, v(5, 2, 3)},
		{"a first draw that is no number", large, nan, 0.25, large.A},
		{"a second draw that is no number", large, 0.25, nan, v(5, 2, 3)},
		{"an infinite first draw", large, inf, 0.25, large.A},
		{"an infinite second draw", large, 0.25, -inf, v(5, 2, 3)},
		{"of one point", shape(v(1, 2, 3), v(1, 2, 3), v(1, 2, 3)), 0.25, 0.25, v(1, 2, 3)},
		{"of a line", line, 0.25, 0.25, v(6, 6, 6)},
		{"no number in A", shape(v(nan, 0, 0), v(8, 8, 8), v(0, 0, 0)), 0.25, 0.25, v(nan, 3, 3)},
		{"no number in B", shape(v(0, 0, 0), v(8, nan, 8), v(0, 0, 0)), 0.25, 0.25, v(3, nan, 3)},
		{"no number in C", shape(v(0, 0, 0), v(0, 0, 0), v(8, 8, nan)), 0.25, 0.25, v(1, 1, nan)},
		{"infinite A", shape(v(inf, 0, 0), v(8, 8, 8), v(0, 0, 0)), 0.25, 0.25, v(nan, 3, 3)},
		{"infinite B and C", shape(v(0, 0, 0), v(inf, inf, 8), v(inf, -inf, 0)), 0.25, 0.25, v(inf, nan, 3)},
		{"an infinite edge", shape(v(-huge, 0, 0), v(huge, 0, 0), v(-huge, 1, 0)), 0.25, 0, v(inf, 0, 0)},
	} {
		if p := Point(c.t, c.u, c.w); !alikeVec(p, c.say) {
			t.Errorf("%s: %v, not %v", c.name, p, c.say)
		}
	}
}

func TestPointIsWhatTheChapterSays(t *testing.T) {
	pick := picker(append(append([]float64{}, draws...), wrong...))
	scenes(func(x api.Tri, _, _ api.Vec) {
		u, w := pick(), pick()
		if p, say := Point(x, u, w), pointSays(x, u, w); !alikeVec(p, say) {
			t.Errorf("%v, %v %v: %v, not %v", x, u, w, p, say)
		}
	})
	r := rand.New(rand.NewPCG(11, 2))
	for range 20000 {
		u, w := r.Float64(), r.Float64()
		if p, say := Point(askew, u, w), pointSays(askew, u, w); p != say {
			t.Errorf("%v %v: %v, not %v", u, w, p, say)
		}
	}
}

func TestAWrongDrawCountsAsZero(t *testing.T) {
	for _, x := range []api.Tri{corner, large, askew} {
		for _, bad := range wrong {
			for _, good := range append(draws, wrong...) {
				if p := Point(x, bad, good); p != x.A {
					t.Errorf("%v, %v %v: %v", x, bad, good, p)
				}
				if p := Point(x, good, bad); p != Point(x, good, 0) {
					t.Errorf("%v, %v %v: %v", x, good, bad, p)
				}
			}
		}
	}
}

// Of draws that lie evenly the points lie evenly, too: their mean is that of
// the corners, and a quarter of them is in each of the four like parts.
func TestPointsLieEvenly(t *testing.T) {
	const n = 256
	mean, parts := zero, [4]int{}
	for i := range n * n {
		p := Point(large, (float64(i/n)+0.5)/n, (float64(i%n)+0.5)/n)
		b, c := (p.X-1)/8, (p.Y-2)/8
		if b < 0 || c < 0 || b+c > 1 || math.Abs((p.Z-3)/16-c) > bit {
			t.Fatalf("%v is not of the triangle", p)
		}
		mean = v(mean.X+p.X, mean.Y+p.Y, mean.Z+p.Z)
		switch {
		case b > 0.5:
			parts[1]++
		case c > 0.5:
			parts[2]++
		case b+c > 0.5:
			parts[3]++
		default:
			parts[0]++
		}
	}
	for _, d := range []float64{mean.X/(n*n) - 11.0/3, mean.Y/(n*n) - 14.0/3, mean.Z/(n*n) - 25.0/3} {
		if math.Abs(d) > 0.01 {
			t.Errorf("the mean is off by %v", d)
		}
	}
	for k, count := range parts {
		if math.Abs(float64(count)/(n*n)-0.25) > 0.01 {
			t.Errorf("part %d has %d points of %d", k, count, n*n)
		}
	}
}

func TestDensity(t *testing.T) {
	for _, c := range []struct {
		name string
		t    api.Tri
		say  float64
	}{
		{"example 1", corner, 2},
		{"the corners the other way round", shape(corner.A, corner.C, corner.B), 2},
		{"an area above 1", legs(4, 8), 1.0 / 16},
		{"askew", askew, 0.08},
		{"an area of 1", legs(1, 2), 1},
		{"an area of 1.5, rounded", legs(1, 3), 2.0 / 3},
		{"one point", shape(v(1, 2, 3), v(1, 2, 3), v(1, 2, 3)), 0},
		{"the point 0", api.Tri{}, 0},
		{"A is B", shape(v(1, 2, 3), v(1, 2, 3), v(4, 5, 7)), 0},
		{"A is C", shape(v(1, 2, 3), v(4, 5, 7), v(1, 2, 3)), 0},
		{"B is C", shape(v(1, 2, 3), v(4, 5, 7), v(4, 5, 7)), 0},
		{"on an axis", shape(v(0, 0, 0), v(1, 0, 0), v(2, 0, 0)), 0},
		{"on a line", shape(v(1, 1, 1), v(2, 3, 4), v(4, 7, 10)), 0},
		{"almost on a line", shape(v(0, 0, 0), v(1, 0, 0), v(2, bit, 0)), pow(41)},
		{"the smallest one whose area is above 0", legs(pow(-268), pow(-269)), pow(538)},
		{"so small that 1 by its area is not finite", legs(pow(-269), pow(-269)), 0},
		{"so small that a product is 0", legs(1e-200, 1e-200), 0},
		{"one of the greatest whose area is finite", legs(pow(255), pow(256)), pow(-510)},
		{"so great that its area is infinite", legs(pow(256), pow(256)), 0},
		{"so great that a product is infinite", legs(1e200, 1e200), 0},
		{"so great that an edge is infinite", shape(v(-huge, 0, 0), v(huge, 0, 0), v(-huge, 1, 0)), 0},
		{"of two infinite products the difference is none", shape(v(0, 0, 0), v(1e200, 1e200, 0), v(1e200, 1e200, 0)), 0},
		{"infinite", shape(v(0, 0, 0), v(inf, 0, 0), v(0, 1, 0)), 0},
		{"no number", shape(v(0, 0, 0), v(1, 0, 0), v(0, nan, 0)), 0},
	} {
		if d := Density(c.t); d != c.say {
			t.Errorf("%s: %v, not %v", c.name, d, c.say)
		}
	}
}

func TestDensityIsWhatTheChapterSays(t *testing.T) {
	none, some := 0, 0
	scenes(func(x api.Tri, _, _ api.Vec) {
		d, say := Density(x), densitySays(x)
		if d != say {
			t.Errorf("%v: %v, not %v", x, d, say)
		}
		if d == 0 {
			none++
		} else {
			some++
		}
	})
	if none < 1000 || some < 1000 {
		t.Errorf("%d triangles of no density, %d others: too few", none, some)
	}
}

func TestDensityIsNoneOfATriangleWithAPartThatIsNoFiniteNumber(t *testing.T) {
	for _, x := range []float64{nan, inf, -inf} {
		for _, s := range append(spoilt(askew, x), spoilt(corner, x)...) {
			if d := Density(s); d != 0 {
				t.Errorf("%v: %v", s, d)
			}
		}
	}
}

// P11.2

func TestLook(t *testing.T) {
	for _, c := range []struct {
		name     string
		from, to api.Vec
		d        api.Vec
		far      float64
		ok       bool
	}{
		{"down, as in example 1", v(0, 0, 2), zero, v(0, 0, -1), 4, true},
		{"from 0", zero, v(3, 0, 4), v(0.6, 0, 0.8), 25, true},
		{"the other way round", v(3, 0, 4), zero, v(-0.6, 0, -0.8), 25, true},
		{"from elsewhere", v(1, 2, 3), v(1, -1, 7), v(0, -0.6, 0.8), 25, true},
		{"of length 1", v(1, 2, 3), v(2, 2, 3), v(1, 0, 0), 1, true},
		{"of all parts", v(1, 1, 1), v(2, 3, 3), v(1.0/3, 2.0/3, 2.0/3), 9, true},
		{"at one place", v(1, 2, 3), v(1, 2, 3), zero, 0, false},
		{"at 0", zero, zero, zero, 0, false},
		{"at 0 and -0", zero, v(nul, nul, nul), zero, 0, false},
		{"at one place that is far", v(1e300, huge, -1e200), v(1e300, huge, -1e200), zero, 0, false},
		{"as near as may be for a direction", zero, v(pow(-537), 0, 0), v(1, 0, 0), pow(-1074), true},
		{"too near", zero, v(pow(-538), 0, 0), zero, 0, false},
		{"too near, all parts", v(tiny, 1e-200, -1e-180), zero, zero, 0, false},
		{"near, and the length is rounded", zero, v(1.5*pow(-537), 0, 0), v(1.5/math.Sqrt2, 0, 0), pow(-1073), true},
		{"as far as may be for a direction", zero, v(0, pow(511), 0), v(0, 1, 0), pow(1022), true},
		{"too far", zero, v(0, pow(512), 0), zero, inf, false},
		{"too far by two parts", zero, v(0, 1e154, -1e154), zero, inf, false},
		{"so far that a part is infinite", v(huge, 0, 0), v(-huge, 0, 0), zero, inf, false},
		{"infinite to", v(1, 2, 3), v(1, inf, 3), zero, inf, false},
		{"infinite from", v(-inf, 2, 3), v(1, 2, 3), zero, inf, false},
		{"both infinite, as far as each other", v(inf, 0, 0), v(inf, 0, 0), zero, nan, false},
		{"both infinite, apart", v(-inf, 0, 0), v(inf, 0, 0), zero, inf, false},
		{"no number in from", v(0, nan, 0), v(1, 1, 1), zero, nan, false},
		{"no number in to", v(0, 0, 0), v(1, 1, nan), zero, nan, false},
		{"no number, and infinite", v(nan, 0, 0), v(0, inf, 0), zero, nan, false},
	} {
		if d, far, ok := Look(c.from, c.to); !alikeVec(d, c.d) || !alike(far, c.far) || ok != c.ok {
			t.Errorf("%s: %v %v %v, not %v %v %v", c.name, d, far, ok, c.d, c.far, c.ok)
		}
	}
}

func TestLookIsWhatTheChapterSays(t *testing.T) {
	with, without := 0, 0
	scenes(func(_ api.Tri, from, to api.Vec) {
		d, far, ok := Look(from, to)
		say, square, looks := lookSays(from, to)
		if !alikeVec(d, say) || !alike(far, square) || ok != looks {
			t.Errorf("%v to %v: %v %v %v, not %v %v %v", from, to, d, far, ok, say, square, looks)
		}
		if ok {
			with++
		} else {
			without++
		}
	})
	if with < 1000 || without < 1000 {
		t.Errorf("%d looks with a direction, %d without: too few", with, without)
	}
}

func TestCosine(t *testing.T) {
	flat := shape(v(0, 0, 0), v(1, 0, 0), v(2, 0, 0))
	for _, c := range []struct {
		name     string
		t        api.Tri
		from, to api.Vec
		say      float64
	}{
		{"example 1", corner, v(0, 0, 2), zero, 1},
		{"at the front, askew", corner, v(3, 0, 4), zero, 0.8},
		{"at the front, at a point of it", corner, v(0.25, 3.5, 4), v(0.25, 0.5, 0), 0.8},
		{"at the front, flatly", corner, v(4, 0, 3), zero, 0.6},
		{"at the back", corner, v(0, 0, -2), zero, -1},
		{"at the back, askew", corner, v(0, 4, -3), zero, -0.6},
		{"the corners the other way round", shape(corner.A, corner.C, corner.B), v(3, 0, 4), zero, -0.8},
		{"of another normal", askew, v(1, 1.8, 0.4), askew.A, 0.8*0.8 + 0.6*0.6},
		{"the way to a point beside it", corner, v(7, 7, 5), v(7, 4, 1), 0.8},
		{"along the plane", corner, v(5, 0, 0), v(0.25, 0.5, 0), 0},
		{"along the plane, from within", corner, v(0.25, 0.25, 0), zero, 0},
		{"along the plane, above it", corner, v(5, 3, 1), v(0, 0, 1), 0},
		{"just ahead of the plane", corner, v(1, 0, pow(-60)), zero, pow(-60)},
		{"just behind the plane", corner, v(1, 0, -pow(-60)), zero, -pow(-60)},
		{"at one place", corner, v(0.25, 0.25, 0), v(0.25, 0.25, 0), 0},
		{"too near", corner, v(0, 0, pow(-538)), zero, 0},
		{"as near as may be", corner, v(0, 0, pow(-537)), zero, 1},
		{"too far", corner, v(0, 0, pow(512)), zero, 0},
		{"as far as may be", corner, v(0, 0, pow(511)), zero, 1},
		{"infinite from", corner, v(0, 0, inf), zero, 0},
		{"infinite to", corner, v(0, 0, 1), v(0, 0, -inf), 0},
		{"no number in from", corner, v(nan, 0, 1), zero, 0},
		{"no number in to", corner, v(0, 0, 1), v(0, nan, 0), 0},
		{"no normal, on a line", flat, v(0, 0, 1), zero, 0},
		{"no normal, one point", api.Tri{}, v(0, 0, 1), zero, 0},
		{"no normal, too small", legs(pow(-269), pow(-269)), v(0, 0, 1), zero, 0},
		{"no normal, too great", legs(pow(256), pow(256)), v(0, 0, 1), zero, 0},
		{"no normal, no number", shape(zero, v(1, 0, nan), v(0, 1, 0)), v(0, 0, 1), zero, 0},
		{"neither of both", api.Tri{}, zero, zero, 0},
		{"neither of both, no numbers", shape(zero, v(1, 0, nan), v(0, 1, 0)), v(0, 0, nan), zero, 0},
	} {
		if x := Cosine(c.t, c.from, c.to); x != c.say {
			t.Errorf("%s: %v, not %v", c.name, x, c.say)
		}
	}
}

func TestCosineIsWhatTheChapterSays(t *testing.T) {
	signs := map[string]int{}
	scenes(func(x api.Tri, from, to api.Vec) {
		c, say := Cosine(x, from, to), cosineSays(x, from, to)
		if c != say {
			t.Errorf("%v, %v to %v: %v, not %v", x, from, to, c, say)
		}
		switch {
		case c > 0:
			signs["above"]++
		case c < 0:
			signs["below"]++
		default:
			signs["0"]++
		}
	})
	if signs["above"] < 1000 || signs["below"] < 1000 || signs["0"] < 1000 {
		t.Errorf("too few of a kind: %v", signs)
	}
}

// P11.3

func TestSolid(t *testing.T) {
	flat := shape(v(0, 0, 0), v(1, 0, 0), v(2, 0, 0))
	for _, c := range []struct {
		name     string
		t        api.Tri
		from, to api.Vec
		say      float64
	}{
		{"example 1", corner, v(0, 0, 2), zero, 8},
		{"nearer", corner, v(0, 0, 1), zero, 2},
		{"of another area", legs(4, 8), v(0, 0, 2), zero, 0.25},
		{"askew", corner, v(3, 0, 4), zero, 62.5},
		{"askew, to a point of it", corner, v(0.25, 3.5, 4), v(0.25, 0.5, 0), 62.5},
		{"flatly", corner, v(1, 0, pow(-60)), zero, pow(61)},
		{"at the back", corner, v(0, 0, -2), zero, 0},
		{"the corners the other way round", shape(corner.A, corner.C, corner.B), v(0, 0, 2), zero, 0},
		{"just behind the plane", corner, v(1, 0, -pow(-60)), zero, 0},
		{"along the plane", corner, v(5, 0, 0), v(0.25, 0.5, 0), 0},
		{"at one place", corner, v(0.25, 0.25, 0), v(0.25, 0.25, 0), 0},
		{"too near", corner, v(0, 0, pow(-538)), zero, 0},
		{"as near as may be", corner, v(0, 0, pow(-537)), zero, pow(-1073)},
		{"too far", legs(pow(255), pow(256)), v(0, 0, pow(512)), zero, 0},
		{"as far as may be", legs(pow(255), pow(256)), v(0, 0, pow(511)), zero, pow(512)},
		{"the density is 0, on a line", flat, v(0, 0, 1), zero, 0},
		{"the density is 0, one point", api.Tri{}, v(0, 0, 1), zero, 0},
		{"the density is 0, too small", legs(pow(-269), pow(-269)), v(0, 0, 1), zero, 0},
		{"the density is 0, too great", legs(pow(256), pow(256)), v(0, 0, 1), zero, 0},
		{"of the smallest one", legs(pow(-268), pow(-269)), v(0, 0, 1), zero, pow(538)},
		{"so small that the product is 0", legs(pow(255), pow(256)), v(0, 0, pow(-300)), zero, 0},
		{"so small that the product is just above 0", legs(pow(255), pow(256)), v(0, 0, pow(-282)), zero, pow(-1074)},
		{"the product is just finite", legs(pow(-268), pow(-269)), v(0, 0, pow(242)), zero, pow(1022)},
		{"the product is infinite", legs(pow(-268), pow(-269)), v(0, 0, pow(243)), zero, 0},
		{"the quotient alone is infinite", legs(pow(-268), pow(-269)), v(pow(242), 0, pow(230)), zero, 0},
		{"the quotient is just finite", legs(pow(-268), pow(-269)), v(pow(227), 0, pow(196)), zero, pow(1023)},
		{"the quotient is just infinite", legs(pow(-268), pow(-269)), v(pow(227), 0, pow(195)), zero, 0},
		{"the product comes first: Len2 by Cosine is infinite", legs(pow(255), pow(256)), v(pow(510), 0, pow(480)), zero, pow(-510 + 1020 + 30)},
		{"the product comes first: Density by Cosine is infinite", legs(pow(-268), pow(-269)), v(pow(-480), 0, pow(-1000)), zero, pow(538 - 960 + 520)},
		{"infinite from", corner, v(0, 0, inf), zero, 0},
		{"infinite to", corner, v(0, 0, 1), v(0, 0, -inf), 0},
		{"no number in from", corner, v(nan, 0, 1), zero, 0},
		{"no number in to", corner, v(0, 0, 1), v(0, nan, 0), 0},
		{"no number in the triangle", shape(zero, v(1, 0, nan), v(0, 1, 0)), v(0, 0, 1), zero, 0},
	} {
		if s := Solid(c.t, c.from, c.to); s != c.say {
			t.Errorf("%s: %v, not %v", c.name, s, c.say)
		}
	}
}

func TestSolidIsWhatTheChapterSays(t *testing.T) {
	some, beyond := 0, 0
	scenes(func(x api.Tri, from, to api.Vec) {
		s, say := Solid(x, from, to), solidSays(x, from, to)
		if s != say {
			t.Errorf("%v, %v to %v: %v, not %v", x, from, to, s, say)
		}
		if s > 0 {
			some++
		} else if densitySays(x) > 0 && cosineSays(x, from, to) > 0 {
			beyond++
		}
	})
	if some < 1000 || beyond < 100 {
		t.Errorf("%d above 0, %d beyond all numbers: too few", some, beyond)
	}
}

// angle is the solid angle of a triangle, by the volume that its corners'
// directions span.
func angle(t api.Tri, from api.Vec) float64 {
	a, b, c := less(t.A, from), less(t.B, from), less(t.C, from)
	volume := dot(a, upright(shape(zero, b, c)))
	la, lb, lc := length(a), length(b), length(c)
	return 2 * math.Atan2(math.Abs(volume), la*lb*lc+dot(a, b)*lc+dot(b, c)*la+dot(c, a)*lb)
}

// The mean of 1 by how probable the looks are is the whole of them: the solid
// angle that the triangle fills.
func TestSolidIsByTheSolidAngle(t *testing.T) {
	const n = 64
	for _, c := range []struct {
		t    api.Tri
		from api.Vec
	}{
		{corner, v(0.25, 0.25, 1)},
		{corner, v(2, 1, 0.5)},
		{large, v(3, 4, 20)},
		{askew, v(2, 5, 1)},
	} {
		sum := 0.0
		for i := range n * n {
			p := Point(c.t, (float64(i/n)+0.5)/n, (float64(i%n)+0.5)/n)
			sum += 1 / Solid(c.t, c.from, p)
		}
		if mean, say := sum/(n*n), angle(c.t, c.from); math.Abs(mean/say-1) > 0.002 {
			t.Errorf("%v from %v: %v, not %v", c.t, c.from, mean, say)
		}
	}
}

func TestFront(t *testing.T) {
	flat := shape(v(0, 0, 0), v(1, 0, 0), v(2, 0, 0))
	up := shape(v(0, 0, 5), v(1, 0, 5), v(0, 1, 5))
	for _, c := range []struct {
		name string
		t    api.Tri
		from api.Vec
		say  bool
	}{
		{"ahead", corner, v(0.25, 0.25, 1), true},
		{"behind", corner, v(0.25, 0.25, -1), false},
		{"the corners the other way round, ahead", shape(corner.A, corner.C, corner.B), v(0.25, 0.25, 1), false},
		{"the corners the other way round, behind", shape(corner.A, corner.C, corner.B), v(0.25, 0.25, -1), true},
		{"ahead, far to the side", corner, v(-100, 300, 0.5), true},
		{"behind, far to the side", corner, v(-100, 300, -0.5), false},
		{"just ahead", corner, v(0.25, 0.25, bit), true},
		{"just behind", corner, v(0.25, 0.25, -bit), false},
		{"ahead of one that is far from 0", up, v(0, 0, 6), true},
		{"behind one that is far from 0", up, v(0, 0, 4), false},
		{"ahead of one askew", askew, v(1, 2, 1), true},
		{"behind one askew", askew, v(1, 1, 2), false},
		{"within the plane, of the triangle", corner, v(0.25, 0.25, 0), false},
		{"within the plane, beside the triangle", corner, v(-7, 9, 0), false},
		{"within the plane, at -0", corner, v(0.25, 0.25, nul), false},
		{"within the plane of one far from 0", up, v(3, 4, 5), false},
		{"the corner A", askew, askew.A, false},
		{"the corner B", corner, corner.B, false},
		{"the corner C", corner, corner.C, false},
		{"ahead, too near for a direction", corner, v(0, 0, tiny), true},
		{"behind, too near for a direction", corner, v(0, 0, -tiny), false},
		{"ahead, too far for a direction", corner, v(1, 2, 1e300), true},
		{"behind, too far for a direction", corner, v(1, 2, -1e300), false},
		{"infinitely far ahead", corner, v(1, 2, inf), true},
		{"infinitely far behind", corner, v(1, 2, -inf), false},
		{"infinitely far to the side", corner, v(inf, 0, 1), false},
		{"no number", corner, v(nan, 0, 1), false},
		{"no number along the normal", corner, v(0, 0, nan), false},
		{"no normal, on a line", flat, v(0, 0, 1), false},
		{"no normal, one point", api.Tri{}, v(1, 1, 1), false},
		{"no normal, too small", legs(pow(-269), pow(-269)), v(0, 0, 1), false},
		{"no normal, too great", legs(pow(256), pow(256)), v(0, 0, 1), false},
		{"no normal, no number", shape(zero, v(1, 0, nan), v(0, 1, 0)), v(0, 0, 1), false},
		{"no normal, and infinitely far", flat, v(inf, inf, inf), false},
	} {
		if got := Front(c.t, c.from); got != c.say {
			t.Errorf("%s: %v", c.name, got)
		}
	}
}

func TestFrontIsWhatTheChapterSays(t *testing.T) {
	ahead, not := 0, 0
	scenes(func(x api.Tri, from, to api.Vec) {
		for _, p := range []api.Vec{from, to, x.A} {
			if got := Front(x, p); got != frontSays(x, p) {
				t.Errorf("%v, %v: %v", x, p, got)
			} else if got {
				ahead++
			} else {
				not++
			}
		}
	})
	if ahead < 1000 || not < 1000 {
		t.Errorf("%d ahead, %d not: too few", ahead, not)
	}
}

// Of whole numbers the side is exact: it is that of the volume, but for a
// triangle that looks nowhere.
func TestFrontIsTheSideOfThePlane(t *testing.T) {
	r := rand.New(rand.NewPCG(11, 3))
	small := func() api.Vec {
		return v(float64(r.IntN(9)-4), float64(r.IntN(9)-4), float64(r.IntN(9)-4))
	}
	sides := map[bool]int{}
	for range 20000 {
		x, p := shape(small(), small(), small()), small()
		volume := dot(upright(x), less(p, x.A))
		if volume == 0 {
			continue // a Normal is rounded: that its Dot is just 0 is not promised
		}
		got := Front(x, p)
		if got != (volume > 0) {
			t.Errorf("%v, %v: %v", x, p, got)
		}
		sides[got]++
	}
	if sides[true] < 1000 || sides[false] < 1000 {
		t.Errorf("too few of a side: %v", sides)
	}
}

func TestExampleOne(t *testing.T) {
	from := v(0, 0, 2)
	if d, c, s := Density(corner), Cosine(corner, from, zero), Solid(corner, from, zero); d != 2 || c != 1 || s != 8 {
		t.Errorf("%v %v %v, not 2 1 8", d, c, s)
	}
}
