package tri

import (
	"math"
	"math/big"
	"math/rand/v2"
	"testing"

	"penumbra/api"
	"penumbra/box"
)

var (
	nan  = math.NaN()
	inf  = math.Inf(1)
	nul  = math.Copysign(0, -1)
	huge = math.MaxFloat64
	tiny = math.SmallestNonzeroFloat64
	bit  = math.Ldexp(1, -40)

	// The product of these two is 1 - 2^-60, and 1, when it is rounded for
	// itself: a product that is joined with a sum shows by that.
	over  = 1 + math.Ldexp(1, -30)
	under = 1 - math.Ldexp(1, -30)
)

// edges are numbers that are tried in every place.
var edges = []float64{inf, -inf, nan, 0, nul, 1, -1, 0.1, -0.3, 3, 49, -2, 1e16, 1e200, -1e200, 1e-200, -1e-310, huge, -huge, tiny, -tiny, over, -under}

func v(x, y, z float64) api.Vec { return api.Vec{X: x, Y: y, Z: z} }

func tri(a, b, c api.Vec) api.Tri { return api.Tri{A: a, B: b, C: c} }

func ray(o, d api.Vec) api.Ray { return api.Ray{O: o, D: d} }

func hit(t, u, v float64) api.Hit { return api.Hit{T: t, U: u, V: v} }

var (
	none   = api.Hit{Tri: -1}
	corner = tri(v(0, 0, 0), v(1, 0, 0), v(0, 1, 0))
	// slant has two edges that lie within its box, and a det that is a power of 2.
	slant = tri(v(0, 0, 0), v(3, 1, 0), v(1, 3, 0))
	// tilted lies within its box, from corner to corner.
	tilted = tri(v(4, 0, 0), v(0, 4, 0), v(0, 0, 4))
)

// down is a ray that goes down at x y from the height 1 on.
func down(x, y float64) api.Ray { return ray(v(x, y, 1), v(0, 0, -1)) }

// alike tells whether both are no numbers, or equal, as the document has it: 0
// and -0 are the same.
func alike(x, y float64) bool { return x == y || x != x && y != y }

func alikeVec(a, b api.Vec) bool { return alike(a.X, b.X) && alike(a.Y, b.Y) && alike(a.Z, b.Z) }

func alikeHit(a, b api.Hit) bool {
	return a.Tri == b.Tri && alike(a.T, b.T) && alike(a.U, b.U) && alike(a.V, b.V)
}

func finite(x float64) bool { return x >= -huge && x <= huge }

// times multiplies finite numbers by way of exact ones, rounded once.
func times(x, y float64) float64 {
	if !finite(x) || !finite(y) {
		return x * y
	}
	p, _ := new(big.Float).SetPrec(200).Mul(big.NewFloat(x), big.NewFloat(y)).Float64()
	return p
}

// The model is the chapter, word for word.

func less(a, b api.Vec) api.Vec { return v(a.X-b.X, a.Y-b.Y, a.Z-b.Z) }

func dot(a, b api.Vec) float64 {
	xy := times(a.X, b.X) + times(a.Y, b.Y)
	return xy + times(a.Z, b.Z)
}

func cross(a, b api.Vec) api.Vec {
	return v(times(a.Y, b.Z)-times(a.Z, b.Y), times(a.Z, b.X)-times(a.X, b.Z), times(a.X, b.Y)-times(a.Y, b.X))
}

func lenSays(t api.Tri) float64 {
	n := cross(less(t.B, t.A), less(t.C, t.A))
	return math.Sqrt(dot(n, n))
}

func normalSays(t api.Tri) (api.Vec, bool) {
	n, l := cross(less(t.B, t.A), less(t.C, t.A)), lenSays(t)
	if l > 0 && finite(l) {
		return v(n.X/l, n.Y/l, n.Z/l), true
	}
	return v(0, 0, 0), false
}

func atSays(t api.Tri, u, w float64) api.Vec {
	part := func(a, b, c float64) float64 {
		e, f := b-a, c-a
		first := a + times(e, u)
		return first + times(f, w)
	}
	return v(part(t.A.X, t.B.X, t.C.X), part(t.A.Y, t.B.Y, t.C.Y), part(t.A.Z, t.B.Z, t.C.Z))
}

// words are the conditions of the chapter, by their names, each with whether it
// holds.
type word struct {
	name  string
	holds bool
}

func meetWords(t api.Tri, r api.Ray) ([]word, api.Hit) {
	near, far, through := box.Through(box.Of(t), r)
	e, f := less(t.B, t.A), less(t.C, t.A)
	p := cross(r.D, f)
	det := dot(e, p)
	i := 1 / det
	s := less(r.O, t.A)
	u := times(dot(s, p), i)
	q := cross(s, e)
	w := times(dot(r.D, q), i)
	far0 := times(dot(f, q), i)
	return []word{
		{"box", through},
		{"det", det > 0 || det < 0},
		{"u from 0", u >= 0},
		{"u to 1", u <= 1},
		{"v not below 0", w >= 0},
		{"u and v", u+w <= 1},
		{"near", far0 >= near},
		{"far", far0 <= far},
		{"above 0", far0 > 0},
	}, hit(far0, u, w)
}

func meetSays(t api.Tri, r api.Ray) (api.Hit, bool) {
	words, h := meetWords(t, r)
	for _, w := range words {
		if !w.holds {
			return none, false
		}
	}
	return h, true
}

// picker makes a function that picks one of xs, always in the same order.
func picker(xs []float64) func() float64 {
	r := rand.New(rand.NewPCG(10, uint64(len(xs))))
	return func() float64 { return xs[r.IntN(len(xs))] }
}

// grid is ordinary numbers that fall together often.
var grid = []float64{-3, -2, -1.5, -1, -0.7, -0.1, 0, 0.1, 0.3, 1, 1.5, 2, 3}

// triangles calls with many triangles whose parts are of xs.
func triangles(n int, xs []float64, each func(t api.Tri)) {
	pick := picker(xs)
	vec := func() api.Vec { return v(pick(), pick(), pick()) }
	for range n {
		each(tri(vec(), vec(), vec()))
	}
}

// spoilt are copies of a triangle with x in the place of each of its parts.
func spoilt(t api.Tri, x float64) []api.Tri {
	l := []api.Tri{}
	for k := range 9 {
		s := t
		*[]*float64{&s.A.X, &s.A.Y, &s.A.Z, &s.B.X, &s.B.Y, &s.B.Z, &s.C.X, &s.C.Y, &s.C.Z}[k] = x
		l = append(l, s)
	}
	return l
}

// aimed calls with triangles, and rays that go to places on them, on their
// corners and edges, and close by.
func aimed(n int, each func(t api.Tri, r api.Ray)) {
	r := rand.New(rand.NewPCG(10, 7))
	places := []float64{0, 0, 1, 0.5, 0.25, -bit, bit, 1 + bit, 1 - bit, 0.3, 0.7, -0.2}
	sizes := []float64{1, 1, 1, 3, 1e-3, 1e5}
	number := func() float64 {
		if r.IntN(3) > 0 {
			return grid[r.IntN(len(grid))]
		}
		return 6*r.Float64() - 3
	}
	vec := func() api.Vec { return v(number(), number(), number()) }
	for range n {
		t := tri(vec(), vec(), vec())
		if r.IntN(3) == 0 { // level with two axes: its box has no depth
			z := number()
			t.A.Z, t.B.Z, t.C.Z = z, z, z
		}
		to := atSays(t, places[r.IntN(len(places))], places[r.IntN(len(places))])
		o := vec()
		d, size := less(to, o), sizes[r.IntN(len(sizes))]
		each(t, ray(o, v(d.X*size, d.Y*size, d.Z*size)))
	}
}

// P10.1

func TestEdges(t *testing.T) {
	for _, c := range []struct {
		name string
		t    api.Tri
		e, f api.Vec
	}{
		{"from A to B, and to C", tri(v(1, 2, 3), v(5, 4, 4), v(0, 8, 10)), v(4, 2, 1), v(-1, 6, 7)},
		{"from 0", corner, v(1, 0, 0), v(0, 1, 0)},
		{"one point", tri(v(1, 2, 3), v(1, 2, 3), v(1, 2, 3)), v(0, 0, 0), v(0, 0, 0)},
		{"rounded", tri(v(1, 1, 1), v(1e16, 0.1, -1e16), v(1e300, 1, over)), v(1e16, -0.9, -1e16), v(1e300, 0, math.Ldexp(1, -30))},
		{"too great", tri(v(-huge, huge, 0), v(huge, -huge, 0), v(0, 0, 0)), v(inf, -inf, 0), v(huge, -huge, 0)},
		{"infinite", tri(v(inf, 0, -inf), v(inf, inf, 0), v(0, -inf, -inf)), v(nan, inf, inf), v(-inf, -inf, nan)},
		{"no numbers", tri(v(nan, 0, 0), v(0, nan, 0), v(0, 0, nan)), v(nan, nan, 0), v(nan, 0, nan)},
	} {
		if e, f := Edges(c.t); !alikeVec(e, c.e) || !alikeVec(f, c.f) {
			t.Errorf("%s: %v %v, not %v %v", c.name, e, f, c.e, c.f)
		}
	}
}

// flats are triangles that look nowhere.
var flats = []struct {
	name string
	t    api.Tri
	area float64
}{
	{"one point", tri(v(1, 2, 3), v(1, 2, 3), v(1, 2, 3)), 0},
	{"the point 0", api.Tri{}, 0},
	{"A is B", tri(v(1, 2, 3), v(1, 2, 3), v(4, 5, 7)), 0},
	{"A is C", tri(v(1, 2, 3), v(4, 5, 7), v(1, 2, 3)), 0},
	{"B is C", tri(v(1, 2, 3), v(4, 5, 7), v(4, 5, 7)), 0},
	{"on an axis", tri(v(0, 0, 0), v(1, 0, 0), v(2, 0, 0)), 0},
	{"on a line", tri(v(1, 1, 1), v(2, 3, 4), v(4, 7, 10)), 0},
	{"on a line, A between", tri(v(2, 3, 4), v(1, 1, 1), v(4, 7, 10)), 0},
	{"so small that a product is 0", tri(v(0, 0, 0), v(1e-200, 0, 0), v(0, 1e-200, 0)), 0},
	{"so small that a square is 0", tri(v(0, 0, 0), v(1e-100, 0, 0), v(0, 1e-100, 0)), 0},
	{"so great that a product is infinite", tri(v(0, 0, 0), v(1e200, 0, 0), v(0, 1e200, 0)), inf},
	{"so great that a square is infinite", tri(v(0, 0, 0), v(1e100, 0, 0), v(0, 1e100, 0)), inf},
	{"so great that an edge is infinite", tri(v(-huge, 0, 0), v(huge, 0, 0), v(-huge, 1, 0)), nan},
	{"so great that two products are infinite", tri(v(0, 0, 0), v(1e200, 1e200, 0), v(-1e200, 1e200, 0)), inf},
	{"of two infinite products the difference is none", tri(v(0, 0, 0), v(1e200, 1e200, 0), v(1e200, 1e200, 0)), nan},
	{"infinite", tri(v(0, 0, 0), v(inf, 0, 0), v(0, 1, 0)), nan},
	{"no number", tri(v(0, 0, 0), v(1, 0, 0), v(0, nan, 0)), nan},
}

func TestOfATriangleThatLooksNowhere(t *testing.T) {
	for _, c := range flats {
		if n, ok := Normal(c.t); n != (api.Vec{}) || ok {
			t.Errorf("%s: Normal %v %v", c.name, n, ok)
		}
		if !Flat(c.t) {
			t.Errorf("%s: not flat", c.name)
		}
		if a := Area(c.t); !alike(a, c.area) {
			t.Errorf("%s: Area %v, not %v", c.name, a, c.area)
		}
	}
}

func TestOfATriangleThatLooksSomewhere(t *testing.T) {
	for _, c := range []struct {
		name string
		t    api.Tri
		n    api.Vec
		area float64
	}{
		{"up", corner, v(0, 0, 1), 0.5},
		{"the corners the other way round", tri(corner.A, corner.C, corner.B), v(0, 0, -1), 0.5},
		{"along X", tri(v(2, 0, 0), v(2, 3, 0), v(2, 0, 4)), v(1, 0, 0), 6},
		{"along Y", tri(v(0, 7, 0), v(0, 7, 4), v(2, 7, 0)), v(0, 1, 0), 4},
		{"askew", tri(v(1, 1, 1), v(1, 4, 5), v(6, 1, 1)), v(0, 0.8, -0.6), 12.5},
		{"an edge on the other's way", slant, v(0, 0, 1), 4},
		{"great", tri(v(0, 0, 0), v(0x1p200, 0, 0), v(0, 0x1p201, 0)), v(0, 0, 1), 0x1p400},
		{"small", tri(v(0, 0, 0), v(0x1p-200, 0, 0), v(0, 0x1p-201, 0)), v(0, 0, 1), 0x1p-402},
		{"almost on a line", tri(v(0, 0, 0), v(1, 0, 0), v(2, bit, 0)), v(0, 0, 1), bit / 2},
	} {
		if n, ok := Normal(c.t); !alikeVec(n, c.n) || !ok {
			t.Errorf("%s: Normal %v %v, not %v", c.name, n, ok, c.n)
		}
		if Flat(c.t) {
			t.Errorf("%s: flat", c.name)
		}
		if a := Area(c.t); a != c.area {
			t.Errorf("%s: Area %v, not %v", c.name, a, c.area)
		}
	}
}

func TestEdgesNormalAreaAndFlatAreWhatTheChapterSays(t *testing.T) {
	nowhere, somewhere := 0, 0
	ask := func(x api.Tri) {
		e, f := Edges(x)
		if !alikeVec(e, less(x.B, x.A)) || !alikeVec(f, less(x.C, x.A)) {
			t.Errorf("Edges of %v: %v %v", x, e, f)
		}
		say, look := normalSays(x)
		if n, ok := Normal(x); !alikeVec(n, say) || ok != look {
			t.Errorf("Normal of %v: %v %v, not %v %v", x, n, ok, say, look)
		}
		if Flat(x) == look {
			t.Errorf("Flat of %v: %v", x, !look)
		}
		if a := Area(x); !alike(a, times(lenSays(x), 0.5)) {
			t.Errorf("Area of %v: %v, not %v", x, a, times(lenSays(x), 0.5))
		}
		if look {
			somewhere++
		} else {
			nowhere++
		}
	}
	triangles(20000, grid, ask)
	triangles(20000, edges, ask)
	triangles(2000, []float64{0, over, under, -1, 0.1, 1e-160, 1e-170}, ask)
	for _, x := range edges {
		for _, s := range append(spoilt(tilted, x), spoilt(corner, x)...) {
			ask(s)
		}
	}
	if nowhere < 1000 || somewhere < 1000 {
		t.Errorf("%d triangles that look nowhere, %d others: too few", nowhere, somewhere)
	}
}

// P10.2

func TestARayMeets(t *testing.T) {
	for _, c := range []struct {
		name string
		t    api.Tri
		r    api.Ray
		say  api.Hit
	}{
		{"example 1", corner, ray(v(0.25, 0.25, 1), v(0, 0, -1)), hit(1, 0.25, 0.25)},
		{"U is B's part, V is C's", corner, down(0.5, 0.125), hit(1, 0.5, 0.125)},
		{"from below", corner, ray(v(0.5, 0.125, -3), v(0, 0, 1)), hit(3, 0.5, 0.125)},
		{"T by the direction's length", corner, ray(v(0.25, 0.25, 1), v(0, 0, -0.25)), hit(4, 0.25, 0.25)},
		{"askew", corner, ray(v(1.25, 0.75, 2), v(-0.5, -0.25, -1)), hit(2, 0.25, 0.25)},
		{"far from 0", tri(v(10, 20, 30), v(12, 20, 30), v(10, 20, 34)), ray(v(10.5, 15, 33), v(0, 10, 0)), hit(0.5, 0.25, 0.75)},
		{"along X", tri(v(2, 0, 0), v(2, 4, 0), v(2, 0, 4)), ray(v(0, 1, 2), v(1, 0, 0)), hit(2, 0.25, 0.5)},
		{"tilted", tilted, ray(v(0, 0, 0), v(1, 2, 1)), hit(1, 0.5, 0.25)},
		{"great", tri(v(0, 0, 0), v(0x1p200, 0, 0), v(0, 0x1p200, 0)), ray(v(0x1p198, 0x1p199, 0x1p200), v(0, 0, -1)), hit(0x1p200, 0.25, 0.5)},
		{"small", tri(v(0, 0, 0), v(0x1p-200, 0, 0), v(0, 0x1p-200, 0)), ray(v(0x1p-202, 0x1p-201, 0x1p-200), v(0, 0, -1)), hit(0x1p-200, 0.25, 0.5)},
		{"the corner A", corner, down(0, 0), hit(1, 0, 0)},
		{"the corner B", corner, down(1, 0), hit(1, 1, 0)},
		{"the corner C", corner, down(0, 1), hit(1, 0, 1)},
		{"the edge from A to B", corner, down(0.5, 0), hit(1, 0.5, 0)},
		{"the edge from A to C", corner, down(0, 0.75), hit(1, 0, 0.75)},
		{"the edge from B to C", corner, down(0.25, 0.75), hit(1, 0.25, 0.75)},
		{"an edge within the box, from A to B", slant, down(1.5, 0.5), hit(1, 0.5, 0)},
		{"an edge within the box, from A to C", slant, down(0.5, 1.5), hit(1, 0, 0.5)},
		{"an edge within the box, from B to C", slant, down(2, 2), hit(1, 0.5, 0.5)},
		{"just within that from A to B", slant, down(1.5, 0.5+bit), hit(1, (4-bit)/8, 3*bit/8)},
		{"just within that from A to C", slant, down(0.5+bit, 1.5), hit(1, 3*bit/8, (4-bit)/8)},
		{"just within that from B to C", slant, down(2-bit, 2), hit(1, (4-3*bit)/8, (4+bit)/8)},
		{"U and V are together rounded to 1", corner, down(0.5, 0.5+0x1p-53), hit(1, 0.5, 0.5+0x1p-53)},
		{"T is near of the box, and not far", tri(v(0, 0, 0), v(1, 0, -1), v(0, 1, -1)), ray(v(0, 0, 2), v(0, 0, -1)), hit(2, 0, 0)},
		{"T is far of the box, and not near", tri(v(0, 0, -1), v(1, 0, 0), v(0, 1, 0)), ray(v(0, 0, 2), v(0, 0, -1)), hit(3, 0, 0)},
		{"T between near and far", tilted, ray(v(-1, -1, -1), v(1, 1, 2)), hit(1.75, 0.1875, 0.625)},
		{"from within the box", tilted, ray(v(2, 2, 2), v(-1, -1, 0)), hit(1, 0.25, 0.5)},
		{"from just ahead of it", corner, ray(v(0.25, 0.25, tiny), v(0, 0, -1)), hit(tiny, 0.25, 0.25)},
		{"T is infinite, and so is far", tri(v(0x1p1000, -2, -2), v(0x1p1000, 2, -2), v(0x1p1000, -2, 2)), ray(v(0, -1, -1), v(0x1p-60, 0, 0)), hit(inf, 0.25, 0.25)},
	} {
		if h, ok := Meet(c.t, c.r); !alikeHit(h, c.say) || !ok {
			t.Errorf("%s: %v %v, not %v", c.name, h, ok, c.say)
		}
	}
}

func missed(t *testing.T, name string, x api.Tri, r api.Ray) {
	t.Helper()
	if h, ok := Meet(x, r); h != none || ok {
		t.Errorf("%s: %v %v is no miss", name, h, ok)
	}
}

func TestARayMisses(t *testing.T) {
	for _, c := range []struct {
		name string
		t    api.Tri
		r    api.Ray
	}{
		{"the box beside", corner, down(2, 0.25)},
		{"the box below", corner, ray(v(0.25, 0.25, -1), v(0, 0, -1))},
		{"the box by a bit", corner, down(-bit, 0.25)},
		{"the triangle, within its box", corner, down(0.75, 0.75)},
		{"just off the edge from A to B", slant, down(1.5, 0.5-bit)},
		{"just off the edge from A to C", slant, down(0.5-bit, 1.5)},
		{"just off the edge from B to C", slant, down(2+bit, 2)},
		{"U and V are together just above 1", corner, down(0.5, 0.5+0x1p-52)},
		{"beyond B along the edge", corner, down(1+0x1p-52, 0)},
		{"beyond C along the edge", corner, down(0, 1+0x1p-52)},
		{"from the triangle, down", corner, ray(v(0.25, 0.25, 0), v(0, 0, -1))},
		{"from the triangle, up", corner, ray(v(0.25, 0.25, 0), v(0, 0, 1))},
		{"from the triangle, through its box", tilted, ray(v(1, 1, 2), v(-1, -1, 0))},
		{"from behind it, through its box", tilted, ray(v(2, 2, 2), v(1, 1, 0))},
		{"from ahead of it, away", tilted, ray(v(0.5, 0.5, 0.5), v(-1, -1, -1))},
		{"in the plane, through it", corner, ray(v(-1, 0.25, 0), v(1, 0, 0))},
		{"in the plane, along an edge", corner, ray(v(-1, 0, 0), v(1, 0, 0))},
		{"in the plane, along an edge askew", corner, ray(v(2, -1, 0), v(-1, 1, 0))},
		{"in the plane, from within", corner, ray(v(0.25, 0.25, 0), v(1, 1, 0))},
		{"in the plane of a tilted one", tilted, ray(v(5, 1, -2), v(-1, 0, 1))},
		{"beside the plane, level with it", tilted, ray(v(3, 3, 1), v(-1, 0, 1))},
		{"no way at all, in the box", tilted, ray(v(1, 1, 1), v(0, 0, 0))},
		{"no way at all, on the triangle", tilted, ray(v(1, 1, 2), v(0, 0, 0))},
		{"a det too great", tri(v(0, 0, 0), v(1e200, 0, 0), v(0, 1e200, 0)), down(1, 1)},
		{"a det too small, 0", tri(v(0, 0, 0), v(1e-200, 0, 0), v(0, 1e-200, 0)), ray(v(1e-201, 1e-201, 1), v(0, 0, -1))},
		{"a det too small, not 0", tri(v(0, 0, 0), v(0x1p-530, 0, 0), v(0, 0x1p-530, 0)), ray(v(0x1p-532, 0x1p-532, 1), v(0, 0, -1))},
	} {
		missed(t, c.name, c.t, c.r)
	}
}

func TestNoRayMeetsAFlatTriangle(t *testing.T) {
	for _, c := range flats[:8] {
		for _, o := range []api.Vec{v(0, 0, 0), v(3, 4, -5), v(-1, 2, 9)} {
			for _, to := range []api.Vec{c.t.A, c.t.B, c.t.C, atSays(c.t, 0.25, 0.5), v(0, 0, 1)} {
				missed(t, c.name, c.t, ray(o, less(to, o)))
			}
		}
	}
}

func TestNumbersThatAreNoneOrInfiniteMeetNothing(t *testing.T) {
	rays := []api.Ray{ray(v(0, 0, 0), v(1, 2, 1)), ray(v(2, 2, 2), v(-1, -1, 0)), down(1, 1), ray(v(1, 1, 1), v(inf, 0, 0)), ray(v(1, nan, 1), v(1, 1, 1))}
	for _, x := range []float64{nan, inf, -inf} {
		for _, s := range spoilt(tilted, x) {
			for _, r := range rays {
				missed(t, "triangle", s, r)
			}
		}
		for k := range 6 {
			r := rays[0]
			*[]*float64{&r.O.X, &r.O.Y, &r.O.Z, &r.D.X, &r.D.Y, &r.D.Z}[k] = x
			missed(t, "ray", tilted, r)
			missed(t, "ray", corner, r)
		}
	}
}

// Each condition alone decides somewhere, but for the three of which the others
// tell as much: a box that is missed (far is 0 then, and T above it), a det that
// is 0, and a u above 1.
func TestMeetIsWhatTheChapterSays(t *testing.T) {
	hits, alone := 0, map[string]int{}
	ask := func(x api.Tri, r api.Ray) {
		say, met := meetSays(x, r)
		if h, ok := Meet(x, r); !alikeHit(h, say) || ok != met {
			t.Errorf("%v, %v: %v %v, not %v %v", x, r, h, ok, say, met)
		}
		if met {
			hits++
		}
		fails := []string{}
		words, _ := meetWords(x, r)
		for _, w := range words {
			if !w.holds {
				fails = append(fails, w.name)
			}
		}
		if len(fails) == 1 {
			alone[fails[0]]++
		}
	}
	aimed(60000, ask)
	pick := picker(grid)
	triangles(60000, grid, func(x api.Tri) {
		ask(x, ray(v(pick(), pick(), pick()), v(pick(), pick(), pick())))
	})
	pick = picker(edges)
	triangles(60000, edges, func(x api.Tri) {
		ask(x, ray(v(pick(), pick(), pick()), v(pick(), pick(), pick())))
	})
	for _, x := range edges {
		for _, s := range append(spoilt(tilted, x), spoilt(corner, x)...) {
			ask(s, down(0.25, 0.5))
			ask(s, ray(v(0, 0, 0), v(1, 2, 1)))
		}
	}
	if hits < 5000 {
		t.Errorf("only %d hits", hits)
	}
	for _, name := range []string{"u from 0", "v not below 0", "u and v", "near", "far", "above 0"} {
		if alone[name] == 0 {
			t.Errorf("the condition %q decides nowhere alone", name)
		}
	}
}

// exact tells where a ray meets a triangle, in exact numbers, by the areas that
// the place has with each two corners.
func exact(t api.Tri, r api.Ray) bool {
	whole := func(a api.Vec) [3]*big.Rat {
		return [3]*big.Rat{new(big.Rat).SetFloat64(a.X), new(big.Rat).SetFloat64(a.Y), new(big.Rat).SetFloat64(a.Z)}
	}
	sub := func(a, b [3]*big.Rat) (c [3]*big.Rat) {
		for k := range 3 {
			c[k] = new(big.Rat).Sub(a[k], b[k])
		}
		return c
	}
	cross := func(a, b [3]*big.Rat) (c [3]*big.Rat) {
		for k := range 3 {
			i, j := (k+1)%3, (k+2)%3
			c[k] = new(big.Rat).Sub(new(big.Rat).Mul(a[i], b[j]), new(big.Rat).Mul(a[j], b[i]))
		}
		return c
	}
	dot := func(a, b [3]*big.Rat) *big.Rat {
		sum := new(big.Rat)
		for k := range 3 {
			sum.Add(sum, new(big.Rat).Mul(a[k], b[k]))
		}
		return sum
	}
	a, b, c, o, d := whole(t.A), whole(t.B), whole(t.C), whole(r.O), whole(r.D)
	n := cross(sub(b, a), sub(c, a))
	slope := dot(n, d)
	if slope.Sign() == 0 {
		return false
	}
	far := new(big.Rat).Quo(dot(n, sub(a, o)), slope)
	p := o
	for k := range 3 {
		p[k] = new(big.Rat).Add(o[k], new(big.Rat).Mul(d[k], far))
	}
	within := true
	for _, side := range [][2][3]*big.Rat{{a, b}, {b, c}, {c, a}} {
		within = within && dot(n, cross(sub(side[1], side[0]), sub(p, side[0]))).Sign() >= 0
	}
	return within && far.Sign() > 0
}

// Of whole numbers, along directions whose parts are powers of 2, with a det
// that is one, too, no number is rounded.
func TestMeetIsExactWhereNoNumberIsRounded(t *testing.T) {
	r, met := rand.New(rand.NewPCG(10, 3)), 0
	small := func() api.Vec {
		return v(float64(r.IntN(7)-3), float64(r.IntN(7)-3), float64(r.IntN(7)-3))
	}
	way := func() float64 { return []float64{0, 1, -1, 2, -2, 0.5}[r.IntN(6)] }
	for range 100000 {
		x, y := tri(small(), small(), small()), ray(small(), v(way(), way(), way()))
		det := dot(less(x.B, x.A), cross(y.D, less(x.C, x.A)))
		if f, _ := math.Frexp(det); det != 0 && math.Abs(f) != 0.5 {
			continue
		}
		say := exact(x, y)
		if h, ok := Meet(x, y); ok != say {
			t.Errorf("%v, %v: %v %v", x, y, h, ok)
		}
		if say {
			met++
		}
	}
	if met < 500 {
		t.Errorf("only %d hits", met)
	}
}

// P10.3

func TestAt(t *testing.T) {
	far := tri(v(1, 2, 3), v(3, 6, 5), v(9, 6, 7))
	for _, c := range []struct {
		name string
		t    api.Tri
		u, v float64
		say  api.Vec
	}{
		{"A", far, 0, 0, far.A},
		{"B", far, 1, 0, far.B},
		{"C", far, 0, 1, far.C},
		{"between", far, 0.5, 0.25, v(4, 5, 5)},
		{"beyond", far, 2, -1, v(-3, 6, 3)},
		{"both 1", far, 1, 1, v(11, 10, 9)},
		{"e comes first", tri(v(1, 1, 1), v(0x1p54, 0x1p54, 0), v(-0x1p54, 1-0x1p54, 0)), 1, 1, v(0, 0, -1)},
		{"products are rounded", tri(v(-1, 0, 0), v(over-1, 0, 0), v(-1, 0, 0)), under, 0, v(0, 0, 0)},
		{"products are rounded, of f too", tri(v(-1, 0, 0), v(-1, 0, 0), v(over-1, 0, 0)), 0, under, v(0, 0, 0)},
		{"no number for u", far, nan, 0, v(nan, nan, nan)},
		{"no number for v", far, 0, nan, v(nan, nan, nan)},
		{"infinite u", far, inf, 0, v(inf, inf, inf)},
		{"infinite v, and an edge of 0", corner, 0, -inf, v(nan, -inf, nan)},
		{"u and v infinite against each other", far, inf, -inf, v(nan, nan, nan)},
		{"no number for a corner", tri(v(0, 0, 0), v(nan, 1, 1), v(1, nan, 1)), 0, 0, v(nan, nan, 0)},
		{"no number for A", tri(v(0, nan, 0), v(1, 1, 1), v(1, 1, 1)), 0.5, 0.25, v(0.75, nan, 0.75)},
	} {
		if p := At(c.t, c.u, c.v); !alikeVec(p, c.say) {
			t.Errorf("%s: %v, not %v", c.name, p, c.say)
		}
	}
}

func TestAtIsWhatTheChapterSays(t *testing.T) {
	ask := func(pick func() float64) func(x api.Tri) {
		return func(x api.Tri) {
			for range 3 {
				u, w := pick(), pick()
				if p := At(x, u, w); !alikeVec(p, atSays(x, u, w)) {
					t.Errorf("At of %v, %v %v: %v, not %v", x, u, w, p, atSays(x, u, w))
				}
			}
		}
	}
	triangles(10000, grid, ask(picker(grid)))
	triangles(10000, edges, ask(picker(edges)))
	triangles(5000, []float64{0, -1, over, under, -over, -under}, ask(picker([]float64{over, under, -over, -under})))
}

func TestBetter(t *testing.T) {
	at := func(n int, t float64) api.Hit { return api.Hit{Tri: n, T: t, U: 0.25, V: 0.5} }
	for _, c := range []struct {
		name   string
		a, b   api.Hit
		ab, ba bool // is a ahead of b, and b of a?
	}{
		{"nearer", at(5, 1), at(2, 2), true, false},
		{"nearer, of the same number", at(2, 1), at(2, 2), true, false},
		{"nearer by a bit", at(5, 1), at(2, 1+0x1p-52), true, false},
		{"a hit and a miss", at(5, 1), none, true, false},
		{"a far hit and a miss", at(0, inf), none, true, false},
		{"a hit behind and a miss", at(0, -1), none, true, false},
		{"a hit and another miss", at(math.MaxInt, 9), at(math.MinInt, 1), true, false},
		{"two misses", none, none, false, false},
		{"two misses, one less than the other", at(-2, 1), at(-1, 2), false, false},
		{"two misses, as far", at(-2, 1), at(-1, 1), false, false},
		{"equal", at(3, 2), at(3, 2), false, false},
		{"as far, of a lesser number", at(3, 2), at(4, 2), true, false},
		{"as far, of the number 0", at(0, 2), at(math.MaxInt, 2), true, false},
		{"as far, other places", api.Hit{Tri: 3, T: 2, U: 1}, api.Hit{Tri: 4, T: 2, V: 1}, true, false},
		{"equal but for the places", api.Hit{Tri: 3, T: 2, U: 1}, api.Hit{Tri: 3, T: 2, V: 1}, false, false},
		{"0 and -0 are as far", at(3, 0), at(4, nul), true, false},
		{"-0 and 0 are as far", at(3, nul), at(4, 0), true, false},
		{"both infinite", at(3, inf), at(4, inf), true, false},
		{"both T are no number: they are the same", at(3, nan), at(4, nan), true, false},
		{"both T are no number, one triangle", at(3, nan), at(3, nan), false, false},
		{"one T is no number: neither is less", at(3, nan), at(4, 1), false, false},
		{"one T is no number: neither is less", at(4, nan), at(3, 1), false, false},
		{"a T that is no number, and a miss", at(3, nan), none, true, false},
		{"a miss whose T is no number", at(3, 1), at(-1, nan), true, false},
		{"places that are no numbers", api.Hit{Tri: 3, T: 2, U: nan}, api.Hit{Tri: 3, T: 2, U: nan}, false, false},
	} {
		if got := Better(c.a, c.b); got != c.ab {
			t.Errorf("%s: %v", c.name, got)
		}
		if got := Better(c.b, c.a); got != c.ba {
			t.Errorf("%s, turned round: %v", c.name, got)
		}
	}
}

func TestBetterIsWhatTheChapterSays(t *testing.T) {
	numbers := []int{math.MinInt, -2, -1, 0, 1, 2, 511, math.MaxInt}
	hits := []api.Hit{}
	for _, n := range numbers {
		for _, far := range edges {
			hits = append(hits, api.Hit{Tri: n, T: far, U: 0.5})
		}
	}
	for _, a := range hits {
		for _, b := range hits {
			say := a.Tri >= 0 && (b.Tri < 0 || a.T < b.T || alike(a.T, b.T) && a.Tri < b.Tri)
			if Better(a, b) != say {
				t.Errorf("%v, %v: %v", a, b, !say)
			}
		}
	}
}

// P10.4

func TestTIsFromNearToFarOfTheBox(t *testing.T) {
	hits := 0
	aimed(60000, func(x api.Tri, r api.Ray) {
		h, ok := Meet(x, r)
		if !ok {
			return
		}
		hits++
		near, far, through := box.Through(box.Of(x), r)
		if !through || h.T < near || h.T > far {
			t.Errorf("%v, %v: %v is not from %v to %v", x, r, h.T, near, far)
		}
	})
	if hits < 5000 {
		t.Errorf("only %d hits", hits)
	}
}

// A T that is beyond an end of the box, though only by how it is rounded, is no
// hit, even where the place is within the triangle.
func TestATThatIsJustBeyondAnEndOfTheBoxIsNoHit(t *testing.T) {
	ends := map[string]int{}
	aimed(60000, func(x api.Tri, r api.Ray) {
		words, h := meetWords(x, r)
		fails := []string{}
		for _, w := range words {
			if !w.holds {
				fails = append(fails, w.name)
			}
		}
		if len(fails) == 1 && (fails[0] == "near" || fails[0] == "far") && h.U > 0.1 && h.V > 0.1 && h.U+h.V < 0.9 {
			ends[fails[0]]++
			missed(t, fails[0], x, r)
		}
	})
	if ends["near"] == 0 || ends["far"] == 0 {
		t.Errorf("none of them was asked: %v", ends)
	}
}
