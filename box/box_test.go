package box

import (
	"math"
	"math/big"
	"testing"

	"penumbra/api"
)

var (
	nan  = math.NaN()
	inf  = math.Inf(1)
	nul  = math.Copysign(0, -1)
	huge = math.MaxFloat64
	tiny = math.SmallestNonzeroFloat64

	// The product of these two is 1 - 2^-60, and 1, when it is rounded for
	// itself: a product that is joined with a sum shows by that.
	over  = 1 + math.Ldexp(1, -30)
	under = 1 - math.Ldexp(1, -30)
)

// numbers are finite ones that are tried in every place; edges are all.
var (
	numbers = []float64{0, nul, 1, -1, 0.1, -0.3, 3, 49, -2, 1e16, 1e200, -1e200, 1e-200, -1e-310, huge, -huge, tiny, -tiny, over, -under}
	edges   = append([]float64{inf, -inf, nan}, numbers...)
)

func v(x, y, z float64) api.Vec { return api.Vec{X: x, Y: y, Z: z} }

func all(x float64) api.Vec { return v(x, x, x) }

func box(lo, hi api.Vec) api.Box { return api.Box{Lo: lo, Hi: hi} }

func ray(o, d api.Vec) api.Ray { return api.Ray{O: o, D: d} }

var unit = box(all(0), all(1))

// bits tells whether both are no numbers, or equal, with the same sign.
func bits(x, y float64) bool {
	return x == y && math.Signbit(x) == math.Signbit(y) || x != x && y != y
}

func sameVec(a, b api.Vec) bool { return bits(a.X, b.X) && bits(a.Y, b.Y) && bits(a.Z, b.Z) }

func sameBox(a, b api.Box) bool { return sameVec(a.Lo, b.Lo) && sameVec(a.Hi, b.Hi) }

func finite(x float64) bool { return x >= -huge && x <= huge }

// times multiplies finite numbers by way of exact ones, rounded once.
func times(x, y float64) float64 {
	if !finite(x) || !finite(y) {
		return x * y
	}
	p, _ := new(big.Float).SetPrec(200).Mul(big.NewFloat(x), big.NewFloat(y)).Float64()
	return p
}

func list(a api.Vec) [3]float64 { return [3]float64{a.X, a.Y, a.Z} }

// turn gives each part to the next axis.
func turn(a api.Vec) api.Vec { return v(a.Z, a.X, a.Y) }

func turnBox(b api.Box) api.Box { return box(turn(b.Lo), turn(b.Hi)) }

func turnRay(r api.Ray) api.Ray { return ray(turn(r.O), turn(r.D)) }

// picker makes a function that picks one of xs, always in the same order.
func picker(xs []float64) func() float64 {
	state := uint64(1)
	return func() float64 {
		state = state*6364136223846793005 + 1442695040888963407
		return xs[(state>>33)%uint64(len(xs))]
	}
}

// boxes makes n boxes whose parts are of xs, Lo above Hi as often as not.
func boxes(n int, xs []float64) []api.Box {
	pick, bs := picker(xs), []api.Box{}
	for range n {
		bs = append(bs, box(v(pick(), pick(), pick()), v(pick(), pick(), pick())))
	}
	return bs
}

// grid is ordinary numbers that fall together often.
var grid = []float64{-3, -2, -1.5, -1, -0.7, -0.1, 0, 0.1, 0.3, 1, 1.5, 2, 3}

// P4.1

func TestEmpty(t *testing.T) {
	if got, say := Empty(), box(all(inf), all(-inf)); got != say {
		t.Errorf("the empty box: %v, not %v", got, say)
	}
}

func TestGrow(t *testing.T) {
	for _, c := range []struct {
		name string
		b    api.Box
		p    api.Vec
		say  api.Box
	}{
		{"within", unit, v(0.5, 0.25, 0.75), unit},
		{"on the ends", unit, v(0, 1, 0), unit},
		{"below and above", unit, v(-1, 2, 0.5), box(v(-1, 0, 0), v(1, 2, 1))},
		{"all below", unit, v(-1, -2, -3), box(v(-1, -2, -3), all(1))},
		{"all above", unit, v(2, 3, 4), box(all(0), v(2, 3, 4))},
		{"the empty box", Empty(), v(1, -2, 3), box(v(1, -2, 3), v(1, -2, 3))},
		{"Lo above Hi: between", box(all(5), all(1)), v(3, 0, 6), box(v(3, 0, 5), v(3, 1, 6))},
		{"-0 is not less than 0", box(all(0), all(0)), all(nul), box(all(0), all(0))},
		{"0 is not greater than -0", box(all(nul), all(nul)), all(0), box(all(nul), all(nul))},
		{"no numbers come", unit, v(nan, -1, nan), box(v(0, -1, 0), all(1))},
		{"no numbers stay", box(v(nan, 0, 0), v(1, nan, 1)), v(-1, 2, 3), box(v(nan, 0, 0), v(1, nan, 3))},
		{"the empty box, no numbers", Empty(), all(nan), Empty()},
		{"infinite", unit, v(inf, -inf, 2), box(v(0, -inf, 0), v(inf, 1, 2))},
	} {
		if got := Grow(c.b, c.p); !sameBox(got, c.say) {
			t.Errorf("%s: %v, not %v", c.name, got, c.say)
		}
	}
}

func TestJoin(t *testing.T) {
	for _, c := range []struct {
		name      string
		a, b, say api.Box
	}{
		{"apart", unit, box(v(2, -3, 0.5), v(3, -2, 4)), box(v(0, -3, 0), v(3, 1, 4))},
		{"one within the other", unit, box(all(-1), all(2)), box(all(-1), all(2))},
		{"the other one within", box(all(-1), all(2)), unit, box(all(-1), all(2))},
		{"the empty box first", Empty(), unit, unit},
		{"the empty box second", unit, Empty(), unit},
		{"both empty", Empty(), Empty(), Empty()},
		{"Lo is joined with Lo alone", unit, box(all(5), all(-5)), unit},
		{"Lo above Hi in both", box(all(5), all(1)), box(all(4), all(2)), box(all(4), all(2))},
		{"zeros stay", box(v(0, nul, 0), v(nul, 0, 1)), box(v(nul, 0, 1), v(0, nul, 0)), box(v(0, nul, 0), v(nul, 0, 1))},
		{"no numbers come", unit, box(v(nan, -1, nan), v(2, nan, nan)), box(v(0, -1, 0), v(2, 1, 1))},
		{"no numbers stay", box(v(nan, 0, 0), v(1, nan, 1)), box(all(-1), all(2)), box(v(nan, -1, -1), v(2, nan, 2))},
		{"infinite", unit, box(v(-inf, inf, 0), v(0, 0, inf)), box(v(-inf, 0, 0), v(1, 1, inf))},
	} {
		if got := Join(c.a, c.b); !sameBox(got, c.say) {
			t.Errorf("%s: %v, not %v", c.name, got, c.say)
		}
	}
}

func TestOf(t *testing.T) {
	for _, c := range []struct {
		name    string
		a, b, c api.Vec
		say     api.Box
	}{
		{"each corner has an end", v(1, 2, 3), v(-1, 0, 0), v(0, 5, 0), box(v(-1, 0, 0), v(1, 5, 3))},
		{"A is least, C is greatest", v(-1, -2, -3), v(0, 0, 0), v(1, 2, 3), box(v(-1, -2, -3), v(1, 2, 3))},
		{"C is least, B is greatest", v(0, 0, 0), v(1, 2, 3), v(-1, -2, -3), box(v(-1, -2, -3), v(1, 2, 3))},
		{"one point", v(7, 8, 9), v(7, 8, 9), v(7, 8, 9), box(v(7, 8, 9), v(7, 8, 9))},
		{"far from 0", v(7, 8, 9), v(8, 8, 8), v(9, 8, 7), box(v(7, 8, 7), v(9, 8, 9))},
		{"the first of zeros stays", v(0, nul, 0), v(nul, 0, nul), v(nul, 0, nul), box(v(0, nul, 0), v(0, nul, 0))},
		{"a corner of no numbers", v(1, 2, 3), all(nan), v(0, 5, nan), box(v(0, 2, 3), v(1, 5, 3))},
		{"no numbers at all", all(nan), all(nan), all(nan), Empty()},
		{"infinite", v(inf, 0, -inf), v(-inf, 1, -inf), v(0, 2, -inf), box(v(-inf, 0, -inf), v(inf, 2, -inf))},
	} {
		if got := Of(api.Tri{A: c.a, B: c.b, C: c.c}); !sameBox(got, c.say) {
			t.Errorf("%s: %v, not %v", c.name, got, c.say)
		}
	}
}

// joined is the chapter's rule of one part of Lo, and of Hi.
func joined(lo, hi, less, more float64) (float64, float64) {
	if less < lo {
		lo = less
	}
	if more > hi {
		hi = more
	}
	return lo, hi
}

func TestJoinGrowEverywhere(t *testing.T) {
	bs := boxes(20000, edges)
	for i, a := range bs {
		b := bs[(i*7+1)%len(bs)]
		var join, grow api.Box
		join.Lo.X, join.Hi.X = joined(a.Lo.X, a.Hi.X, b.Lo.X, b.Hi.X)
		join.Lo.Y, join.Hi.Y = joined(a.Lo.Y, a.Hi.Y, b.Lo.Y, b.Hi.Y)
		join.Lo.Z, join.Hi.Z = joined(a.Lo.Z, a.Hi.Z, b.Lo.Z, b.Hi.Z)
		if got := Join(a, b); !sameBox(got, join) {
			t.Fatalf("Join of %v, %v: %v, not %v", a, b, got, join)
		}
		p := b.Hi
		grow.Lo.X, grow.Hi.X = joined(a.Lo.X, a.Hi.X, p.X, p.X)
		grow.Lo.Y, grow.Hi.Y = joined(a.Lo.Y, a.Hi.Y, p.Y, p.Y)
		grow.Lo.Z, grow.Hi.Z = joined(a.Lo.Z, a.Hi.Z, p.Z, p.Z)
		if got := Grow(a, p); !sameBox(got, grow) {
			t.Fatalf("Grow of %v, %v: %v, not %v", a, p, got, grow)
		}
		if got, say := Of(api.Tri{A: a.Lo, B: a.Hi, C: p}), Grow(Grow(Grow(Empty(), a.Lo), a.Hi), p); !sameBox(got, say) {
			t.Fatalf("Of %v, %v, %v: %v, not %v", a.Lo, a.Hi, p, got, say)
		}
	}
}

// P4.2

type crossing struct {
	name      string
	b         api.Box
	r         api.Ray
	near, far float64
	ok        bool
}

// crosses asks each case along each axis.
func crosses(t *testing.T, cases []crossing) {
	t.Helper()
	for _, c := range cases {
		for axis := range 3 {
			near, far, ok := Through(c.b, c.r)
			if !bits(near, c.near) || !bits(far, c.far) || ok != c.ok {
				t.Errorf("%s (turned %d times): %v %v %v, not %v %v %v", c.name, axis, near, far, ok, c.near, c.far, c.ok)
			}
			c.b, c.r = turnBox(c.b), turnRay(c.r)
		}
	}
}

func TestThrough(t *testing.T) {
	wide := box(v(0, 0, 0), v(2, 3, 5))
	crosses(t, []crossing{
		{"the document's", unit, ray(v(-1, 0.5, 0.5), v(1, 0, 0)), 1, 2, true},
		{"against the axis: the ends are changed", unit, ray(v(4, 0.5, 0.5), v(-1, 0, 0)), 3, 4, true},
		{"a longer direction", unit, ray(v(-1, 0.5, 0.5), v(4, 0, 0)), 0.25, 0.5, true},
		{"from within", unit, ray(v(0.25, 0.5, 0.5), v(1, 0, 0)), 0, 0.75, true},
		{"from within, back", unit, ray(v(0.25, 0.5, 0.5), v(-1, 0, 0)), 0, 0.25, true},
		{"the box is behind", unit, ray(v(2, 0.5, 0.5), v(1, 0, 0)), 0, 0, false},
		{"the box is behind, back", unit, ray(v(-1, 0.5, 0.5), v(-1, 0, 0)), 0, 0, false},
		{"from an end, on", unit, ray(v(1, 0.5, 0.5), v(1, 0, 0)), 0, 0, true},
		{"from an end, in", unit, ray(v(0, 0.5, 0.5), v(1, 0, 0)), 0, 1, true},
		{"two axes", wide, ray(v(-1, -1, 1), v(1, 2, 0)), 1, 2, true},
		{"three axes", wide, ray(v(-1, -1, -1), v(1, 1, 1)), 1, 3, true},
		{"three axes, some back", wide, ray(v(3, -1, 6), v(-1, 1, -1)), 1, 3, true},
		{"past a corner", wide, ray(v(-3, 2, 1), v(1, 1, 0)), 0, 0, false},
		{"past a corner, the third axis", wide, ray(v(-1, 1, 4.5), v(1, 0, 1)), 0, 0, false},
		{"at a corner near is far", wide, ray(v(-3, 0, 1), v(1, 1, 0)), 3, 3, true},
		{"a flat box: near is far", box(v(-1, -1, 0), v(1, 1, 0)), ray(v(0, 0, 2), v(0, 0, -1)), 2, 2, true},
		{"a flat box, aslant", box(v(-1, -1, 0), v(1, 1, 0)), ray(v(0.5, 0, 2), v(-0.25, 0, -1)), 2, 2, true},
		{"a box of one point", box(all(2), all(2)), ray(all(0), all(1)), 2, 2, true},
		{"a box of one point, missed", box(all(2), all(2)), ray(all(0), v(1, 1, 1+1e-15)), 0, 0, false},
	})
}

func TestThroughAlongNoAxis(t *testing.T) {
	var cases []crossing
	for _, zero := range []float64{0, nul} {
		for o, in := range map[float64]bool{
			0.5: true, 0: true, 1: true, tiny: true, math.Nextafter(1, 0): true,
			-tiny: false, math.Nextafter(1, 2): false, -1: false, 2: false, huge: false, -huge: false,
		} {
			c := crossing{"beside", unit, ray(v(-1, o, 0.5), v(1, zero, zero)), 0, 0, false}
			if in {
				c = crossing{"within", unit, ray(v(-1, o, 0.5), v(1, zero, nul)), 1, 2, true}
			}
			cases = append(cases, c)
		}
		cases = append(cases,
			crossing{"from -0 on the end 0", unit, ray(v(-1, nul, nul), v(1, zero, 0)), 1, 2, true},
			crossing{"nowhere, within", unit, ray(all(0.5), all(zero)), 0, inf, true},
			crossing{"nowhere, at a corner", unit, ray(v(0, 1, 0), all(zero)), 0, inf, true},
			crossing{"nowhere, beside", unit, ray(v(0.5, 0.5, 1.5), all(zero)), 0, 0, false},
			crossing{"a box of no numbers", box(v(0, nan, 0), all(1)), ray(v(-1, 0.5, 0.5), v(1, zero, 0)), 0, 0, false},
			crossing{"a box up to no number", box(all(0), v(1, nan, 1)), ray(v(-1, 0.5, 0.5), v(1, zero, 0)), 0, 0, false},
			crossing{"Lo above Hi", box(v(0, 1, 0), v(1, 0, 1)), ray(v(-1, 0.5, 0.5), v(1, zero, 0)), 0, 0, false},
			crossing{"an infinite box", box(v(0, -inf, 0), v(1, inf, 1)), ray(v(-1, huge, 0.5), v(1, zero, 0)), 1, 2, true},
		)
	}
	crosses(t, cases)
}

func TestThroughOfNoRays(t *testing.T) {
	everything := box(all(-inf), all(inf))
	for _, bad := range []float64{inf, -inf, nan} {
		for _, r := range []api.Ray{
			ray(v(bad, 0.5, 0.5), v(1, 0, 0)), ray(v(0.5, 0.5, bad), v(1, 0, 0)), ray(v(0.5, bad, 0.5), all(0)),
			ray(all(0.5), v(bad, 0, 0)), ray(all(0.5), v(1, 0, bad)), ray(all(0.5), v(1, bad, 1)), ray(all(bad), all(bad)),
		} {
			crosses(t, []crossing{
				{"through a box", unit, r, 0, 0, false},
				{"through everything", everything, r, 0, 0, false},
				{"through no numbers", box(all(nan), all(nan)), r, 0, 0, false},
			})
		}
	}
}

// A direction so small that 1 by it is infinite: an end that is ahead is
// infinitely far, one at the beginning is no number, and bounds nothing.
func TestThroughByAlmostNothing(t *testing.T) {
	if inverse := 1 / tiny; inverse <= huge {
		t.Fatal("1 by the least number is finite")
	}
	crosses(t, []crossing{
		{"from within", unit, ray(all(0.5), v(tiny, 0, 0)), 0, inf, true},
		{"from within, back", unit, ray(all(0.5), v(-tiny, 0, 0)), 0, inf, true},
		{"from Lo", unit, ray(v(0, 0.5, 0.5), v(tiny, 0, 0)), 0, inf, true},
		{"from Lo, back", unit, ray(v(0, 0.5, 0.5), v(-tiny, 0, 0)), 0, inf, true},
		{"from Hi", unit, ray(v(1, 0.5, 0.5), v(tiny, 0, 0)), 0, inf, true},
		{"from Hi, back", unit, ray(v(1, 0.5, 0.5), v(-tiny, 0, 0)), 0, inf, true},
		{"from Lo that is Hi", box(all(0), v(0, 1, 1)), ray(v(0, 0.5, 0.5), v(tiny, 0, 0)), 0, inf, true},
		{"from Lo, with another axis", unit, ray(v(0, -1, 0.5), v(tiny, 1, 0)), 1, 2, true},
		{"from Hi, with another axis", unit, ray(v(1, 3, 0.5), v(-tiny, -1, 0)), 2, 3, true},
		{"ahead: infinitely far", unit, ray(v(-1, 0.5, 0.5), v(tiny, 0, 0)), inf, inf, true},
		{"ahead, back", unit, ray(v(2, 0.5, 0.5), v(-tiny, 0, 0)), inf, inf, true},
		{"ahead, with another axis", unit, ray(v(-1, 0.5, 0.5), v(tiny, 1, 0)), 0, 0, false},
		{"behind", unit, ray(v(2, 0.5, 0.5), v(tiny, 0, 0)), 0, 0, false},
		{"behind, back", unit, ray(v(-1, 0.5, 0.5), v(-tiny, 0, 0)), 0, 0, false},
	})
}

func TestThroughRounds(t *testing.T) {
	crosses(t, []crossing{
		{"1 by d is rounded ahead of the product", box(v(49, 0, 0), v(98, 1, 1)), ray(v(0, 0.5, 0.5), v(49, 0, 0)), 0.9999999999999999, 1.9999999999999998, true},
		{"so it is back", box(v(-98, 0, 0), v(-49, 1, 1)), ray(v(0, 0.5, 0.5), v(-49, 0, 0)), 0.9999999999999999, 1.9999999999999998, true},
		{"the difference is first", box(v(1e16+2, 0, 0), v(1e16+4, 1, 1)), ray(v(1, 0.5, 0.5), v(0.5, 0, 0)), 2e16, 2e16 + 8, true},
		{"a difference that is too great", box(v(-huge, 0, 0), v(huge, 1, 1)), ray(v(-huge, 0.5, 0.5), v(huge, 0, 0)), 0, inf, true},
		{"a box that is too far", box(v(huge, 0, 0), v(huge, 1, 1)), ray(v(-huge, 0.5, 0.5), v(1, 0, 0)), inf, inf, true},
		{"a product that is 0", box(v(tiny, 0, 0), v(1, 1, 1)), ray(v(0, 0.5, 0.5), v(4, 0, 0)), 0, 0.25, true},
		{"the greatest direction", unit, ray(v(-1, 0.5, 0.5), v(huge, 0, 0)), 1 / huge, 2 * (1 / huge), true},
		{"far is -0, and not below near", box(v(-1, 0, 0), v(nul, 1, 1)), ray(v(0, 0.5, 0.5), v(1, 0, 0)), 0, nul, true},
	})
}

func TestThroughOddBoxes(t *testing.T) {
	x := ray(v(-1, 0.5, 0.5), v(1, 0, 0))
	crosses(t, []crossing{
		{"the empty box", Empty(), x, 0, 0, false},
		{"the empty box, back", Empty(), ray(all(0), v(-1, -2, -3)), 0, 0, false},
		{"the empty box, aslant", Empty(), ray(all(0), v(1, -1, tiny)), 0, 0, false},
		{"the empty box, nowhere", Empty(), ray(all(0), all(0)), 0, 0, false},
		{"everything", box(all(-inf), all(inf)), ray(all(7), v(1, -2, 3)), 0, inf, true},
		{"half of everything", box(v(3, -inf, -inf), all(inf)), ray(all(1), v(1, -2, 3)), 2, inf, true},
		{"the other half", box(all(-inf), v(3, inf, inf)), ray(all(1), v(1, -2, 3)), 0, 2, true},
		{"infinitely far", box(v(inf, 0, 0), v(inf, 1, 1)), x, inf, inf, true},
		{"infinitely far behind", box(v(-inf, 0, 0), v(-inf, 1, 1)), x, 0, 0, false},
		{"Lo above Hi, along", box(v(1, 0, 0), v(0, 1, 1)), x, 0, 0, false},
		{"Lo above Hi, back", box(v(1, 0, 0), v(0, 1, 1)), ray(v(3, 0.5, 0.5), v(-1, 0, 0)), 0, 0, false},
		{"Lo above Hi, as little as may be", box(v(1, 0, 0), v(math.Nextafter(1, 0), 1, 1)), ray(v(0, 0.5, 0.5), v(1, 0, 0)), 0, 0, false},
		{"Lo above Hi, by less than is told apart from -1 on", box(v(1, 0, 0), v(math.Nextafter(1, 0), 1, 1)), x, 2, 2, true},
		{"Lo is no number", box(v(nan, 0, 0), all(1)), x, 0, 2, true},
		{"Lo is no number, back", box(v(nan, 0, 0), all(1)), ray(v(3, 0.5, 0.5), v(-1, 0, 0)), 2, inf, true},
		{"Hi is no number", box(all(0), v(nan, 1, 1)), x, 1, inf, true},
		{"Hi is no number, back", box(all(0), v(nan, 1, 1)), ray(v(3, 0.5, 0.5), v(-1, 0, 0)), 0, 3, true},
		{"no numbers at all", box(all(nan), all(nan)), ray(all(7), v(1, -2, 3)), 0, inf, true},
		{"no numbers on one axis", box(v(nan, 0, 0), v(nan, 1, 1)), ray(v(-1, -2, 0.5), v(1, 1, 0)), 2, 3, true},
	})
}

// goes is the chapter's rule, word by word.
func goes(b api.Box, r api.Ray) (float64, float64, bool) {
	for _, x := range []float64{r.O.X, r.O.Y, r.O.Z, r.D.X, r.D.Y, r.D.Z} {
		if !finite(x) {
			return 0, 0, false
		}
	}
	near, far, said := 0.0, inf, true
	los, his, os, ds := list(b.Lo), list(b.Hi), list(r.O), list(r.D)
	for axis, d := range ds {
		lo, hi, o := los[axis], his[axis], os[axis]
		if d == 0 {
			said = said && lo <= o && o <= hi
			continue
		}
		i := 1 / d
		first, second := times(lo-o, i), times(hi-o, i)
		if i < 0 {
			first, second = second, first
		}
		if first > near {
			near = first
		}
		if second < far {
			far = second
		}
	}
	if !said || !(near <= far) {
		return 0, 0, false
	}
	return near, far, true
}

func TestThroughEverywhere(t *testing.T) {
	for name, xs := range map[string][]float64{"edges": edges, "numbers": numbers, "grid": grid} {
		bs, yes := boxes(60000, xs), 0
		for i, b := range bs {
			r := ray(bs[(i*7+1)%len(bs)].Lo, bs[(i*13+5)%len(bs)].Hi)
			for _, b := range []api.Box{b, Grow(Grow(Empty(), b.Lo), b.Hi)} {
				near, far, ok := Through(b, r)
				n, f, say := goes(b, r)
				if !bits(near, n) || !bits(far, f) || ok != say {
					t.Fatalf("%s: %v through %v: %v %v %v, not %v %v %v", name, r, b, near, far, ok, n, f, say)
				}
				if ok {
					yes++
				}
			}
		}
		if yes < 1000 {
			t.Errorf("%s: only %d rays went through", name, yes)
		}
	}
}

// P4.3

func TestHas(t *testing.T) {
	some := box(v(-1, -2, -3), v(1, 2, 3))
	for _, c := range []struct {
		name string
		a, b api.Box
		say  bool
	}{
		{"itself", some, some, true},
		{"one within", box(all(-9), all(9)), some, true},
		{"the other way", some, box(all(-9), all(9)), false},
		{"apart", some, box(all(5), all(6)), false},
		{"Lo less", some, box(v(-1.5, -2, -3), all(0)), false},
		{"Lo less by as little as may be", some, box(v(math.Nextafter(-1, -2), 0, 0), all(0)), false},
		{"Hi greater", some, box(all(0), v(1.5, 2, 3)), false},
		{"Hi greater by as little as may be", some, box(all(0), v(math.Nextafter(1, 2), 0, 0)), false},
		{"Lo above a's Hi, Hi below it: Lo is held against Lo alone", some, box(all(9), all(-9)), true},
		{"-0 is not less than 0", unit, box(all(nul), all(1)), true},
		{"0 is not greater than -0", box(all(-1), all(nul)), box(all(-1), all(0)), true},
		{"the empty box within", some, Empty(), true},
		{"the empty box has itself", Empty(), Empty(), true},
		{"the empty box has no other one", Empty(), some, false},
		{"the empty box has no everything", Empty(), box(all(-inf), all(inf)), false},
		{"everything", box(all(-inf), all(inf)), some, true},
		{"everything has itself", box(all(-inf), all(inf)), box(all(-inf), all(inf)), true},
		{"no numbers within are not less", unit, box(all(nan), all(nan)), true},
		{"than no numbers nothing is less", box(all(nan), all(nan)), box(all(-inf), all(inf)), true},
		{"no numbers have themselves", box(all(nan), all(nan)), box(all(nan), all(nan)), true},
		{"a number beside no numbers, Lo", box(v(0, nan, nan), all(nan)), box(v(-1, 0, 0), all(0)), false},
		{"a number beside no numbers, Hi", box(all(nan), v(0, nan, nan)), box(all(0), v(1, 0, 0)), false},
		{"no number beside numbers", box(v(nan, 0, 0), v(1, nan, 1)), box(v(-9, 0, 0), v(1, 9, 1)), true},
	} {
		for axis := range 3 {
			if got := Has(c.a, c.b); got != c.say {
				t.Errorf("%s (turned %d times): %v", c.name, axis, got)
			}
			c.a, c.b = turnBox(c.a), turnBox(c.b)
		}
	}
}

func TestHasEverywhere(t *testing.T) {
	for _, xs := range [][]float64{edges, {0, nul, 1, nan, inf, -inf}, {0, 1, nan}, {0, nul}} {
		bs, yes := boxes(20000, xs), 0
		for i, a := range bs {
			b, say := bs[(i*7+1)%len(bs)], true
			for axis := range 3 {
				less := list(b.Lo)[axis] < list(a.Lo)[axis]
				more := list(b.Hi)[axis] > list(a.Hi)[axis]
				say = say && !less && !more
			}
			if got := Has(a, b); got != say {
				t.Fatalf("Has of %v, %v: %v", a, b, got)
			}
			if say {
				yes++
			}
		}
		if yes == 0 {
			t.Errorf("of %v no box has another one", xs)
		}
	}
}

func TestMid(t *testing.T) {
	for _, c := range []struct {
		name string
		b    api.Box
		say  api.Vec
	}{
		{"ordinary", box(v(0, -2, 3), v(1, 6, 4)), v(0.5, 2, 3.5)},
		{"a point", box(all(7), all(7)), all(7)},
		{"Lo above Hi", box(all(3), all(1)), all(2)},
		{"the sum is rounded ahead of the product", box(v(0.1, 1, 0), v(0.2, 1e16, 0)), v(0.15000000000000002, 5e15, 0)},
		{"a sum that is too great", box(v(huge, -huge, -huge), v(huge, -huge, huge)), v(inf, -inf, 0)},
		{"a sum that could not be halved ahead", box(all(tiny), v(tiny, 0, 2*tiny)), v(tiny, 0, 2*tiny)},
		{"zeros", box(v(nul, 0, nul), v(nul, nul, 0)), v(nul, 0, 0)},
		{"infinite", box(v(-inf, 0, inf), v(0, inf, inf)), v(-inf, inf, inf)},
		{"no numbers", box(v(nan, 0, -inf), v(0, nan, inf)), all(nan)},
		{"the empty box", Empty(), all(nan)},
	} {
		if got := Mid(c.b); !sameVec(got, c.say) {
			t.Errorf("%s: %v, not %v", c.name, got, c.say)
		}
	}
}

func TestHalf(t *testing.T) {
	great, little := math.Ldexp(1, 500), math.Ldexp(1, -500)
	for _, c := range []struct {
		name string
		b    api.Box
		say  float64
	}{
		{"ordinary", box(v(1, 1, 1), v(3, 4, 6)), 31},
		{"a cube", unit, 3},
		{"flat", box(all(0), v(2, 3, 0)), 6},
		{"a line", box(all(0), v(0, 0, 5)), 0},
		{"Lo above Hi", box(v(2, 0, 0), v(0, 3, 5)), -1},
		{"X by Y first", box(all(0), v(1<<27, 1<<26, 1.0/(1<<26))), 1<<53 + 2},
		{"Z by X last", box(all(0), v(1<<27, 1.0/(1<<26), 1<<26)), 1<<53 + 4},
		{"Y by Z second", box(all(0), v(1.0/(1<<26), 1<<26, 1<<27)), 1<<53 + 2},
		{"the last product is rounded", box(all(0), v(over, -0.5, under)), 0},
		{"the second product is rounded", box(all(0), v(over*little, under*great, -over*little)), 0 - times(over*little, over*little)},
		{"the difference is rounded", box(v(1, 0, 0), v(1e16, 1, 0)), 1e16},
		{"too great a difference", box(v(-huge, 0, 0), v(huge, 1, 1)), inf},
		{"too great a product", box(all(0), all(1e200)), inf},
		{"too great on the way", box(all(0), v(1e200, 1e200, -1e200)), nan},
		{"too small", box(all(0), all(1e-200)), 0},
		{"infinite and flat", box(all(0), v(inf, 0, 1)), nan},
		{"infinite", box(all(-inf), all(inf)), inf},
		{"no number", box(all(0), v(1, nan, 1)), nan},
		{"the empty box", Empty(), inf},
	} {
		if got := Half(c.b); !(got == c.say || got != got && c.say != c.say) {
			t.Errorf("%s: %v, not %v", c.name, got, c.say)
		}
	}
}

func TestLongest(t *testing.T) {
	for _, c := range []struct {
		name string
		b    api.Box
		say  int
	}{
		{"X", box(all(0), v(3, 2, 1)), 0},
		{"Y", box(all(0), v(1, 3, 2)), 1},
		{"Z", box(all(0), v(1, 2, 3)), 2},
		{"Y ahead of X and Z", box(all(0), v(2, 3, 1)), 1},
		{"Z ahead of X and Y", box(all(0), v(2, 1, 3)), 2},
		{"all equal", unit, 0},
		{"X and Y", box(all(0), v(3, 3, 1)), 0},
		{"X and Z", box(all(0), v(3, 1, 3)), 0},
		{"Y and Z", box(all(0), v(1, 3, 3)), 1},
		{"by what Hi is ahead of Lo, not by Hi", box(v(90, -1, 0), v(99, 9, 9)), 1},
		{"not by how far from 0", box(all(0), v(-9, 0, -3)), 1},
		{"all below 0", box(all(0), v(-2, -3, -1)), 2},
		{"zeros are equal", box(v(1, 0, 0), v(0, nul, 0)), 1},
		{"no size at all", box(all(5), all(5)), 0},
		{"sides that are equal when rounded", box(v(0, 1, 0), v(1e16, 1e16, 1)), 0},
		{"infinite", box(v(0, 0, -inf), v(9, inf, 0)), 1},
		{"too great", box(v(0, -huge, 0), v(huge, huge, huge)), 1},
		{"no number at last", box(all(0), v(1, 2, nan)), 1},
		{"no number in the middle", box(all(0), v(1, nan, 2)), 2},
		{"no number at first", box(all(0), v(nan, 1, 2)), 0},
		{"no numbers", box(all(nan), all(nan)), 0},
		{"infinite less infinite is no number", box(v(0, inf, 0), v(1, inf, 2)), 2},
		{"the empty box", Empty(), 0},
	} {
		if got := Longest(c.b); got != c.say {
			t.Errorf("%s: %d, not %d", c.name, got, c.say)
		}
	}
}

func TestSizesEverywhere(t *testing.T) {
	for _, b := range append(boxes(40000, edges), boxes(20000, grid)...) {
		mid := v(times(b.Lo.X+b.Hi.X, 0.5), times(b.Lo.Y+b.Hi.Y, 0.5), times(b.Lo.Z+b.Hi.Z, 0.5))
		if got := Mid(b); !sameVec(got, mid) {
			t.Fatalf("Mid of %v: %v, not %v", b, got, mid)
		}
		d := v(b.Hi.X-b.Lo.X, b.Hi.Y-b.Lo.Y, b.Hi.Z-b.Lo.Z)
		half := times(d.X, d.Y) + times(d.Y, d.Z)
		half += times(d.Z, d.X)
		if got := Half(b); !bits(got, half) {
			t.Fatalf("Half of %v: %v, not %v", b, got, half)
		}
		if d.X != d.X || d.Y != d.Y || d.Z != d.Z {
			continue
		}
		longest := 2
		if d.X >= d.Y && d.X >= d.Z {
			longest = 0
		} else if d.Y >= d.Z {
			longest = 1
		}
		if got := Longest(b); got != longest {
			t.Fatalf("Longest of %v: %d, not %d", b, got, longest)
		}
	}
}

// P4.4

// within tells whether the promise was put to the test: a has b, and the ray
// goes through b.
func within(t *testing.T, a, b api.Box, r api.Ray) bool {
	t.Helper()
	near, far, ok := Through(b, r)
	if !ok || !Has(a, b) {
		return false
	}
	n, f, ok := Through(a, r)
	if !ok || n > near || f < far {
		t.Fatalf("%v goes through %v: %v %v; through %v: %v %v %v", r, b, near, far, a, n, f, ok)
	}
	return true
}

func TestWithin(t *testing.T) {
	infinite := append([]float64{inf, -inf}, numbers...)
	for name, xs := range map[string][]float64{"numbers": numbers, "grid": grid, "infinite": infinite, "little": {-1, 0, 1, tiny, -tiny}} {
		bs, asked := boxes(60000, xs), 0
		for i, b := range bs {
			more, r := bs[(i*11+3)%len(bs)], ray(bs[(i*7+1)%len(bs)].Lo, bs[(i*13+5)%len(bs)].Hi)
			for _, b := range []api.Box{b, Of(api.Tri{A: b.Lo, B: b.Hi, C: b.Hi})} {
				for _, a := range []api.Box{b, more, Join(b, more), Grow(b, more.Lo), box(b.Lo, Join(b, more).Hi)} {
					if within(t, a, b, r) {
						asked++
					}
				}
			}
		}
		if asked < 5000 {
			t.Errorf("%s: only %d rays went through boxes that another one has", name, asked)
		}
	}
}

func TestWithinAtTheEdges(t *testing.T) {
	wide := box(all(-1), all(2))
	for _, c := range []struct {
		name string
		a, b api.Box
		r    api.Ray
	}{
		{"along an end, by almost nothing", box(all(-1), all(1)), unit, ray(v(0, -1, 0.5), v(tiny, 1, 0))},
		{"along both ends, by almost nothing", box(all(0), all(1)), box(all(0), v(1, 1, 0)), ray(v(0.5, 0.5, 0), v(0, 0, -tiny))},
		{"infinitely far", wide, unit, ray(v(-1, 0.5, 0.5), v(tiny, 0, 0))},
		{"along no axis", wide, unit, ray(v(1, 1, -1), v(0, nul, 1))},
		{"Lo above Hi by less than is told apart", box(v(1, 0, 0), all(1)), box(v(1, 0, 0), v(math.Nextafter(1, 0), 1, 1)), ray(v(-1e16, 0.5, 0.5), v(1, 0, 0))},
		{"one point", wide, box(all(2), all(2)), ray(all(0), all(49))},
		{"in everything", box(all(-inf), all(inf)), unit, ray(all(-1), all(1))},
	} {
		for axis := range 3 {
			if !within(t, c.a, c.b, c.r) {
				t.Errorf("%s (turned %d times): nothing was asked", c.name, axis)
			}
			c.a, c.b, c.r = turnBox(c.a), turnBox(c.b), turnRay(c.r)
		}
	}
}
