package hit

import (
	"fmt"
	"math"
	"math/rand/v2"
	"slices"
	"testing"

	"penumbra/api"
	"penumbra/box"
	"penumbra/bvh"
	"penumbra/tri"
)

var (
	nan  = math.NaN()
	inf  = math.Inf(1)
	nul  = math.Copysign(0, -1)
	huge = math.MaxFloat64
	tiny = math.SmallestNonzeroFloat64
)

var ways = []struct {
	name    string
	surface bool
}{{"by the median", false}, {"by the surface", true}}

func v(x, y, z float64) api.Vec { return api.Vec{X: x, Y: y, Z: z} }

func shape(a, b, c api.Vec) api.Tri { return api.Tri{A: a, B: b, C: c} }

func ray(o, d api.Vec) api.Ray { return api.Ray{O: o, D: d} }

// level is a triangle at the height z, over the points that a ray may go up at:
// at 0 0 U and V are 0.25, at 1 0 they are 0.5 and 0.25.
func level(z float64) api.Tri { return shape(v(-1, -1, z), v(3, -1, z), v(-1, 3, z)) }

// turned is the same one, but with its corners B and C changed: at 1 0 U is 0.25
// and V is 0.5.
func turned(z float64) api.Tri { return shape(v(-1, -1, z), v(-1, 3, z), v(3, -1, z)) }

// beside is a triangle at the height 1, moved by x; its det is a power of 2, so
// that T is not rounded.
func beside(x float64) api.Tri { return shape(v(x-4, -4, 1), v(x+12, -4, 1), v(x-4, 12, 1)) }

func levels(zs ...float64) []api.Tri {
	l := []api.Tri{}
	for _, z := range zs {
		l = append(l, level(z))
	}
	return l
}

// up is a ray that goes up at 1 0 from the height 0 on.
var up = ray(v(1, 0, 0), v(0, 0, 1))

// upHit is the hit of a triangle at the height z that is not turned.
func upHit(i int, z float64) api.Hit { return api.Hit{Tri: i, T: z, U: 0.5, V: 0.25} }

var none = api.Hit{Tri: -1}

// around is a triangle whose box goes so far from a middle to either side.
func around(m, by api.Vec) api.Tri {
	return shape(v(m.X-by.X, m.Y+by.Y, m.Z-by.Z), v(m.X+by.X, m.Y-by.Y, m.Z), v(m.X, m.Y, m.Z+by.Z))
}

// cubes are triangles whose boxes have sides of 1, and their middles on X.
func cubes(xs ...float64) []api.Tri {
	l := []api.Tri{}
	for _, x := range xs {
		l = append(l, around(v(x, 0, 0), v(0.5, 0.5, 0.5)))
	}
	return l
}

// tree is a tree that may be.
func tree(t *testing.T, l []api.Tri, surface bool) *bvh.Tree {
	t.Helper()
	x, err := bvh.New(l, surface)
	if x == nil || err != api.OK {
		t.Fatalf("%d triangles: %v, %v", len(l), x, err)
	}
	return x
}

// same tells whether two hits are the same, bit by bit.
func same(a, b api.Hit) bool {
	bits := func(x, y float64) bool { return math.Float64bits(x) == math.Float64bits(y) }
	return a.Tri == b.Tri && bits(a.T, b.T) && bits(a.U, b.U) && bits(a.V, b.V)
}

// first holds what is met first against what should be: by asking all, and by
// both trees.
func first(t *testing.T, name string, l []api.Tri, r api.Ray, skip []int, say api.Hit) {
	t.Helper()
	if got := Scan(l, r, skip...); !same(got, say) {
		t.Errorf("%s, all asked: %v, not %v", name, got, say)
	}
	for _, way := range ways {
		if got := First(tree(t, l, way.surface), l, r, skip...); !same(got, say) {
			t.Errorf("%s, %s: %v, not %v", name, way.name, got, say)
		}
	}
}

// blocked does so with whether it is blocked.
func blocked(t *testing.T, name string, l []api.Tri, r api.Ray, below float64, skip []int, say bool) {
	t.Helper()
	if got := ScanAny(l, r, below, skip...); got != say {
		t.Errorf("%s below %v, all asked: %v", name, below, got)
	}
	for _, way := range ways {
		if got := Any(tree(t, l, way.surface), l, r, below, skip...); got != say {
			t.Errorf("%s below %v, %s: %v", name, below, way.name, got)
		}
	}
}

// The model is the chapter, word for word.

// met is all that a ray meets, but those that are skipped.
func met(l []api.Tri, r api.Ray, skip []int) []api.Hit {
	left := map[int]bool{}
	for i := range l {
		left[i] = true
	}
	for _, i := range skip {
		delete(left, i)
	}
	all := []api.Hit{}
	for i, t := range l {
		if h, ok := tri.Meet(t, r); ok && left[i] {
			all = append(all, api.Hit{Tri: i, T: h.T, U: h.U, V: h.V})
		}
	}
	return all
}

// firstSays asks of each one whether it is ahead of all others.
func firstSays(met []api.Hit) api.Hit {
	for _, h := range met {
		if !slices.ContainsFunc(met, func(o api.Hit) bool { return o.T < h.T || o.T == h.T && o.Tri < h.Tri }) {
			return h
		}
	}
	return none
}

func blockedSays(met []api.Hit, t float64) bool {
	return slices.ContainsFunc(met, func(h api.Hit) bool { return h.T < t })
}

// visitsSays counts the nodes that a ray goes through together with all above
// them, and all that it goes through.
func visitsSays(x *bvh.Tree, r api.Ray) (together, alone int) {
	nodes := x.Nodes()
	through := func(i int) bool {
		_, _, ok := box.Through(nodes[i].Box, r)
		return ok
	}
	for i := range nodes {
		if through(i) {
			alone++
		}
	}
	var count func(i int) int
	count = func(i int) int {
		if !through(i) {
			return 0
		}
		if nodes[i].Left == 0 && nodes[i].Right == 0 {
			return 1
		}
		return 1 + count(nodes[i].Left) + count(nodes[i].Right)
	}
	if len(nodes) > 0 {
		together = count(0)
	}
	return together, alone
}

// grid is numbers that fall together often.
var grid = []float64{-3, -2, -1.5, -1, -0.7, -0.1, nul, 0, 0.1, 0.3, 1, 1.5, 2, 3}

// kind is a maker of triangles, by their numbers.
type kind struct {
	name string
	one  func(i int) api.Tri
}

func kinds(r *rand.Rand) []kind {
	pick := func() float64 { return grid[r.IntN(len(grid))] }
	some := func() float64 { return r.Float64()*6 - 3 }
	great := func() float64 { return math.Ldexp(r.Float64()*2-1, r.IntN(21)) }
	three := func(f func() float64) api.Vec { return v(f(), f(), f()) }
	whole := func() float64 { return float64(r.IntN(3)) }
	dense := func() api.Tri { return shape(three(some), three(some), three(some)) }
	return []kind{
		{"anywhere, small", func(int) api.Tri { return around(three(some), v(some()/8, some()/8, some()/8)) }},
		{"anywhere, great", func(int) api.Tri { return dense() }},
		{"of every size", func(int) api.Tri { return shape(three(great), three(great), three(great)) }},
		{"on a grid", func(int) api.Tri { return shape(three(pick), three(pick), three(pick)) }},
		{"level", func(int) api.Tri { return level(whole()) }},
		{"level, turned or not", func(i int) api.Tri {
			return []func(z float64) api.Tri{level, turned}[r.IntN(2)](whole())
		}},
		{"level, moved", func(int) api.Tri {
			x, y, z := pick(), pick(), whole()
			return shape(v(x, y, z), v(x+2, y, z), v(x, y+2, z))
		}},
		{"level, side by side", func(i int) api.Tri { return beside(float64(i) / -64) }},
		{"upright on each axis", func(i int) api.Tri {
			a, b, c := three(whole), three(whole), three(whole)
			for _, p := range []*api.Vec{&b, &c} {
				*[]*float64{&p.X, &p.Y, &p.Z}[i%3] = []float64{a.X, a.Y, a.Z}[i%3]
			}
			return shape(a, b, c)
		}},
		{"all the same", func(int) api.Tri { return shape(v(-2, -2, 1), v(3, -2, 0), v(-1, 3, -1)) }},
		{"without a surface", func(i int) api.Tri {
			a, b := three(pick), three(pick)
			return []api.Tri{shape(a, a, a), shape(a, b, a), shape(a, b, b), dense()}[i%4]
		}},
		{"at the limits", func(int) api.Tri {
			far := func() float64 { return math.Ldexp(float64(r.IntN(3)-1), 20) }
			return shape(three(far), three(far), three(far))
		}},
	}
}

// odd is what may stand in a ray beside ordinary numbers.
var odd = []float64{0, 0, nul, nul, 1, -1, 0.1, 1e-3, 1e5, tiny, -tiny, 1e-310, 1e300, -1e300, huge, -huge, inf, -inf, nan}

// aimed makes a ray of the kind k to a place of a triangle, or past it.
func aimed(r *rand.Rand, t api.Tri, k int) api.Ray {
	pick := func() float64 { return grid[r.IntN(len(grid))] }
	some := func() float64 { return r.Float64()*10 - 5 }
	strange := func() float64 { return odd[r.IntN(len(odd))] }
	places := []float64{0, 0.25, 0.25, 0.5, 0.3, 1, -0.1}
	to := tri.At(t, places[r.IntN(len(places))], places[r.IntN(len(places))])
	from := v(some(), some(), some())
	size := []float64{1, 0.5, 7, 1e-3, 1e6}[r.IntN(5)]
	switch k {
	case 0, 1, 2: // from anywhere
	case 3: // from a place of the grid
		from = v(pick(), pick(), pick())
	case 4: // straight along an axis
		from = to
		part := []*float64{&from.X, &from.Y, &from.Z}[r.IntN(3)]
		*part += []float64{-3, 3, -100, 0.5}[r.IntN(4)]
	case 5: // within a plane
		from.X, from.Z = to.X, pick()
	case 6: // along an axis, past it all or not, with 0 and -0 as it comes
		d := [3]float64{nul, 0, nul}
		d[r.IntN(3)] = []float64{1, -1, 2}[r.IntN(3)]
		return ray(v(pick(), pick(), pick()), v(d[0], d[1], d[2]))
	case 7: // with strange parts
		d := v(to.X-from.X, to.Y-from.Y, to.Z-from.Z)
		*[]*float64{&from.X, &from.Y, &from.Z, &d.X, &d.Y, &d.Z}[r.IntN(6)] = strange()
		return ray(from, d)
	case 8: // of nothing else
		return ray(v(strange(), strange(), strange()), v(strange(), strange(), strange()))
	case 9: // of no direction
		return ray(from, v(0, nul, 0))
	}
	return ray(from, v((to.X-from.X)*size, (to.Y-from.Y)*size, (to.Z-from.Z)*size))
}

// each calls with many lists, both trees of each, and rays for them.
func each(t *testing.T, call func(name string, l []api.Tri, trees []*bvh.Tree, rays []api.Ray)) {
	for seed := range uint64(6) {
		r := rand.New(rand.NewPCG(13, seed))
		for _, k := range kinds(r) {
			for _, n := range []int{1 + int(seed)%5, 5 + r.IntN(20), 40 + r.IntN(60)} {
				l := []api.Tri{}
				for i := range n {
					l = append(l, k.one(i))
				}
				if seed%2 == 1 {
					slices.Reverse(l)
				}
				rays := []api.Ray{}
				for i := range 20 {
					rays = append(rays, aimed(r, l[r.IntN(n)], i%10))
				}
				trees := []*bvh.Tree{tree(t, l, false), tree(t, l, true)}
				call(fmt.Sprintf("%d %s (%d)", n, k.name, seed), l, trees, rays)
			}
		}
	}
}

// skips are lists of numbers to be skipped, by what is met.
func skips(r *rand.Rand, n int, met []api.Hit) [][]int {
	all, some := []int{}, []int{}
	for i := range n {
		all = append(all, n-1-i)
		some = append(some, r.IntN(3*n)-n)
	}
	l := [][]int{nil, {}, {r.IntN(n)}, {-1, n, n + 1, math.MinInt, math.MaxInt}, all, some}
	hit := []int{}
	for range min(3, len(met)) {
		h := firstSays(slices.DeleteFunc(slices.Clone(met), func(h api.Hit) bool { return slices.Contains(hit, h.Tri) }))
		hit = append(hit, h.Tri)
		l = append(l, slices.Clone(hit), append(slices.Clone(hit), hit...))
	}
	return l
}

// limits are ts to be asked with, by what is met.
func limits(met []api.Hit) []float64 {
	l := []float64{0, nul, -1, tiny, 1, 2.5, huge, inf, -inf, nan}
	if h := firstSays(met); h.Tri >= 0 {
		l = append(l, h.T, math.Nextafter(h.T, -inf), math.Nextafter(h.T, inf), -h.T)
	}
	for _, h := range met[:min(3, len(met))] {
		l = append(l, h.T, math.Nextafter(h.T, inf))
	}
	return l
}

// P13.1, and P13.2 with it

func TestWhatIsMetFirst(t *testing.T) {
	for _, c := range []struct {
		name string
		l    []api.Tri
		r    api.Ray
		say  api.Hit
	}{
		{"no triangle", nil, up, none},
		{"no triangle, but a list", []api.Tri{}, up, none},
		{"one", levels(2), up, upHit(0, 2)},
		{"one behind", levels(-2), up, none},
		{"one at the ray's point", levels(0), up, none},
		{"one just ahead", levels(tiny), up, upHit(0, tiny)},
		{"one past which it goes", levels(2), ray(v(2, 2, 0), v(0, 0, 1)), none},
		{"one that it goes along", levels(2), ray(v(-3, 0, 2), v(1, 0, 0)), none},
		{"one from behind", levels(-2), ray(v(1, 0, 0), v(0, 0, -1)), upHit(0, 2)},
		{"a direction of 2", levels(2), ray(v(1, 0, 0), v(0, 0, 2)), upHit(0, 1)},
		{"with -0", levels(2), ray(v(1, nul, nul), v(nul, nul, 1)), upHit(0, 2)},
		{"rising", levels(1, 2, 3), up, upHit(0, 1)},
		{"falling", levels(3, 2, 1), up, upHit(2, 1)},
		{"mixed", levels(3, 1, 2), up, upHit(1, 1)},
		{"only the last one is ahead", levels(-3, -1, -2, 0, 7), up, upHit(4, 7)},
		{"only the first one is ahead", levels(7, -3, -1, -2, 0), up, upHit(0, 7)},
		{"ahead by little", levels(2, math.Nextafter(2, 0), 2), up, upHit(1, math.Nextafter(2, 0))},
		{"behind by little", levels(math.Nextafter(2, 3), 2, math.Nextafter(2, 3)), up, upHit(1, 2)},
		{"two at one place", levels(2, 2), up, upHit(0, 2)},
		{"two at one place, and one behind them", levels(3, 2, 2), up, upHit(1, 2)},
		{"five at one place", levels(2, 2, 2, 2, 2), up, upHit(0, 2)},
		{"nine at one place, and three behind them", levels(3, 3, 2, 2, 2, 2, 3, 2, 2, 2, 2, 2), up, upHit(2, 2)},
		{"at one T, of other U and V", []api.Tri{level(2), turned(2)}, up, upHit(0, 2)},
		{"at one T, the other way round", []api.Tri{turned(2), level(2)}, up, api.Hit{Tri: 0, T: 2, U: 0.25, V: 0.5}},
		{"at one T, behind others", []api.Tri{level(3), turned(2), level(2), turned(3)}, up, api.Hit{Tri: 1, T: 2, U: 0.25, V: 0.5}},
		{"of no direction", levels(0, 0), ray(v(1, 0, 0), v(0, 0, 0)), none},
		{"of no direction, -0", levels(0, 0), ray(v(1, 0, 0), v(nul, nul, nul)), none},
		{"a point that is no number", levels(1, 2), ray(v(nan, 0, 0), v(0, 0, 1)), none},
		{"a direction that is no number", levels(1, 2), ray(v(1, 0, 0), v(0, nan, 1)), none},
		{"an infinite point", levels(1, 2), ray(v(1, 0, -inf), v(0, 0, 1)), none},
		{"an infinite direction", levels(1, 2), ray(v(1, 0, 0), v(0, 0, inf)), none},
		{"infinitely far", levels(1, 0, 0), ray(v(1, 0, -1e300), v(0, 0, 1e-10)), upHit(0, inf)},
		{"infinitely far, in many nodes", levels(4, 3, 2, 1, 0, 4, 3, 2, 1, 0), ray(v(1, 0, -1e300), v(0, 0, 1e-10)), upHit(0, inf)},
		{"without a surface", []api.Tri{shape(v(1, 0, 1), v(1, 0, 1), v(1, 0, 1)), shape(v(0, 0, 1), v(2, 0, 1), v(4, 0, 1)), level(2)}, up, upHit(2, 2)},
		{"without a surface, alone", []api.Tri{shape(v(1, 0, 1), v(1, 0, 1), v(1, 0, 1))}, up, none},
	} {
		first(t, c.name, c.l, c.r, nil, c.say)
		blocked(t, c.name, c.l, c.r, inf, nil, c.say.Tri >= 0 && c.say.T < inf)
	}
}

func TestWhatIsSkipped(t *testing.T) {
	five := levels(5, 1, 3, 2, 4)
	place := []api.Tri{level(2), turned(2), level(2), level(3), turned(2), turned(1)}
	for _, c := range []struct {
		name string
		l    []api.Tri
		skip []int
		say  api.Hit
	}{
		{"none", five, nil, upHit(1, 1)},
		{"a list of none", five, []int{}, upHit(1, 1)},
		{"the first one", five, []int{1}, upHit(3, 2)},
		{"another one", five, []int{3}, upHit(1, 1)},
		{"number 0", five, []int{0}, upHit(1, 1)},
		{"all but number 0", five, []int{1, 2, 3, 4}, upHit(0, 5)},
		{"all but the last one", five, []int{0, 1, 2, 3}, upHit(4, 4)},
		{"two", five, []int{3, 1}, upHit(2, 3)},
		{"two, the other way round", five, []int{1, 3}, upHit(2, 3)},
		{"one, twice", five, []int{1, 1}, upHit(3, 2)},
		{"two, twice", five, []int{1, 3, 1, 3}, upHit(2, 3)},
		{"all", five, []int{0, 1, 2, 3, 4}, none},
		{"all, mixed", five, []int{3, 0, 4, 1, 2}, none},
		{"all, twice", five, []int{0, 1, 2, 3, 4, 4, 3, 2, 1, 0}, none},
		{"below 0", five, []int{-1, -2, -5, math.MinInt}, upHit(1, 1)},
		{"past the end", five, []int{5, 6, 512, math.MaxInt}, upHit(1, 1)},
		{"below 0, past the end, and the first one", five, []int{-1, 5, 1, math.MinInt, math.MaxInt}, upHit(3, 2)},
		{"of those at one place the first one", place, []int{5, 0}, api.Hit{Tri: 1, T: 2, U: 0.25, V: 0.5}},
		{"of those at one place two", place, []int{0, 1, 5}, upHit(2, 2)},
		{"of those at one place three", place, []int{5, 2, 1, 0}, api.Hit{Tri: 4, T: 2, U: 0.25, V: 0.5}},
		{"all at one place", place, []int{0, 1, 2, 4, 5}, upHit(3, 3)},
		{"none of no triangle", nil, nil, none},
		{"some of no triangle", nil, []int{0, 1, -1}, none},
	} {
		first(t, c.name, c.l, up, c.skip, c.say)
		blocked(t, c.name, c.l, up, inf, c.skip, c.say.Tri >= 0)
		if c.say.Tri >= 0 {
			blocked(t, c.name, c.l, up, c.say.T, c.skip, false)
			blocked(t, c.name, c.l, up, math.Nextafter(c.say.T, inf), c.skip, true)
		}
	}
}

func TestBlockedBelow(t *testing.T) {
	two, far := levels(3, 2), ray(v(1, 0, -1e300), v(0, 0, 1e-10))
	for _, c := range []struct {
		name string
		l    []api.Tri
		r    api.Ray
		t    float64
		skip []int
		say  bool
	}{
		{"no triangle", nil, up, inf, nil, false},
		{"far", two, up, 10, nil, true},
		{"between", two, up, 2.5, nil, true},
		{"just T", two, up, 2, nil, false},
		{"just above T", two, up, math.Nextafter(2, 3), nil, true},
		{"just below T", two, up, math.Nextafter(2, 0), nil, false},
		{"just the T of the one behind", two, up, 3, nil, true},
		{"the nearer one is skipped: just T", two, up, 3, []int{1}, false},
		{"the nearer one is skipped: just above T", two, up, math.Nextafter(3, 4), []int{1}, true},
		{"the farther one is skipped", two, up, math.Nextafter(2, 3), []int{0}, true},
		{"both are skipped", two, up, inf, []int{1, 0}, false},
		{"0", two, up, 0, nil, false},
		{"-0", two, up, nul, nil, false},
		{"the least number above 0", two, up, tiny, nil, false},
		{"below 0", two, up, -1, nil, false},
		{"below 0, as far as a triangle behind", levels(-2), up, -1, nil, false},
		{"a triangle behind", levels(-2), up, inf, nil, false},
		{"a triangle at the ray's point", levels(0), up, inf, nil, false},
		{"a triangle just ahead", levels(tiny), up, 2 * tiny, nil, true},
		{"a triangle just ahead: just T", levels(tiny), up, tiny, nil, false},
		{"infinite", two, up, inf, nil, true},
		{"infinite, below 0", two, up, -inf, nil, false},
		{"no number", two, up, nan, nil, false},
		{"the greatest number", two, up, huge, nil, true},
		{"infinitely far", levels(1, 0), far, inf, nil, false},
		{"infinitely far, no number", levels(1, 0), far, nan, nil, false},
		{"past it", two, ray(v(2, 2, 0), v(0, 0, 1)), inf, nil, false},
		{"of no direction", two, ray(v(1, 0, 2), v(0, 0, 0)), inf, nil, false},
		{"no number's ray", two, ray(v(1, nan, 0), v(0, 0, 1)), inf, nil, false},
		{"an infinite ray", two, ray(v(1, 0, 0), v(0, 0, inf)), inf, nil, false},
	} {
		blocked(t, c.name, c.l, c.r, c.t, c.skip, c.say)
		blocked(t, c.name+", in many nodes", slices.Concat(c.l, levels(-3, -4, -5, -6, -7, -8)), c.r, c.t, c.skip, c.say)
	}
}

// A miss has no parts of a triangle that is met, but not within it, or of one
// that is skipped.
func TestAMissIsNothingElse(t *testing.T) {
	l := levels(1, 2, 3)
	for _, r := range []api.Ray{up, ray(v(2, 2, 0), v(0, 0, 1)), ray(v(1, 0, 5), v(0, 0, 1)), ray(v(1, nan, 0), v(0, 0, 1))} {
		first(t, "all skipped", l, r, []int{0, 1, 2}, none)
	}
	first(t, "past it", l, ray(v(2, 2, 0), v(0, 0, 1)), nil, none)
	first(t, "behind", l, ray(v(1, 0, 5), v(0, 0, 1)), nil, none)
}

func TestScanIsWhatTheChapterSays(t *testing.T) {
	r := rand.New(rand.NewPCG(13, 1))
	hits, ties, blocks := 0, 0, 0
	each(t, func(name string, l []api.Tri, _ []*bvh.Tree, rays []api.Ray) {
		for _, a := range rays {
			for _, skip := range skips(r, len(l), met(l, a, nil)) {
				left := met(l, a, skip)
				say := firstSays(left)
				if got := Scan(l, a, skip...); !same(got, say) {
					t.Fatalf("%s, %v, but %v: %v, not %v", name, a, skip, got, say)
				}
				if say.Tri >= 0 {
					hits++
				}
				if slices.ContainsFunc(left, func(h api.Hit) bool { return h.T == say.T && (h.U != say.U || h.V != say.V) }) {
					ties++
				}
				for _, below := range limits(left) {
					say := blockedSays(left, below)
					if got := ScanAny(l, a, below, skip...); got != say {
						t.Fatalf("%s, %v, but %v, below %v: %v", name, a, skip, below, got)
					}
					if say {
						blocks++
					}
				}
			}
		}
	})
	if hits < 10000 || ties < 1000 || blocks < 10000 {
		t.Errorf("%d hits, %d at one T, %d blocked: too few", hits, ties, blocks)
	}
}

// P13.2

func TestByATreeItIsTheSame(t *testing.T) {
	r := rand.New(rand.NewPCG(13, 2))
	each(t, func(name string, l []api.Tri, trees []*bvh.Tree, rays []api.Ray) {
		for _, a := range rays {
			for _, skip := range skips(r, len(l), met(l, a, nil)) {
				say := Scan(l, a, skip...)
				for k, x := range trees {
					if got := First(x, l, a, skip...); !same(got, say) {
						t.Fatalf("%s, %s, %v, but %v: %v, not %v", name, ways[k].name, a, skip, got, say)
					}
				}
				for _, below := range limits(met(l, a, skip)) {
					say := ScanAny(l, a, below, skip...)
					for k, x := range trees {
						if got := Any(x, l, a, below, skip...); got != say {
							t.Fatalf("%s, %s, %v, but %v, below %v: %v", name, ways[k].name, a, skip, below, got)
						}
					}
				}
			}
		}
	})
}

// As many triangles as a tree may have, some beside the others at one height:
// of those that a ray meets there the first one may be in any node.
func TestByTheGreatestTree(t *testing.T) {
	r := rand.New(rand.NewPCG(13, 3))
	l := []api.Tri{}
	for range api.MaxTris {
		x, y, z := float64(r.IntN(40))-20, float64(r.IntN(40))-20, float64(r.IntN(5))
		l = append(l, shape(v(x, y, z), v(x+9, y, z), v(x, y+9, z)))
	}
	trees, most := []*bvh.Tree{tree(t, l, false), tree(t, l, true)}, 0
	for range 500 {
		a := ray(v(float64(r.IntN(40))-20, float64(r.IntN(40))-20, -1), v(0, 0, 1))
		all := met(l, a, nil)
		say := firstSays(all)
		for k, x := range trees {
			if got := First(x, l, a); !same(got, say) {
				t.Errorf("%s, %v: %v, not %v", ways[k].name, a, got, say)
			}
			if got := Any(x, l, a, 2); got != blockedSays(all, 2) {
				t.Errorf("%s, %v: %v", ways[k].name, a, got)
			}
		}
		most = max(most, len(all))
	}
	if most < 20 {
		t.Errorf("no ray meets more than %d", most)
	}
}

// The ray goes into all of these nodes just where it meets the triangles.
func TestOfALesserNumberInALaterNode(t *testing.T) {
	for n := 1; n <= 60; n++ {
		rising, falling := []api.Tri{}, []api.Tri{}
		for i := range n {
			rising = append(rising, beside(float64(i)/64))
			falling = append(falling, beside(float64(i)/-64))
		}
		for _, l := range [][]api.Tri{rising, falling} {
			for k := range min(n, 9) {
				skip := []int{}
				for i := range k {
					skip = append(skip, i)
				}
				say := firstSays(met(l, up, skip))
				if say.Tri != k {
					t.Fatalf("%d, but %d: %v", n, k, say)
				}
				first(t, fmt.Sprintf("%d, but %d", n, k), l, up, skip, say)
			}
		}
	}
}

// A box of another triangle may be gone into ahead of the one that is met.
func TestANearerBoxOfAFartherTriangle(t *testing.T) {
	slanted := shape(v(-1, -1, 1), v(3, -1, 9), v(-1, 3, 9))
	for _, l := range [][]api.Tri{
		{slanted, level(5)},
		{level(5), slanted},
		slices.Concat([]api.Tri{slanted}, levels(8, 7, 6, 5, 8, 7, 6, 8)),
		slices.Concat(levels(8, 7, 6, 5, 8, 7, 6, 8), []api.Tri{slanted}),
	} {
		k := slices.Index(l, level(5))
		first(t, "slanted", l, up, nil, upHit(k, 5))
		blocked(t, "slanted", l, up, 5, nil, false)
		blocked(t, "slanted", l, up, 5.5, nil, true)
	}
}

func TestOfANilTree(t *testing.T) {
	l := levels(1, 2, 3)
	for _, a := range []api.Ray{up, {}, ray(v(nan, inf, 0), v(0, 0, 1)), ray(v(0, 0, -1), v(0, 0, 1))} {
		for _, l := range [][]api.Tri{nil, {}, l, {api.Tri{}}} {
			if got := First(nil, l, a); !same(got, none) {
				t.Errorf("%v: %v", a, got)
			}
			if got := First(nil, l, a, 0, -1, 7); !same(got, none) {
				t.Errorf("%v: %v", a, got)
			}
			for _, below := range []float64{0, 1, inf, -inf, nan} {
				if Any(nil, l, a, below) || Any(nil, l, a, below, 0, 5) {
					t.Errorf("%v is blocked below %v", a, below)
				}
			}
		}
		if got := Visits(nil, a); got != 0 {
			t.Errorf("%v: %d", a, got)
		}
	}
}

func TestOfATreeOfNoTriangle(t *testing.T) {
	r := rand.New(rand.NewPCG(13, 4))
	for _, way := range ways {
		x := tree(t, nil, way.surface)
		for i := range 300 {
			a := aimed(r, level(1), i%10)
			if got := First(x, nil, a); !same(got, none) {
				t.Errorf("%s, %v: %v", way.name, a, got)
			}
			if Any(x, []api.Tri{}, a, inf) {
				t.Errorf("%s, %v is blocked", way.name, a)
			}
			if got := Visits(x, a); got != 0 {
				t.Errorf("%s, %v: %d", way.name, a, got)
			}
		}
	}
}

// Of a tree of other triangles nothing is promised but that the calls end.
func TestOfAnotherList(t *testing.T) {
	l := levels(5, 4, 3, 2, 1, 9, 8, 7, 6)
	for _, way := range ways {
		x := tree(t, l, way.surface)
		for n := range l {
			for _, list := range [][]api.Tri{l[:n:n], slices.Repeat([]api.Tri{{A: v(nan, inf, 0)}}, n)} {
				First(x, list, up)
				First(x, list, up, 0, 3)
				Any(x, list, up, inf)
				Any(x, list, up, 2)
			}
		}
		if got := First(x, nil, up); !same(got, none) || Any(x, nil, up, inf) {
			t.Errorf("%s, of no list: %v", way.name, got)
		}
		if got := First(&bvh.Tree{}, l, up); !same(got, none) {
			t.Errorf("%s, of a tree without nodes: %v", way.name, got)
		}
	}
}

// Lists that may be in no tree are asked, too.
func TestScanOfAnyTriangles(t *testing.T) {
	wild := []api.Tri{{A: v(nan, nan, nan)}, {B: v(inf, 0, 0)}, {C: v(0, -inf, nan)}, shape(v(-huge, -huge, 1), v(huge, -huge, 1), v(0, huge, 1))}
	l := slices.Concat(wild, levels(1<<21), wild, levels(1<<22))
	if got := Scan(l, up); !same(got, upHit(4, 1<<21)) {
		t.Error(got)
	}
	if got := Scan(l, up, 4); !same(got, upHit(9, 1<<22)) {
		t.Error(got)
	}
	if ScanAny(l, up, 1<<21) || !ScanAny(l, up, 1<<22) || ScanAny(l, up, 1<<22, 4) {
		t.Error("not as what is met first")
	}
	many := slices.Concat(levels(slices.Repeat([]float64{3}, 5000)...), levels(2))
	if got := Scan(many, up); !same(got, upHit(5000, 2)) {
		t.Error(got)
	}
}

// What is handed in stays as it is, with what stands behind it.

func TestListsStayAsTheyAre(t *testing.T) {
	list, numbers := levels(5, 1, 3, 2, 4, 6, 7, 8, 9), []int{3, 1, -1, 1, 77}
	l, skip := slices.Clone(list)[:7], slices.Clone(numbers)[:4]
	calls := map[string]func(x *bvh.Tree){
		"Scan":    func(*bvh.Tree) { Scan(l, up, skip...) },
		"ScanAny": func(*bvh.Tree) { ScanAny(l, up, 9, skip...) },
		"First":   func(x *bvh.Tree) { First(x, l, up, skip...) },
		"Any":     func(x *bvh.Tree) { Any(x, l, up, 9, skip...) },
		"Visits":  func(x *bvh.Tree) { Visits(x, up) },
	}
	for _, way := range ways {
		for name, call := range calls {
			x, fresh := tree(t, l, way.surface), tree(t, l, way.surface)
			call(x)
			if !slices.Equal(l[:9], list) || !slices.Equal(skip[:5], numbers) {
				t.Errorf("%s, %s: %v, %v", name, way.name, l[:9], skip[:5])
			}
			if !slices.Equal(x.Nodes(), fresh.Nodes()) || !slices.Equal(x.Order(), fresh.Order()) {
				t.Errorf("%s, %s: the tree is another one", name, way.name)
			}
		}
	}
}

// What was asked before, and is changed since, has no say in an answer.
func TestNothingIsKept(t *testing.T) {
	for _, way := range ways {
		l, skip := levels(5, 1, 3, 2, 4, 6), []int{1}
		x := tree(t, l, way.surface)
		for range 3 {
			if h := First(x, l, up, skip...); !same(h, upHit(3, 2)) || Any(x, l, up, 2, skip...) || !Any(x, l, up, 3, skip...) {
				t.Errorf("%s: %v", way.name, h)
			}
			if h := Scan(l, up, skip...); !same(h, upHit(3, 2)) || ScanAny(l, up, 2, skip...) || !ScanAny(l, up, 3, skip...) {
				t.Error(h)
			}
			skip[0] = 3
			if h := First(x, l, up, skip...); !same(h, upHit(1, 1)) {
				t.Errorf("%s: %v", way.name, h)
			}
			if h := Scan(l, up, skip...); !same(h, upHit(1, 1)) {
				t.Error(h)
			}
			skip[0] = 1
			l[3] = level(-2)
			if h := Scan(l, up, skip...); !same(h, upHit(2, 3)) {
				t.Error(h)
			}
			l[3] = level(2)
		}
	}
}

// P13.3

func TestVisits(t *testing.T) {
	// By the median: 0 to 10, of it 0 to 4, 0 to 1, 2 to 4, 5 to 10, 5 to 7, 8 to 10.
	row := cubes(10, 9, 8, 7, 6, 5, 4, 3, 2, 1, 0)
	apart := cubes(0, 1, 2, 100, 101, 102)
	down := func(x float64) api.Ray { return ray(v(x, 0, 9), v(0, 0, -1)) }
	for _, c := range []struct {
		name string
		l    []api.Tri
		r    api.Ray
		say  int
	}{
		{"no triangle", nil, down(0), 0},
		{"no triangle, slanting", nil, ray(v(0, 0, 0), v(1, 2, 3)), 0},
		{"one leaf", cubes(1, 2, 3), down(2), 1},
		{"one leaf, between the triangles", cubes(1, 5), down(3), 1},
		{"past one leaf", cubes(1, 2, 3), down(4), 0},
		{"past one leaf, by little", cubes(1), down(math.Nextafter(1.5, 2)), 0},
		{"along the side of one leaf", cubes(1), down(1.5), 1},
		{"one leaf behind", cubes(1), ray(v(1, 0, 9), v(0, 0, 1)), 0},
		{"within one leaf, of no direction", cubes(1), ray(v(1, 0, 0), v(0, nul, 0)), 1},
		{"out of one leaf, of no direction", cubes(1), ray(v(3, 0, 0), v(0, nul, 0)), 0},
		{"the root alone", apart, down(50), 1},
		{"the root and its left part", apart, down(1), 2},
		{"the root and its right part", apart, down(101), 2},
		{"all three", apart, ray(v(-9, 0, 0), v(1, 0, 0)), 3},
		{"all three, from behind", apart, ray(v(200, 0, 0), v(-1, 0, 0)), 3},
		{"from between", apart, ray(v(50, 0, 0), v(1, 0, 0)), 2},
		{"from between, the other way", apart, ray(v(50, 0, 0), v(-1, 0, 0)), 2},
		{"from within the left part", apart, ray(v(1, 0, 0), v(1, 0, 0)), 3},
		{"away from all", apart, ray(v(103, 0, 0), v(1, 0, 0)), 0},
		{"three of seven", row, down(1), 3},
		{"three of seven, at the right", row, down(9), 3},
		{"on the side of two leaves", row, down(1.5), 4},
		{"on the side of two inner nodes", row, down(4.5), 5},
		{"on the side of all", row, down(10.5), 3},
		{"past the side of all", row, down(math.Nextafter(10.5, 11)), 0},
		{"all seven", row, ray(v(-9, 0, 0), v(1, 0, 0)), 7},
		{"all seven, along a side", row, ray(v(-9, 0.5, -0.5), v(1, nul, 0)), 7},
		{"all seven, slanting", row, ray(v(-9, -0.1, -0.1), v(10, 0.1, 0.1)), 7},
		{"past all seven", row, ray(v(-9, math.Nextafter(0.5, 1), 0), v(1, 0, 0)), 0},
		{"of no direction, within three of seven", row, ray(v(1, 0, 0), v(0, 0, 0)), 3},
		{"a point that is no number", row, ray(v(1, nan, 9), v(0, 0, -1)), 0},
		{"a direction that is no number", row, ray(v(1, 0, 9), v(nan, 0, -1)), 0},
		{"an infinite point", row, ray(v(1, 0, inf), v(0, 0, -1)), 0},
		{"an infinite direction", row, ray(v(1, 0, 9), v(0, 0, -inf)), 0},
	} {
		if got := Visits(tree(t, c.l, false), c.r); got != c.say {
			t.Errorf("%s: %d, not %d", c.name, got, c.say)
		}
	}
	if got := Visits(tree(t, apart, true), down(50)); got != 1 {
		t.Errorf("by the surface, the root alone: %d", got)
	}
}

func TestVisitsAreWhatTheChapterSays(t *testing.T) {
	kinds := map[string]int{}
	each(t, func(name string, _ []api.Tri, trees []*bvh.Tree, rays []api.Ray) {
		for k, x := range trees {
			for _, a := range rays {
				say, alone := visitsSays(x, a)
				if got := Visits(x, a); got != say || got != alone {
					t.Fatalf("%s, %s, %v: %d, not %d (%d)", name, ways[k].name, a, got, say, alone)
				}
				switch all := len(x.Nodes()); {
				case say == 0:
					kinds["none"]++
				case say == all && all > 1:
					kinds["all"]++
				case say == 1 && all > 1:
					kinds["the root alone"]++
				case all > 1:
					kinds["some"]++
				}
			}
		}
	})
	for _, k := range []string{"none", "all", "the root alone", "some"} {
		if kinds[k] < 30 {
			t.Errorf("%s: %d rays, too few", k, kinds[k])
		}
	}
}

// Where there is nothing nearer, it goes on at the next node that waits.

func TestNodesAreLeftOut(t *testing.T) {
	row := cubes(10, 9, 8, 7, 6, 5, 4, 3, 2, 1, 0)
	x, along := tree(t, row, false), ray(v(-1.5, 0, 0), v(1, 0, 0))
	for _, c := range []struct {
		most  float64
		nodes int // which are gone into so far along, or nearer
	}{{0, 0}, {0.5, 0}, {1, 3}, {2.9, 3}, {3, 4}, {6, 6}, {8.5, 6}, {9, 7}, {inf, 7}, {nan, 0}} {
		nodes, numbers := []api.Node{}, 0
		worth := func(near float64) bool { return near <= c.most }
		for n := range entered(x, along, worth) {
			nodes = append(nodes, n)
		}
		for range candidates(x, along, worth) {
			numbers++
		}
		for _, n := range nodes {
			numbers -= n.To - n.From
		}
		if len(nodes) != c.nodes || numbers != 0 {
			t.Errorf("up to %v: %d nodes, not %d, and %d numbers too many", c.most, len(nodes), c.nodes, numbers)
		}
	}
}

func TestNodesComeFromLeftToRight(t *testing.T) {
	x, a := tree(t, cubes(10, 9, 8, 7, 6, 5, 4, 3, 2, 1, 0), false), ray(v(-1.5, 0, 0), v(1, 0, 0))
	always := func(float64) bool { return true }
	if got := slices.Collect(entered(x, a, always)); !slices.Equal(got, x.Nodes()) {
		t.Error(got)
	}
	if got := slices.Collect(candidates(x, a, always)); !slices.Equal(got, x.Order()) {
		t.Error(got)
	}
	for n := range 12 { // left off after so many
		got := []int{}
		for i := range candidates(x, a, always) {
			if len(got) == n {
				break
			}
			got = append(got, i)
		}
		if !slices.Equal(got, x.Order()[:min(n, 11)]) {
			t.Error(got)
		}
	}
}

// The examples.

func TestExampleOne(t *testing.T) {
	for _, one := range []api.Tri{level(2), turned(2), shape(v(0, 0, 3), v(4, -1, 3), v(0, 1, 3))} {
		l := []api.Tri{one, one}
		h := Scan(l, up)
		if h.Tri != 0 {
			t.Error(h)
		}
		first(t, "at one place", l, up, nil, h)
		h.Tri = 1
		first(t, "at one place, but the first one", l, up, []int{0}, h)
	}
}
