package bvh

import (
	"fmt"
	"math"
	"math/rand/v2"
	"slices"
	"strings"
	"testing"

	"penumbra/api"
)

const (
	end  = 1 << 20 // the greatest part of a triangle
	many = 512     // the most triangles
)

var (
	nan  = math.NaN()
	inf  = math.Inf(1)
	nul  = math.Copysign(0, -1)
	huge = math.MaxFloat64
	tiny = math.SmallestNonzeroFloat64
)

var ways = map[string]bool{"by the median": false, "by the surface": true}

func v(x, y, z float64) api.Vec { return api.Vec{X: x, Y: y, Z: z} }

func shape(a, b, c api.Vec) api.Tri { return api.Tri{A: a, B: b, C: c} }

// around is a triangle whose box goes so far from a middle to either side.
func around(m, by api.Vec) api.Tri {
	return shape(v(m.X-by.X, m.Y+by.Y, m.Z-by.Z), v(m.X+by.X, m.Y-by.Y, m.Z), v(m.X, m.Y, m.Z+by.Z))
}

// cube is a triangle whose box has sides of 1.
func cube(x, y, z float64) api.Tri { return around(v(x, y, z), v(0.5, 0.5, 0.5)) }

// point is a triangle of one point.
func point(x, y, z float64) api.Tri { return shape(v(x, y, z), v(x, y, z), v(x, y, z)) }

// cubes are triangles whose middles' parts on an axis are these.
func cubes(axis int, at ...float64) []api.Tri {
	l := []api.Tri{}
	for _, x := range at {
		m := [3]float64{}
		m[axis] = x
		l = append(l, cube(m[0], m[1], m[2]))
	}
	return l
}

func points(at ...float64) []api.Tri {
	l := []api.Tri{}
	for _, x := range at {
		l = append(l, point(x, 0, 0))
	}
	return l
}

// bits tells whether numbers are equal, -0 not being 0.
func bits(x, y float64) bool { return math.Float64bits(x) == math.Float64bits(y) }

func bitsVec(a, b api.Vec) bool { return bits(a.X, b.X) && bits(a.Y, b.Y) && bits(a.Z, b.Z) }

func bitsBox(a, b api.Box) bool { return bitsVec(a.Lo, b.Lo) && bitsVec(a.Hi, b.Hi) }

var empty = api.Box{Lo: v(inf, inf, inf), Hi: v(-inf, -inf, -inf)}

// made is a tree that may be.
func made(t *testing.T, l []api.Tri, surface bool) *Tree {
	t.Helper()
	x, err := New(l, surface)
	if x == nil || err != api.OK {
		t.Fatalf("%d triangles: %v, %v", len(l), x, err)
	}
	return x
}

// text tells a tree by its leaves' numbers, each node in brackets.
func text(x *Tree) string {
	nodes, order := x.Nodes(), x.Order()
	var told func(i int) string
	told = func(i int) string {
		n := nodes[i]
		if n.Left == 0 && n.Right == 0 {
			return "(" + strings.Trim(fmt.Sprint(order[n.From:n.To]), "[]") + ")"
		}
		return "(" + told(n.Left) + told(n.Right) + ")"
	}
	return told(0)
}

// The model is the chapter, and what it names of layer 4, word for word.

type model struct {
	surface bool
	boxes   []api.Box
	nodes   []api.Node
	order   []int
	depth   int
	ks      []int // which bins parted lists
}

func arrays(b api.Box) (lo, hi [3]float64) {
	return [3]float64{b.Lo.X, b.Lo.Y, b.Lo.Z}, [3]float64{b.Hi.X, b.Hi.Y, b.Hi.Z}
}

func boxed(lo, hi [3]float64) api.Box {
	return api.Box{Lo: v(lo[0], lo[1], lo[2]), Hi: v(hi[0], hi[1], hi[2])}
}

func joined(a, b api.Box) api.Box {
	lo, hi := arrays(a)
	less, more := arrays(b)
	for k := range 3 {
		if less[k] < lo[k] {
			lo[k] = less[k]
		}
		if more[k] > hi[k] {
			hi[k] = more[k]
		}
	}
	return boxed(lo, hi)
}

func grown(b api.Box, p api.Vec) api.Box { return joined(b, api.Box{Lo: p, Hi: p}) }

func boxOf(t api.Tri) api.Box { return grown(grown(grown(empty, t.A), t.B), t.C) }

func middle(b api.Box) [3]float64 {
	lo, hi := arrays(b)
	for k := range 3 {
		lo[k] = (lo[k] + hi[k]) * 0.5
	}
	return lo
}

func half(b api.Box) float64 {
	lo, hi := arrays(b)
	x, y, z := hi[0]-lo[0], hi[1]-lo[1], hi[2]-lo[2]
	first, second, third := float64(x*y), float64(y*z), float64(z*x)
	return float64(first+second) + third
}

func (m *model) all(l []int) api.Box {
	b := empty
	for _, i := range l {
		b = joined(b, m.boxes[i])
	}
	return b
}

func (m *model) middles(l []int) (axis int, lo, hi float64) {
	b := empty
	for _, i := range l {
		p := middle(m.boxes[i])
		b = grown(b, v(p[0], p[1], p[2]))
	}
	los, his := arrays(b)
	for k := range 3 {
		if his[k]-los[k] > his[axis]-los[axis] {
			axis = k
		}
	}
	return axis, los[axis], his[axis]
}

func (m *model) median(l []int, axis int) (left, right []int) {
	l = slices.Clone(l)
	for i := range l { // each is taken to its place among those ahead of it
		for k := i; k > 0; k-- {
			a, b := middle(m.boxes[l[k-1]])[axis], middle(m.boxes[l[k]])[axis]
			if a < b || a == b && l[k-1] < l[k] {
				break
			}
			l[k-1], l[k] = l[k], l[k-1]
		}
	}
	return l[:len(l)/2], l[len(l)/2:]
}

func (m *model) bin(i, axis int, lo, hi float64) int {
	share := float64((middle(m.boxes[i])[axis] - lo) / (hi - lo))
	return int(math.Min(7, math.Floor(8*share)))
}

func (m *model) parted(l []int) (left, right []int) {
	axis, lo, hi := m.middles(l)
	if !m.surface || !(hi > lo) {
		return m.median(l, axis)
	}
	best, least := 0, nan
	for k := 1; k <= 7; k++ {
		below, rest := []int{}, []int{}
		for _, i := range l {
			if m.bin(i, axis, lo, hi) < k {
				below = append(below, i)
			} else {
				rest = append(rest, i)
			}
		}
		if len(below) == 0 || len(rest) == 0 {
			continue
		}
		one := float64(half(m.all(below)) * float64(len(below)))
		two := float64(half(m.all(rest)) * float64(len(rest)))
		if cost := one + two; best == 0 || cost < least {
			best, least, left, right = k, cost, below, rest
		}
	}
	if best == 0 {
		return m.median(l, axis)
	}
	m.ks = append(m.ks, best)
	return left, right
}

// build lays a list's nodes, and tells its depth.
func (m *model) build(l []int) int {
	at := len(m.nodes)
	m.nodes = append(m.nodes, api.Node{Box: m.all(l)})
	if len(l) <= 4 {
		from := len(m.order)
		m.order = append(m.order, l...)
		slices.Sort(m.order[from:])
		m.nodes[at].From, m.nodes[at].To = from, len(m.order)
		return 1
	}
	left, right := m.parted(l)
	m.nodes[at].Left = len(m.nodes)
	one := m.build(left)
	m.nodes[at].Right = len(m.nodes)
	return 1 + max(one, m.build(right))
}

func modelled(l []api.Tri, surface bool) *model {
	m := &model{surface: surface}
	numbers := []int{}
	for i, t := range l {
		m.boxes = append(m.boxes, boxOf(t))
		numbers = append(numbers, i)
	}
	m.depth = m.build(numbers)
	return m
}

// against holds a tree against the model.
func against(t *testing.T, name string, l []api.Tri, surface bool) *model {
	t.Helper()
	x, m := made(t, l, surface), modelled(l, surface)
	if !slices.Equal(x.Order(), m.order) {
		t.Fatalf("%s: order %v, not %v", name, x.Order(), m.order)
	}
	alike := func(a, b api.Node) bool {
		same := bitsBox(a.Box, b.Box)
		a.Box, b.Box = empty, empty
		return same && a == b
	}
	if nodes := x.Nodes(); !slices.EqualFunc(nodes, m.nodes, alike) {
		t.Fatalf("%s: nodes %v, not %v", name, nodes, m.nodes)
	}
	if x.Depth() != m.depth {
		t.Fatalf("%s: depth %d, not %d", name, x.Depth(), m.depth)
	}
	return m
}

// sound tells what makes a tree of these triangles unsound.
func sound(x *Tree, l []api.Tri) string {
	nodes, order := x.Nodes(), x.Order()
	rising := slices.Sorted(slices.Values(order))
	for i, n := range rising {
		if n != i {
			return fmt.Sprintf("the order %v has not each number once", order)
		}
	}
	if len(order) != len(l) {
		return fmt.Sprintf("%d numbers of %d triangles", len(order), len(l))
	}
	next, place, wrong := 0, 0, ""
	var below func(i int) api.Box
	below = func(i int) api.Box {
		if i != next || i >= len(nodes) {
			wrong = fmt.Sprintf("node %d stands where %d should", i, next)
			return empty
		}
		next++
		n, b := nodes[i], empty
		if n.Left == 0 && n.Right == 0 {
			if n.From != place || n.To < n.From || n.To > n.From+4 || n.To > len(order) || !slices.IsSorted(order[n.From:n.To]) {
				wrong = fmt.Sprintf("leaf %d is %v", i, n)
				return empty
			}
			for ; place < n.To; place++ {
				b = joined(b, boxOf(l[order[place]]))
			}
		} else {
			before := place
			b = joined(below(n.Left), below(n.Right))
			if n.From != 0 || n.To != 0 || place < before+5 && wrong == "" {
				wrong = fmt.Sprintf("node %d is %v", i, n)
			}
		}
		if n.Box != b && wrong == "" {
			wrong = fmt.Sprintf("node %d has the box %v, not %v", i, n.Box, b)
		}
		return b
	}
	below(0)
	if wrong == "" && (next != len(nodes) || place != len(order)) {
		return fmt.Sprintf("%d of %d nodes, %d of %d places", next, len(nodes), place, len(order))
	}
	return wrong
}

// grid is numbers that fall together often.
var grid = []float64{-3, -2, -1.5, -1, -0.7, -0.1, nul, 0, 0.1, 0.3, 1, 1.5, 2, 3}

// kind is a maker of triangles, by their numbers.
type kind struct {
	name string
	one  func(i int) api.Tri
}

func kinds(r *rand.Rand) []kind {
	pick := func() float64 { return grid[r.IntN(len(grid))] }
	some := func() float64 { return r.Float64()*2 - 1 }
	great := func() float64 { return math.Ldexp(some(), r.IntN(21)) }
	zero := func() float64 { return []float64{0, nul, 0, nul, 1}[r.IntN(5)] }
	three := func(f func() float64) api.Vec { return v(f(), f(), f()) }
	axis := r.IntN(3)
	return []kind{
		{"anywhere, small", func(int) api.Tri { return around(three(some), v(some()/8, some()/8, some()/8)) }},
		{"anywhere, great", func(int) api.Tri { return shape(three(some), three(some), three(some)) }},
		{"of every size", func(int) api.Tri {
			return around(v(great()/2, great()/2, great()/2), v(great()/2, great()/4, great()/8))
		}},
		{"on a grid", func(int) api.Tri { return shape(three(pick), three(pick), three(pick)) }},
		{"alike, on a grid", func(int) api.Tri { return cube(pick(), pick(), pick()) }},
		{"points", func(int) api.Tri { return point(some(), some(), some()) }},
		{"points on a grid", func(int) api.Tri { return point(pick(), pick(), pick()) }},
		{"points of zeros", func(int) api.Tri { return point(zero(), zero(), zero()) }},
		{"all the same", func(int) api.Tri { return cube(1, 2, 3) }},
		{"on a line", func(int) api.Tri { return cubes(axis, some()*9)[0] }},
		{"on a line, rising", func(i int) api.Tri { return cubes(axis, float64(i))[0] }},
		{"on a line, often", func(int) api.Tri { return cubes(axis, float64(r.IntN(9)))[0] }},
		{"at both ends", func(int) api.Tri { return cubes(axis, float64(r.IntN(2)))[0] }},
		{"nested, far apart", func(i int) api.Tri { return point(math.Ldexp(1, 20-4*min(i, 273)), 0, 0) }},
		{"tiny", func(int) api.Tri { return point(tiny*float64(r.IntN(40)), tiny*float64(r.IntN(9)), -tiny) }},
	}
}

// each calls with many lists, and their names.
func each(call func(name string, l []api.Tri)) {
	for seed := range uint64(30) {
		r := rand.New(rand.NewPCG(12, seed))
		counts := []int{int(seed), 5 + int(seed), 40 + r.IntN(60)}
		if seed == 0 {
			counts = []int{many, many - 1, 0, 4}
		}
		for _, k := range kinds(r) {
			for _, n := range counts {
				l := []api.Tri{}
				for i := range n {
					l = append(l, k.one(i))
				}
				call(fmt.Sprintf("%d %s", n, k.name), l)
				r.Shuffle(n, func(i, j int) { l[i], l[j] = l[j], l[i] })
				call(fmt.Sprintf("%d %s, shuffled", n, k.name), l)
			}
		}
	}
}

// spoilt are copies of a list, with x in the place of each part of the triangle
// at a place.
func spoilt(l []api.Tri, at int, x float64) [][]api.Tri {
	all := [][]api.Tri{}
	for k := range 9 {
		c := slices.Clone(l)
		t := &c[at]
		*[]*float64{&t.A.X, &t.A.Y, &t.A.Z, &t.B.X, &t.B.Y, &t.B.Z, &t.C.X, &t.C.Y, &t.C.Z}[k] = x
		all = append(all, c)
	}
	return all
}

// drawn are n triangles anywhere.
func drawn(n int) []api.Tri {
	r := rand.New(rand.NewPCG(12, uint64(n)))
	l := []api.Tri{}
	for range n {
		l = append(l, cube(r.Float64()*100, r.Float64()*100, r.Float64()*100))
	}
	return l
}

// P12.1

func TestNewOfTooMany(t *testing.T) {
	for name, surface := range ways {
		if x, err := New(drawn(many), surface); x == nil || err != api.OK || len(x.Order()) != many {
			t.Errorf("%s, 512: %v, %v", name, x, err)
		}
		for _, n := range []int{many + 1, many + 2, 1000, 5000} {
			if x, err := New(drawn(n), surface); x != nil || err != api.ErrBig {
				t.Errorf("%s, %d: %v, %v", name, n, x, err)
			}
		}
	}
}

func TestNewOfPartsWithinAndBeyond(t *testing.T) {
	past := math.Nextafter(end, inf)
	within := []float64{end, -end, math.Nextafter(end, 0), math.Nextafter(-end, 0), 0, nul, tiny, -tiny}
	beyond := []float64{past, -past, end + 1, -end - 1, 1 << 21, 1e300, -1e300, huge, -huge, inf, -inf, nan}
	for name, surface := range ways {
		for _, n := range []int{1, 4, 5, 9} {
			l := drawn(n)
			for _, at := range []int{0, n / 2, n - 1} {
				for _, x := range within {
					for _, c := range spoilt(l, at, x) {
						if y, err := New(c, surface); err != api.OK || sound(y, c) != "" {
							t.Errorf("%s, %v at %d of %d: %v, %s", name, x, at, n, err, sound(y, c))
						}
					}
				}
				for _, x := range beyond {
					for k, c := range spoilt(l, at, x) {
						if y, err := New(c, surface); y != nil || err != api.ErrArg {
							t.Errorf("%s, %v in part %d of %d of %d: %v, %v", name, x, k, at, n, y, err)
						}
					}
				}
			}
		}
	}
}

func TestNewTellsOfTooManyFirst(t *testing.T) {
	for name, surface := range ways {
		for _, x := range []float64{nan, inf, -inf, end + 1, -end - 1} {
			for _, at := range []int{0, 100, many - 1} {
				for k, c := range spoilt(drawn(many), at, x) {
					if y, err := New(c, surface); y != nil || err != api.ErrArg {
						t.Errorf("%s, 512, %v in part %d of %d: %v, %v", name, x, k, at, y, err)
					}
				}
			}
			for _, at := range []int{0, many - 1, many} {
				for k, c := range spoilt(drawn(many+1), at, x) {
					if y, err := New(c, surface); y != nil || err != api.ErrBig {
						t.Errorf("%s, 513, %v in part %d of %d: %v, %v", name, x, k, at, y, err)
					}
				}
			}
		}
	}
}

func TestNewOfNoTriangle(t *testing.T) {
	for name, surface := range ways {
		for _, l := range [][]api.Tri{nil, {}, make([]api.Tri, 0, 9)} {
			x := made(t, l, surface)
			nodes := x.Nodes()
			if len(nodes) != 1 || nodes[0] != (api.Node{Box: empty}) {
				t.Errorf("%s: nodes %v", name, nodes)
			}
			if n, ok := x.Root(); !ok || n != (api.Node{Box: empty}) {
				t.Errorf("%s: root %v, %v", name, n, ok)
			}
			if len(x.Order()) != 0 || x.Depth() != 1 || x.Tri(0) != -1 {
				t.Errorf("%s: %v, %d, %d", name, x.Order(), x.Depth(), x.Tri(0))
			}
			if _, ok := x.Node(1); ok {
				t.Errorf("%s: there is a node 1", name)
			}
		}
	}
}

func TestNewOfSoManyAsMakeOneLeaf(t *testing.T) {
	for name, surface := range ways {
		for n := 1; n <= 4; n++ {
			l := cubes(0, 9, 3, 7, -1)[:n]
			x := made(t, l, surface)
			say := api.Node{Box: api.Box{Lo: v(slices.Min([]float64{9, 3, 7, -1}[:n])-0.5, -0.5, -0.5), Hi: v(9.5, 0.5, 0.5)}, To: n}
			if nodes := x.Nodes(); len(nodes) != 1 || nodes[0] != say {
				t.Errorf("%s, %d: %v, not %v", name, n, nodes, say)
			}
			if o := x.Order(); !slices.Equal(o, []int{0, 1, 2, 3}[:n]) || x.Depth() != 1 {
				t.Errorf("%s, %d: %v, %d", name, n, o, x.Depth())
			}
		}
	}
}

func TestTreesByTheMedian(t *testing.T) {
	for _, c := range []struct {
		name string
		l    []api.Tri
		say  string
	}{
		{"four", cubes(0, 4, 3, 2, 1), "(0 1 2 3)"},
		{"five, rising", cubes(0, 1, 2, 3, 4, 5), "((0 1)(2 3 4))"},
		{"five, falling", cubes(0, 5, 4, 3, 2, 1), "((3 4)(0 1 2))"},
		{"five, mixed", cubes(0, 5, 1, 4, 2, 3), "((1 3)(0 2 4))"},
		{"five, one far off", cubes(0, 0, 0.1, 0.2, 0.3, 1000), "((0 1)(2 3 4))"},
		{"eight", cubes(0, 8, 1, 7, 2, 6, 3, 5, 4), "((1 3 5 7)(0 2 4 6))"},
		{"nine", cubes(0, 0, 7, 5, 3, 1, 8, 6, 4, 2), "((0 3 4 8)((2 7)(1 5 6)))"},
		{"ten", cubes(0, 9, 8, 7, 6, 5, 4, 3, 2, 1, 0), "(((8 9)(5 6 7))((3 4)(0 1 2)))"},
		{"eleven", cubes(0, 0, 1, 2, 3, 4, 5, 6, 7, 8, 9, 10), "(((0 1)(2 3 4))((5 6 7)(8 9 10)))"},
		{"the same ones in the midst: the lesser numbers", cubes(0, 1, 1, 2, 1, 0, 1), "((0 1 4)(2 3 5))"},
		{"the same ones at an end: the lesser numbers", cubes(0, 7, 3, 3, 3, 3, 3, 3), "((1 2 3)(0 4 5 6))"},
		{"of 0 and -0: the lesser numbers", points(0, nul, 1, nul, 0, nul, 0, -1), "((0 1 3 7)(2 4 5 6))"},
		{"all the same", cubes(0, 3, 3, 3, 3, 3, 3, 3), "((0 1 2)(3 4 5 6))"},
		{"all the same, nine", cubes(0, 3, 3, 3, 3, 3, 3, 3, 3, 3), "((0 1 2 3)((4 5)(6 7 8)))"},
	} {
		if got := text(made(t, c.l, false)); got != c.say {
			t.Errorf("%s: %s, not %s", c.name, got, c.say)
		}
		against(t, c.name, c.l, false)
	}
}

func TestTreesByTheSurface(t *testing.T) {
	for _, c := range []struct {
		name string
		l    []api.Tri
		say  string
	}{
		{"four", cubes(0, 4, 3, 2, 1), "(0 1 2 3)"},
		{"five, two ways at the same cost: the first one", cubes(0, 5, 1, 4, 2, 3), "((1 3)(0 2 4))"},
		{"eight", cubes(0, 8, 1, 7, 2, 6, 3, 5, 4), "((1 3 5 7)(0 2 4 6))"},
		{"five, one far off", cubes(0, 0, 1000, 0.1, 0.2, 0.3), "((0 2 3 4)(1))"},
		{"five, one far off below", cubes(0, 0, -1000, 0.1, 0.2, 0.3), "((1)(0 2 3 4))"},
		{"two bins", cubes(0, 10, 0, 0, 10, 0, 0), "((1 2 4 5)(0 3))"},
		{"two bins, along Z", cubes(2, 10, 0, 0, 10, 0, 0), "((1 2 4 5)(0 3))"},
		{"three bins, two ways at the same cost: the first one", cubes(0, 8, 0, 4, 4, 0, 8), "((1 4)(0 2 3 5))"},
		{"three bins, the latter way is cheaper by how many", cubes(0, 8, 0, 4, 8, 0, 4, 8), "((1 2 4 5)(0 3 6))"},
		{"three bins, the former way is cheaper by how many", cubes(0, 8, 0, 4, 0, 0, 4, 8), "((1 3 4)(0 2 5 6))"},
		{"three bins, the latter way is cheaper by how far", cubes(0, 8, 0, 3, 3, 0, 8), "((1 2 3 4)(0 5))"},
		{"all eight bins, one at Hi itself", cubes(0, 7, 0, 5, 3, 8, 1, 6, 4, 2), "((1 3 5 8)((2 7)(0 4 6)))"},
		{"no cost at all: the first bin", points(0, 1, 2, 3, 4, 5, 6, 7, 8), "((0)((1)((2)((3)((4)(5 6 7 8))))))"},
		{"a middle at a bin's end is in the next one", points(8, 0, 1, 0.5, 0.99, 7), "((1 3 4)(0 2 5))"},
		{"all in one place: by the median", cubes(0, 3, 3, 3, 3, 3, 3, 3), "((0 1 2)(3 4 5 6))"},
		{"of 0 and -0: by the median", points(0, nul, 0, nul, 0, nul), "((0 1 2)(3 4 5))"},
		{"two places: each by the median", cubes(0, 10, 0, 10, 0, 0, 10, 0, 0, 10, 10), "(((1 3)(4 6 7))((0 2)(5 8 9)))"},
	} {
		if got := text(made(t, c.l, true)); got != c.say {
			t.Errorf("%s: %s, not %s", c.name, got, c.say)
		}
		against(t, c.name, c.l, true)
	}
}

// Three heaps that are mirrored: to part the first one off costs just as much as
// to part the last one off, unless a product is joined with a sum.
func TestCostsAreRoundedEachForItself(t *testing.T) {
	r := rand.New(rand.NewPCG(12, 12))
	for range 1000 {
		x, by := 1+r.Float64(), v(r.Float64(), r.Float64(), r.Float64())
		l := []api.Tri{}
		for i := range 9 {
			l = append(l, around(v(x*float64(i%3-1), 0, 0), by))
		}
		if got := text(made(t, l, true)); got != "((0 3 6)((1 4 7)(2 5 8)))" {
			t.Errorf("at %v, %v to either side: %s", x, by, got)
		}
		against(t, "three heaps", l, true)
	}
}

// placed are cubes whose middles' parts are these.
func placed(xs, ys, zs []float64) []api.Tri {
	l := []api.Tri{}
	for i := range xs {
		l = append(l, cube(xs[i], ys[i], zs[i]))
	}
	return l
}

func TestTheLongestAxis(t *testing.T) {
	one, two := []float64{5, 1, 4, 2, 3}, []float64{1, 5, 2, 4, 3}
	less, more := []float64{5, 1.001, 4, 2, 3}, []float64{5.001, 1, 4, 2, 3}
	few := []float64{3, 1, 2, 3, 2}
	for _, c := range []struct {
		name    string
		x, y, z []float64
		say     string
	}{
		{"X", one, few, few, "((1 3)(0 2 4))"},
		{"Y", few, one, few, "((1 3)(0 2 4))"},
		{"Z", few, few, one, "((1 3)(0 2 4))"},
		{"X and Y", one, two, few, "((1 3)(0 2 4))"},
		{"X and Y, the other way round", two, one, few, "((0 2)(1 3 4))"},
		{"X and Z", one, few, two, "((1 3)(0 2 4))"},
		{"X and Z, the other way round", two, few, one, "((0 2)(1 3 4))"},
		{"Y and Z", few, one, two, "((1 3)(0 2 4))"},
		{"Y and Z, the other way round", few, two, one, "((0 2)(1 3 4))"},
		{"all three", one, two, two, "((1 3)(0 2 4))"},
		{"all three, the other way round", two, one, one, "((0 2)(1 3 4))"},
		{"Y by little", two, more, two, "((1 3)(0 2 4))"},
		{"Z by little", two, less, more, "((1 3)(0 2 4))"},
		{"not X by little", less, two, few, "((0 2)(1 3 4))"},
	} {
		l := placed(c.x, c.y, c.z)
		if got := text(made(t, l, false)); got != c.say {
			t.Errorf("%s: %s, not %s", c.name, got, c.say)
		}
		against(t, c.name, l, true)
	}
}

// The boxes are long along X, but their middles lie along Y.
func TestTheAxisIsThatOfTheMiddles(t *testing.T) {
	l := []api.Tri{}
	for i, y := range []float64{5, 1, 4, 2, 3} {
		l = append(l, around(v(float64(i)/10, y, 0), v(float64(50*(i%2)+1), 0.1, 0.1)))
	}
	if got := text(made(t, l, false)); got != "((1 3)(0 2 4))" {
		t.Error(got)
	}
	against(t, "long along X", l, true)
}

// The first one's box has its middle at 5, though two of its corners are at 0.
func TestTheMiddleIsThatOfTheBox(t *testing.T) {
	l := cubes(0, 0, 4, 1, 9, 4.5)
	l[0] = shape(v(0, 0, 0), v(10, 0, 0), v(0, 1, 0))
	if got := text(made(t, l, false)); got != "((1 2)(0 3 4))" {
		t.Error(got)
	}
	against(t, "a middle at 5", l, true)
}

func TestTreesAreWhatTheChapterSays(t *testing.T) {
	ks, deepest := map[int]int{}, 0
	each(func(name string, l []api.Tri) {
		against(t, name, l, false)
		m := against(t, name, l, true)
		deepest = max(deepest, m.depth)
		for _, k := range m.ks {
			ks[k]++
		}
	})
	for k := 1; k <= 7; k++ {
		if ks[k] < 100 {
			t.Errorf("%d lists parted by bin %d: too few", ks[k], k)
		}
	}
	if deepest < 100 {
		t.Errorf("no tree is deeper than %d", deepest)
	}
}

// signed are points along X, of which each Y is 0, or -0.
func signed(xs []float64, ys ...float64) []api.Tri {
	l := []api.Tri{}
	for i, x := range xs {
		l = append(l, point(x, ys[i], 5))
	}
	return l
}

// A box is joined in the order of its list; of 0 and -0 the first one stays, so
// the box tells the order.
func TestPartsStandInTheirOrder(t *testing.T) {
	falling := []float64{9, 8, 7, 6, 5, 4, 3, 2, 1, 0}
	ends := []float64{9, 0, 9, 0, 9, 0, 9, 0, 9, 0}
	for i := range 10 {
		ys := slices.Repeat([]float64{0}, 10)
		ys[i] = nul
		for name, c := range map[string]struct {
			xs                []float64
			surface           bool
			root, left, right int // of which number each box's Y is
		}{
			"by the median":                {falling, false, 0, 9, 4},
			"by the surface":               {ends, true, 0, 1, 0},
			"by the surface, of one place": {slices.Repeat([]float64{1}, 10), true, 0, 0, 5},
		} {
			x := made(t, signed(c.xs, ys...), c.surface)
			root, _ := x.Root()
			left, _ := x.Node(root.Left)
			right, _ := x.Node(root.Right)
			for k, n := range []api.Node{root, left, right} {
				say := ys[[]int{c.root, c.left, c.right}[k]]
				if !bits(n.Box.Lo.Y, say) || !bits(n.Box.Hi.Y, say) {
					t.Errorf("%s, -0 of %d, box %d: %v, not %v", name, i, k, n.Box, say)
				}
			}
		}
	}
}

func TestNodesAreLaidInTheirOrder(t *testing.T) {
	b := func(lo, hi float64) api.Box { return api.Box{Lo: v(lo-0.5, -0.5, -0.5), Hi: v(hi+0.5, 0.5, 0.5)} }
	say := []api.Node{
		{Box: b(0, 10), Left: 1, Right: 4},
		{Box: b(0, 4), Left: 2, Right: 3},
		{Box: b(0, 1), From: 0, To: 2},
		{Box: b(2, 4), From: 2, To: 5},
		{Box: b(5, 10), Left: 5, Right: 6},
		{Box: b(5, 7), From: 5, To: 8},
		{Box: b(8, 10), From: 8, To: 11},
	}
	x := made(t, cubes(0, 10, 9, 8, 7, 6, 5, 4, 3, 2, 1, 0), false)
	if nodes := x.Nodes(); !slices.Equal(nodes, say) {
		t.Errorf("%v, not %v", nodes, say)
	}
	if o := x.Order(); !slices.Equal(o, []int{9, 10, 6, 7, 8, 3, 4, 5, 0, 1, 2}) {
		t.Error(o)
	}
	say = []api.Node{
		{Box: b(0, 8), Left: 1, Right: 2},
		{Box: b(0, 3), From: 0, To: 4},
		{Box: b(4, 8), Left: 3, Right: 4},
		{Box: b(4, 5), From: 4, To: 6},
		{Box: b(6, 8), From: 6, To: 9},
	}
	x = made(t, cubes(0, 7, 0, 5, 3, 8, 1, 6, 4, 2), true)
	if nodes := x.Nodes(); !slices.Equal(nodes, say) {
		t.Errorf("%v, not %v", nodes, say)
	}
	if o := x.Order(); !slices.Equal(o, []int{1, 3, 5, 8, 2, 7, 0, 4, 6}) {
		t.Error(o)
	}
}

// spare is a list with room behind it, where there are other triangles.
func spare(l []api.Tri) []api.Tri {
	all := append(slices.Clone(l), cubes(1, 77, 78, 79)...)
	return all[:len(l)]
}

func TestNewLeavesTheListAsItIs(t *testing.T) {
	for name, surface := range ways {
		for _, l := range [][]api.Tri{{}, drawn(3), drawn(9), drawn(100), drawn(many), drawn(many + 1), spoilt(drawn(9), 4, nan)[0]} {
			handed := spare(l)
			New(handed, surface)
			all, say := handed[:len(l)+3], append(slices.Clone(l), cubes(1, 77, 78, 79)...)
			for i := range all {
				if !bitsVec(all[i].A, say[i].A) || !bitsVec(all[i].B, say[i].B) || !bitsVec(all[i].C, say[i].C) {
					t.Errorf("%s, %d: triangle %d is %v, not %v", name, len(l), i, all[i], say[i])
				}
			}
		}
	}
}

func TestNewKeepsNothingOfTheList(t *testing.T) {
	for name, surface := range ways {
		l := drawn(60)
		x, say := made(t, l, surface), made(t, slices.Clone(l), surface)
		for i := range l {
			l[i] = cube(nan, inf, 7)
		}
		if !slices.Equal(x.Nodes(), say.Nodes()) || !slices.Equal(x.Order(), say.Order()) || x.Depth() != say.Depth() {
			t.Errorf("%s: the tree is another one", name)
		}
	}
}

func TestNewIsTheSameAgain(t *testing.T) {
	for name, surface := range ways {
		l := drawn(200)
		first := made(t, l, surface)
		nodes, order := slices.Clone(first.Nodes()), slices.Clone(first.Order())
		for range 5 {
			made(t, drawn(77), !surface)
			x := made(t, l, surface)
			if !slices.Equal(x.Nodes(), nodes) || !slices.Equal(x.Order(), order) {
				t.Errorf("%s: the tree is another one", name)
			}
		}
		if !slices.Equal(first.Nodes(), nodes) || !slices.Equal(first.Order(), order) {
			t.Errorf("%s: the first tree is another one", name)
		}
	}
}

// P12.2

// under are numbers below 0, beyond are ones that no tree has.
var (
	under  = []int{-1, -2, -3, -1 << 20, math.MinInt32, math.MinInt + 1, math.MinInt}
	beyond = []int{1024, 1025, 1 << 20, math.MaxInt32, math.MaxInt - 1, math.MaxInt}
)

func TestNodesAndOrderAreCopies(t *testing.T) {
	for name, surface := range ways {
		x := made(t, drawn(50), surface)
		nodes, order, depth := slices.Clone(x.Nodes()), slices.Clone(x.Order()), x.Depth()
		ns, os := x.Nodes(), x.Order()
		for i := range ns {
			ns[i] = api.Node{Left: 7, Right: 7, From: 7, To: 7}
		}
		for i := range os {
			os[i] = -7
		}
		ns, os = append(ns[:1], api.Node{From: 5}), append(os[:1], -5)
		if !slices.Equal(x.Nodes(), nodes) || !slices.Equal(x.Order(), order) || x.Depth() != depth {
			t.Errorf("%s: the tree is another one", name)
		}
		for i, n := range nodes {
			if got, ok := x.Node(i); !ok || got != n {
				t.Errorf("%s: node %d is %v, %v", name, i, got, ok)
			}
		}
		for i, n := range order {
			if got := x.Tri(i); got != n {
				t.Errorf("%s: at %d stands %d", name, i, got)
			}
		}
	}
}

func TestNode(t *testing.T) {
	each(func(name string, l []api.Tri) {
		for _, surface := range ways {
			x := made(t, l, surface)
			nodes := x.Nodes()
			for i, n := range nodes {
				if got, ok := x.Node(i); !ok || got != n {
					t.Fatalf("%s, %d: %v %v, not %v", name, i, got, ok, n)
				}
			}
			if got, ok := x.Root(); !ok || got != nodes[0] {
				t.Fatalf("%s: %v %v, not %v", name, got, ok, nodes[0])
			}
			for _, i := range slices.Concat([]int{len(nodes), len(nodes) + 1}, under, beyond) {
				if got, ok := x.Node(i); ok || got != (api.Node{}) {
					t.Fatalf("%s, %d: %v %v", name, i, got, ok)
				}
			}
		}
	})
}

func TestTri(t *testing.T) {
	each(func(name string, l []api.Tri) {
		for _, surface := range ways {
			x := made(t, l, surface)
			for i, n := range x.Order() {
				if got := x.Tri(i); got != n {
					t.Fatalf("%s, %d: %d, not %d", name, i, got, n)
				}
			}
			for _, i := range slices.Concat([]int{len(l), len(l) + 1, many}, under, beyond) {
				if got := x.Tri(i); got != -1 {
					t.Fatalf("%s, %d: %d", name, i, got)
				}
			}
		}
	})
}

func TestDepth(t *testing.T) {
	nested := []api.Tri{}
	for i := range 273 {
		nested = append(nested, point(math.Ldexp(1, 20-4*i), 0, 0))
	}
	for _, c := range []struct {
		name    string
		l       []api.Tri
		surface bool
		say     int
	}{
		{"none", nil, false, 1},
		{"one", drawn(1), false, 1},
		{"four", drawn(4), true, 1},
		{"five", drawn(5), false, 2},
		{"eight", drawn(8), false, 2},
		{"nine", drawn(9), false, 3},
		{"sixteen", drawn(16), false, 3},
		{"seventeen", drawn(17), false, 4},
		{"all", drawn(many), false, 8},
		{"all of one place", slices.Repeat(cubes(0, 7), many), true, 8},
		{"deeper at the left", cubes(0, 0, 0.1, 0.2, 0.3, 0.4, 100), true, 3},
		{"deeper at the right", cubes(0, 0, 99.6, 99.7, 99.8, 99.9, 100), true, 3},
		{"deeper and deeper at the right", points(0, 1, 2, 3, 4, 5, 6, 7, 8), true, 6},
		{"deeper and deeper at the left", nested, true, 270},
		{"the same ones by the median", nested, false, 8},
	} {
		if got := made(t, c.l, c.surface).Depth(); got != c.say {
			t.Errorf("%s: %d, not %d", c.name, got, c.say)
		}
	}
}

func TestOfNil(t *testing.T) {
	var x *Tree
	if n, o, d := x.Nodes(), x.Order(), x.Depth(); len(n) != 0 || len(o) != 0 || d != 0 {
		t.Error(n, o, d)
	}
	if n, ok := x.Root(); ok || n != (api.Node{}) {
		t.Error(n, ok)
	}
	for _, i := range slices.Concat([]int{0, 1, 2}, under, beyond) {
		if n, ok := x.Node(i); ok || n != (api.Node{}) {
			t.Error(i, n, ok)
		}
		if n := x.Tri(i); n != -1 {
			t.Error(i, n)
		}
	}
}

// P12.3

func TestTreesAreSound(t *testing.T) {
	leaves := map[int]int{}
	each(func(name string, l []api.Tri) {
		for way, surface := range ways {
			x := made(t, l, surface)
			if wrong := sound(x, l); wrong != "" {
				t.Fatalf("%s, %s: %s", name, way, wrong)
			}
			for _, n := range x.Nodes() {
				leaves[n.To-n.From]++
			}
		}
	})
	for n := 1; n <= 4; n++ {
		if leaves[n] < 100 {
			t.Errorf("%d leaves of %d triangles: too few", leaves[n], n)
		}
	}
}

// A picture would not show a triangle that its node's box leaves out: so it is
// asked of each node, by way of all nodes above it.
func TestBoxesHaveAllCornersBelow(t *testing.T) {
	within := func(b api.Box, p api.Vec) bool {
		return b.Lo.X <= p.X && p.X <= b.Hi.X && b.Lo.Y <= p.Y && p.Y <= b.Hi.Y && b.Lo.Z <= p.Z && p.Z <= b.Hi.Z
	}
	each(func(name string, l []api.Tri) {
		for way, surface := range ways {
			x := made(t, l, surface)
			var walk func(i int, above []api.Box)
			walk = func(i int, above []api.Box) {
				n, _ := x.Node(i)
				above = append(above, n.Box)
				if n.Right != 0 {
					walk(n.Left, above)
					walk(n.Right, above)
				}
				for place := n.From; place < n.To; place++ {
					c := l[x.Tri(place)]
					for _, b := range above {
						if !within(b, c.A) || !within(b, c.B) || !within(b, c.C) {
							t.Errorf("%s, %s: %v is not within %v", name, way, c, b)
						}
					}
				}
			}
			walk(0, nil)
		}
	})
}

func TestExampleOne(t *testing.T) {
	x := made(t, cubes(0, 3, 1, 4, 2, 5), false)
	nodes := x.Nodes()
	if left := nodes[nodes[0].Left]; len(nodes) != 3 || left.To-left.From != 2 {
		t.Error(nodes)
	}
}
