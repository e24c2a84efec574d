package warp

import (
	"math"
	"math/big"
	"math/rand/v2"
	"strings"
	"testing"

	"penumbra/api"
)

var (
	nan  = math.NaN()
	inf  = math.Inf(1)
	nul  = math.Copysign(0, -1)
	huge = math.MaxFloat64
	tiny = math.SmallestNonzeroFloat64
	top  = math.Nextafter(1, 0) // the greatest draw below 1
	near = math.Ldexp(1, -40)
)

// wrong are draws that count as 0.
var wrong = []float64{-tiny, -0.5, -1, -huge, math.Nextafter(0, -1), 1, math.Nextafter(1, 2), 1.5, 8, huge, inf, -inf, nan}

func below(x float64) float64 { return math.Nextafter(x, -1) }

// edges are the least draw of each sector, the one behind it, and the one ahead
// of it, which is the greatest one of the sector before.
func edges() []float64 {
	l := []float64{0, nul, tiny, top}
	for k := range 8 {
		at := float64(k) / 8
		l = append(l, at, math.Nextafter(at, 1))
		if k > 0 {
			l = append(l, below(at))
		}
	}
	return l
}

// draws are the edges, draws that are easy to reckon with, some of every size,
// and many that are not ordinary.
func draws() []float64 {
	l := append(edges(), math.Ldexp(1, -1022), math.Ldexp(1, -600), 1e-200, 1e-20, math.Ldexp(1, -54), math.Ldexp(1, -53), 1-math.Ldexp(1, -30))
	for k := range 64 {
		l = append(l, (float64(k)+0.75)/64)
	}
	r := rand.New(rand.NewPCG(9, 1))
	for range 200 {
		l = append(l, r.Float64())
	}
	return l
}

// pairs calls with each draw beside some other ones, wrong ones too.
func pairs(each func(u, v float64)) {
	all := append(draws(), wrong...)
	for i, u := range all {
		for j := range 24 {
			v := all[(i+7*j*j+j)%len(all)]
			each(u, v)
			each(v, u)
		}
	}
}

// alike tells whether both are no numbers, or equal, as the document has it: 0
// and -0 are the same.
func alike(x, y float64) bool { return x == y || x != x && y != y }

func same(got, say []float64) bool {
	for i := range say {
		if !alike(got[i], say[i]) {
			return false
		}
	}
	return len(got) == len(say)
}

func sector3(u float64) []float64  { x, y, p := Sector(u); return []float64{x, y, p} }
func disk3(u, v float64) []float64 { x, y, p := Disk(u, v); return []float64{x, y, p} }
func bary3(u, v float64) []float64 { a, b, c := Bary(u, v); return []float64{a, b, c} }
func hemi4(u, v float64) []float64 { d, p := Hemi(u, v); return []float64{d.X, d.Y, d.Z, p} }
func ball4(u, v float64) []float64 { d, p := Ball(u, v); return []float64{d.X, d.Y, d.Z, p} }
func angle2(x, y float64) []float64 {
	k, f := Angle(x, y)
	return []float64{float64(k), f}
}

// The model is the chapter, word for word; its products are exact ones that are
// rounded once.

func times(x, y float64) float64 {
	p, _ := new(big.Float).SetPrec(200).Mul(big.NewFloat(x), big.NewFloat(y)).Float64()
	return p
}

func clean(u float64) float64 {
	if u >= 0 && u < 1 {
		return u
	}
	return 0
}

// words are the directions as the chapter lists them.
var words = strings.Split("c s; s c; -s c; -c s; -c -s; -s -c; s -c; c -s", "; ")

func sectorSays(u float64) []float64 {
	eighths := times(8, clean(u))
	k := math.Floor(eighths)
	f := eighths - k
	ff := times(f, f)
	d := math.Sqrt(1 + ff)
	part := func(word string) float64 {
		switch word {
		case "c":
			return 1 / d
		case "s":
			return f / d
		case "-c":
			return 0 - 1/d
		}
		return 0 - f/d
	}
	w := strings.Fields(words[int(k)])
	return []float64{part(w[0]), part(w[1]), times(1+ff, 0.125)}
}

func diskSays(u, v float64) []float64 {
	r, s := math.Sqrt(clean(u)), sectorSays(v)
	return []float64{times(s[0], r), times(s[1], r), times(2, s[2])}
}

func hemiSays(u, v float64) []float64 {
	d, z := diskSays(u, v), math.Sqrt(1-clean(u))
	return []float64{d[0], d[1], z, times(d[2], z)}
}

func ballSays(u, v float64) []float64 {
	twice := times(2, clean(u))
	z, s := 1-twice, sectorSays(v)
	zz := times(z, z)
	rest := 1 - zz
	if rest < 0 {
		rest = 0
	}
	r := math.Sqrt(rest)
	return []float64{times(s[0], r), times(s[1], r), z, times(s[2], 0.5)}
}

func barySays(u, v float64) []float64 {
	r, w := math.Sqrt(clean(u)), clean(v)
	return []float64{1 - r, times(r, 1-w), times(r, w)}
}

func tentSays(u float64) float64 {
	w := times(2, clean(u))
	if w < 1 {
		return math.Sqrt(w) - 1
	}
	return 1 - math.Sqrt(2-w)
}

// P9.1

func TestSectorDirectionOfEach(t *testing.T) {
	for k, say := range [][2]float64{
		{0.8, 0.6}, {0.6, 0.8}, {-0.6, 0.8}, {-0.8, 0.6},
		{-0.8, -0.6}, {-0.6, -0.8}, {0.6, -0.8}, {0.8, -0.6},
	} {
		u := (float64(k) + 0.75) / 8
		if got := sector3(u); !same(got, []float64{say[0], say[1], 0.1953125}) {
			t.Errorf("three quarters of sector %d: %v, not %v", k, got, say)
		}
	}
}

func TestSectorAtItsEdge(t *testing.T) {
	for k, say := range [][2]float64{
		{1, 0}, {0, 1}, {0, 1}, {-1, 0},
		{-1, 0}, {0, -1}, {0, -1}, {1, 0},
	} {
		u := float64(k) / 8
		if got := sector3(u); !same(got, []float64{say[0], say[1], 0.125}) {
			t.Errorf("the beginning of sector %d: %v, not %v", k, got, say)
		}
	}
}

func TestSectorJustBelowTheNextOne(t *testing.T) {
	h := math.Sqrt(0.5)
	for k, say := range [][2]float64{
		{h, h}, {h, h}, {-h, h}, {-h, h},
		{-h, -h}, {-h, -h}, {h, -h}, {h, -h},
	} {
		x, y, p := Sector(below(float64(k+1) / 8))
		if math.Abs(x-say[0]) > near || math.Abs(y-say[1]) > near || math.Abs(p-0.25) > near || p > 0.25 {
			t.Errorf("the end of sector %d: %v %v %v, not %v", k, x, y, p, say)
		}
	}
}

// The direction goes on, from sector to sector, to and fro: where an even one
// ends, the next one ends too, and where an odd one begins, the next one does.
func TestSectorWithinItself(t *testing.T) {
	for _, f := range []float64{0.001, 0.25, 0.5, 0.999} {
		for k := range 8 {
			x, y, p := Sector((float64(k) + f) / 8)
			angle := math.Atan2(y, x)
			if angle < 0 {
				angle += 2 * math.Pi
			}
			say := float64(k)*math.Pi/4 + math.Atan(f)
			if k%2 == 1 {
				say = float64(k+1)*math.Pi/4 - math.Atan(f)
			}
			if math.Abs(angle-say) > near || math.Abs(p-(1+f*f)/8) > near {
				t.Errorf("%v of sector %d: angle %v, density %v, not %v, %v", f, k, angle, p, say, (1+f*f)/8)
			}
		}
	}
}

func TestSectorAsTheChapterSays(t *testing.T) {
	for _, u := range append(draws(), wrong...) {
		if got, say := sector3(u), sectorSays(u); !same(got, say) {
			t.Errorf("%v: %v, not %v", u, got, say)
		}
	}
}

func TestDisk(t *testing.T) {
	for _, c := range []struct {
		name string
		u, v float64
		say  []float64
	}{
		{"the middle", 0, 0, []float64{0, 0, 0.25}},
		{"the middle, by any sector", 0, 0.625, []float64{0, 0, 0.25}},
		{"half way out", 0.25, 0, []float64{0.5, 0, 0.25}},
		{"half way, along Y", 0.25, 0.125, []float64{0, 0.5, 0.25}},
		{"half way, within the first sector", 0.25, 0.75 / 8, []float64{0.4, 0.3, 0.390625}},
		{"half way, within the last sector", 0.25, 7.75 / 8, []float64{0.4, -0.3, 0.390625}},
		{"three quarters", 0.5625, 4.75 / 8, []float64{-0.75 * 0.8, -0.75 * 0.6, 0.390625}},
		{"at the rim", top, 0.375, []float64{-math.Sqrt(top), 0, 0.25}},
	} {
		got := disk3(c.u, c.v)
		for i := range c.say {
			if math.Abs(got[i]-c.say[i]) > 1e-15 {
				t.Errorf("%s: %v, not %v", c.name, got, c.say)
			}
		}
	}
	if x, y, p := Disk(top, top); math.Abs(x-math.Sqrt(0.5)) > near || math.Abs(y+math.Sqrt(0.5)) > near || math.Abs(p-0.5) > near {
		t.Error(x, y, p)
	}
}

func TestDiskAsTheChapterSays(t *testing.T) {
	pairs(func(u, v float64) {
		if got, say := disk3(u, v), diskSays(u, v); !same(got, say) {
			t.Errorf("%v %v: %v, not %v", u, v, got, say)
		}
	})
}

// P9.2

func TestHemi(t *testing.T) {
	for _, c := range []struct {
		name string
		u, v float64
		d    api.Vec
		p    float64
	}{
		{"the pole", 0, 0, api.Vec{Z: 1}, 0.25},
		{"the pole, by the end of a sector", 0, below(0.125), api.Vec{Z: 1}, 0.5},
		{"along X", 0.75, 0, api.Vec{X: math.Sqrt(0.75), Z: 0.5}, 0.125},
		{"back along X", 0.75, 0.5, api.Vec{X: -math.Sqrt(0.75), Z: 0.5}, 0.125},
		{"within the first sector", 0.4375, 0.75 / 8, api.Vec{X: 0.8 * math.Sqrt(0.4375), Y: 0.6 * math.Sqrt(0.4375), Z: 0.75}, 0.29296875},
		{"at the rim", top, 0.75, api.Vec{Y: -1, Z: math.Ldexp(1, -27) * math.Sqrt2}, math.Ldexp(1, -29) * math.Sqrt2},
	} {
		d, p := Hemi(c.u, c.v)
		if math.Abs(d.X-c.d.X) > 1e-15 || math.Abs(d.Y-c.d.Y) > 1e-15 || math.Abs(d.Z-c.d.Z) > 1e-15 || math.Abs(p-c.p) > 1e-15 {
			t.Errorf("%s: %v %v, not %v %v", c.name, d, p, c.d, c.p)
		}
		if d.Z <= 0 {
			t.Errorf("%s: %v is not above", c.name, d)
		}
	}
}

func TestHemiAsTheChapterSays(t *testing.T) {
	pairs(func(u, v float64) {
		if got, say := hemi4(u, v), hemiSays(u, v); !same(got, say) {
			t.Errorf("%v %v: %v, not %v", u, v, got, say)
		}
	})
}

func TestBall(t *testing.T) {
	for _, c := range []struct {
		name string
		u, v float64
		d    api.Vec
		p    float64
	}{
		{"the upper pole", 0, 0, api.Vec{Z: 1}, 0.0625},
		{"the upper pole, within a sector", 0, 5.75 / 8, api.Vec{Z: 1}, 0.09765625},
		{"the middle", 0.5, 0, api.Vec{X: 1}, 0.0625},
		{"the middle, along Y", 0.5, 0.25, api.Vec{Y: 1}, 0.0625},
		{"the middle, within a sector", 0.5, 2.75 / 8, api.Vec{X: -0.6, Y: 0.8}, 0.09765625},
		{"above", 0.25, 0, api.Vec{X: math.Sqrt(0.75), Z: 0.5}, 0.0625},
		{"below", 0.75, 0.5, api.Vec{X: -math.Sqrt(0.75), Z: -0.5}, 0.0625},
	} {
		if d, p := Ball(c.u, c.v); d != c.d || p != c.p {
			t.Errorf("%s: %v %v, not %v %v", c.name, d, p, c.d, c.p)
		}
	}
	d, p := Ball(top, 0.125)
	if d.X != 0 || math.Abs(d.Y-math.Ldexp(1, -26)*math.Sqrt2) > near || d.Z != -1+math.Ldexp(1, -52) || p != 0.0625 {
		t.Errorf("the lower pole: %v %v", d, p)
	}
}

// However near to a pole: the root is of no number below 0.
func TestBallNearItsPoles(t *testing.T) {
	for i := 1; i < 1075; i++ {
		least := math.Ldexp(1, -i)
		for _, u := range []float64{least, below(least), math.Nextafter(least, 1), 1 - least, below(1 - least)} {
			d, p := Ball(u, 0.25)
			if !(d.Y >= 0 && d.Y <= 1) || math.Abs(d.Z) > 1 || p != 0.0625 {
				t.Errorf("%v: %v %v", u, d, p)
			}
		}
	}
}

func TestBallAsTheChapterSays(t *testing.T) {
	pairs(func(u, v float64) {
		if got, say := ball4(u, v), ballSays(u, v); !same(got, say) {
			t.Errorf("%v %v: %v, not %v", u, v, got, say)
		}
	})
}

func TestDirectionsOfHemiAndBallHaveALengthOfOne(t *testing.T) {
	pairs(func(u, v float64) {
		h, _ := Hemi(u, v)
		b, _ := Ball(u, v)
		for _, d := range []api.Vec{h, b} {
			if n := math.Sqrt(d.X*d.X + d.Y*d.Y + d.Z*d.Z); math.Abs(n-1) > near {
				t.Errorf("%v %v: %v is %v long", u, v, d, n)
			}
		}
		if h.Z <= 0 {
			t.Errorf("%v %v: %v is not above", u, v, h)
		}
	})
}

// P9.3

func TestBary(t *testing.T) {
	for _, c := range []struct {
		name string
		u, v float64
		say  []float64
	}{
		{"the first corner", 0, 0, []float64{1, 0, 0}},
		{"the first corner, whatever v", 0, 0.3, []float64{1, 0, 0}},
		{"the first corner, v just below 1", 0, top, []float64{1, 0, 0}},
		{"half way to the second", 0.25, 0, []float64{0.5, 0.5, 0}},
		{"half way, and between both others", 0.25, 0.25, []float64{0.5, 0.375, 0.125}},
		{"one quarter is left", 0.5625, 0.75, []float64{0.25, 0.1875, 0.5625}},
		{"the second corner", top, 0, []float64{1 - math.Sqrt(top), math.Sqrt(top), 0}},
		{"the third corner", top, top, []float64{1 - math.Sqrt(top), math.Sqrt(top) * (1 - top), math.Sqrt(top) * top}},
	} {
		if got := bary3(c.u, c.v); !same(got, c.say) {
			t.Errorf("%s: %v, not %v", c.name, got, c.say)
		}
	}
}

func TestBaryAsTheChapterSays(t *testing.T) {
	pairs(func(u, v float64) {
		if got, say := bary3(u, v), barySays(u, v); !same(got, say) {
			t.Errorf("%v %v: %v, not %v", u, v, got, say)
		}
	})
}

func TestTent(t *testing.T) {
	for _, c := range []struct {
		name   string
		u, say float64
	}{
		{"0", 0, -1},
		{"just above 0", tiny, math.Sqrt(2*tiny) - 1},
		{"one eighth", 0.125, -0.5},
		{"nine by 32", 0.28125, -0.25},
		{"just below one half", below(0.5), -math.Ldexp(1, -53)},
		{"one half", 0.5, 0},
		{"just above one half", math.Nextafter(0.5, 1), math.Ldexp(1, -53)},
		{"23 by 32", 0.71875, 0.25},
		{"seven eighths", 0.875, 0.5},
		{"just below 1", top, 1 - math.Ldexp(1, -26)},
	} {
		if got := Tent(c.u); math.Abs(got-c.say) > math.Ldexp(1, -52) {
			t.Errorf("%s: %v, not %v", c.name, got, c.say)
		}
	}
	if Tent(0) != -1 || Tent(0.5) != 0 || Tent(0.125) != -0.5 || Tent(0.875) != 0.5 {
		t.Error("not exactly -1, 0, -0.5, 0.5")
	}
}

func TestTentAsTheChapterSays(t *testing.T) {
	for _, u := range append(draws(), wrong...) {
		if got, say := Tent(u), tentSays(u); !alike(got, say) {
			t.Errorf("%v: %v, not %v", u, got, say)
		}
	}
}

// All draws are counted as tape.Clean says.

func TestWrongDrawsCountAsNone(t *testing.T) {
	for _, w := range wrong {
		if !same(sector3(w), sector3(0)) {
			t.Errorf("Sector of %v: %v", w, sector3(w))
		}
		if Tent(w) != -1 {
			t.Errorf("Tent of %v: %v", w, Tent(w))
		}
		for name, f := range map[string]func(u, v float64) []float64{"Disk": disk3, "Hemi": hemi4, "Ball": ball4, "Bary": bary3} {
			for _, u := range []float64{0, 0.3, 0.875, top, nan} {
				if got := f(w, u); !same(got, f(0, u)) {
					t.Errorf("%s of %v %v: %v, not %v", name, w, u, got, f(0, u))
				}
				if got := f(u, w); !same(got, f(u, 0)) {
					t.Errorf("%s of %v %v: %v, not %v", name, u, w, got, f(u, 0))
				}
			}
		}
	}
}

// P9.4

// angles are directions, and what Angle tells of them.
func angles() []struct {
	name string
	x, y float64
	k    int
	f    float64
} {
	return []struct {
		name string
		x, y float64
		k    int
		f    float64
	}{
		{"sector 0", 4, 1, 0, 0.25},
		{"sector 1", 1, 4, 1, 0.25},
		{"sector 2", -1, 4, 2, 0.25},
		{"sector 3", -4, 1, 3, 0.25},
		{"sector 4", -4, -1, 4, 0.25},
		{"sector 5", -1, -4, 5, 0.25},
		{"sector 6", 1, -4, 6, 0.25},
		{"sector 7", 4, -1, 7, 0.25},
		{"along X", 3, 0, 0, 0},
		{"along X, -0", 3, nul, 0, 0},
		{"along Y", 0, 3, 1, 0},
		{"along Y, -0", nul, 3, 1, 0},
		{"back along X", -3, 0, 3, 0},
		{"back along X, -0", -3, nul, 3, 0},
		{"back along Y", 0, -3, 6, 0},
		{"back along Y, -0", nul, -3, 6, 0},
		{"first diagonal", 2, 2, 0, 1},
		{"second diagonal", -2, 2, 3, 1},
		{"third diagonal", -2, -2, 4, 1},
		{"fourth diagonal", 2, -2, 7, 1},
		{"nowhere", 0, 0, 0, 0},
		{"nowhere, X -0", nul, 0, 0, 0},
		{"nowhere, Y -0", 0, nul, 0, 0},
		{"nowhere, -0", nul, nul, 0, 0},
		{"just below the diagonal", 1, below(1), 0, below(1)},
		{"just above the diagonal", below(1), 1, 1, below(1)},
		{"just above the second one", -below(1), 1, 2, below(1)},
		{"just below the second one", -1, below(1), 3, below(1)},
		{"just above the third one", -1, -below(1), 4, below(1)},
		{"just below the third one", -below(1), -1, 5, below(1)},
		{"just below the fourth one", below(1), -1, 6, below(1)},
		{"just above the fourth one", 1, -below(1), 7, below(1)},
		{"the least ones", tiny, tiny, 0, 1},
		{"the least ones below 0", -tiny, -tiny, 4, 1},
		{"the least one beside 0", -tiny, 0, 3, 0},
		{"below 0 by the least", 0, -tiny, 6, 0},
		{"the greatest ones", huge, -huge, 7, 1},
		{"the greatest one beside the least", -tiny, huge, 2, 0},
		{"the least one beside the greatest", huge, tiny, 0, 0},
		{"one quarter of the greatest", huge / 4, -huge, 6, 0.25},
		{"thirds", 3, 1, 0, 1.0 / 3},
		{"infinite X", inf, 1, 0, 0},
		{"infinite Y", 1, inf, 1, 0},
		{"infinite Y, X below 0", -1, inf, 2, 0},
		{"infinite X below 0", -inf, 1, 3, 0},
		{"infinite X below 0, Y too", -inf, -1, 4, 0},
		{"infinite Y below 0, X too", -1, -inf, 5, 0},
		{"infinite Y below 0", 1, -inf, 6, 0},
		{"infinite X, Y below 0", inf, -1, 7, 0},
		{"both infinite", inf, inf, 0, 0},
		{"both infinite, X below 0", -inf, inf, 3, 0},
		{"both infinite below 0", -inf, -inf, 4, 0},
		{"both infinite, Y below 0", inf, -inf, 7, 0},
		{"infinite beside 0", inf, 0, 0, 0},
		{"0 beside infinite", 0, -inf, 6, 0},
		{"X no number", nan, 1, 7, 0},
		{"X no number, Y below 0", nan, -1, 7, 0},
		{"X no number, Y 0", nan, 0, 7, 0},
		{"Y no number", 1, nan, 7, 0},
		{"Y no number, X below 0", -1, nan, 7, 0},
		{"Y no number, X 0", 0, nan, 7, 0},
		{"both no numbers", nan, nan, 7, 0},
		{"X no number, Y infinite", nan, inf, 7, 0},
		{"Y no number, X infinite below 0", -inf, nan, 7, 0},
	}
}

func TestAngle(t *testing.T) {
	for _, c := range angles() {
		if k, f := Angle(c.x, c.y); k != c.k || f != c.f {
			t.Errorf("%s: %v, %v, not %v, %v", c.name, k, f, c.k, c.f)
		}
	}
}

func TestDensity(t *testing.T) {
	for _, c := range angles() {
		if got, say := Density(c.x, c.y), times(1+times(c.f, c.f), 0.125); !alike(got, say) {
			t.Errorf("%s: %v, not %v", c.name, got, say)
		}
	}
	if Density(1, 0) != 0.125 || Density(-1, 1) != 0.25 || Density(-3, -4) != 0.1953125 || Density(nan, 0) != 0.125 {
		t.Error("not exactly 0.125, 0.25, 0.1953125, 0.125")
	}
}

// angleSays looks through a list of what the chapter asks of each sector.
func angleSays(x, y float64) []float64 {
	m, l := math.Abs(x), math.Abs(y)
	if l > m {
		m, l = l, m
	}
	finite := func(z float64) bool { return z >= -huge && z <= huge }
	f := 0.0
	if m != 0 && finite(l) && finite(m) {
		f = l / m
	}
	steep, flat := math.Abs(x) < math.Abs(y), math.Abs(x) >= math.Abs(y)
	for k, is := range []bool{
		x >= 0 && y >= 0 && flat, x >= 0 && y >= 0 && steep, x < 0 && y >= 0 && steep, x < 0 && y >= 0 && flat,
		x < 0 && y < 0 && flat, x < 0 && y < 0 && steep, x >= 0 && y < 0 && steep,
	} {
		if is {
			return []float64{float64(k), f}
		}
	}
	return []float64{7, f}
}

// anyNumbers calls with each two of numbers of all kinds.
func anyNumbers(each func(x, y float64)) {
	l := []float64{0, nul, tiny, 1e-310, 1e-200, 0.1, below(1), 1, math.Nextafter(1, 2), 3, 1e16, 1e200, huge, inf, nan}
	r := rand.New(rand.NewPCG(9, 4))
	for range 20 {
		l = append(l, r.Float64())
	}
	for _, x := range l {
		for _, y := range l {
			each(x, y)
			each(-x, y)
			each(x, -y)
			each(-x, -y)
		}
	}
}

func TestAngleAndDensityAsTheChapterSays(t *testing.T) {
	anyNumbers(func(x, y float64) {
		say := angleSays(x, y)
		if got := angle2(x, y); !same(got, say) {
			t.Errorf("Angle of %v %v: %v, not %v", x, y, got, say)
		}
		if got, p := Density(x, y), times(1+times(say[1], say[1]), 0.125); !alike(got, p) {
			t.Errorf("Density of %v %v: %v, not %v", x, y, got, p)
		}
	})
}

func TestAngleFindsTheSectorThatWasDrawn(t *testing.T) {
	for k := range 8 {
		for i := range 100 {
			f := (float64(i) + 0.5) / 100
			x, y, p := Sector((float64(k) + f) / 8)
			at, g := Angle(x, y)
			if at != k || math.Abs(g-f) > near || math.Abs(Density(x, y)-p) > near {
				t.Errorf("%v of sector %d: sector %d, %v, density %v, not %v", f, k, at, g, Density(x, y), p)
			}
		}
	}
}

// P9.5

func TestSectorsRange(t *testing.T) {
	all := append(draws(), wrong...)
	for i := range 1 << 14 {
		all = append(all, float64(i)/(1<<14))
	}
	for _, u := range all {
		x, y, p := Sector(u)
		if n := math.Hypot(x, y); math.Abs(n-1) > near || !(p >= 0.125 && p <= 0.25) {
			t.Errorf("%v: length %v, density %v", u, n, p)
		}
	}
}

func TestBarysRange(t *testing.T) {
	pairs(func(u, v float64) {
		sum := 0.0
		for _, x := range bary3(u, v) {
			if !(x >= 0 && x <= 1) {
				t.Errorf("%v %v: %v", u, v, bary3(u, v))
			}
			sum += x
		}
		if math.Abs(sum-1) > near {
			t.Errorf("%v %v: together %v", u, v, sum)
		}
	})
}

func TestTentsRange(t *testing.T) {
	all := append(draws(), wrong...)
	for i := range 1 << 14 {
		all = append(all, float64(i)/(1<<14))
	}
	for _, u := range all {
		if x := Tent(u); !(x >= -1 && x <= 1) {
			t.Errorf("%v: %v", u, x)
		}
	}
}

func TestDensitiesRange(t *testing.T) {
	anyNumbers(func(x, y float64) {
		k, f := Angle(x, y)
		if p := Density(x, y); !(p >= 0.125 && p <= 0.25) || k < 0 || k > 7 || !(f >= 0 && f <= 1) {
			t.Errorf("%v %v: sector %v, %v, density %v", x, y, k, f, p)
		}
	})
}

// Draws that lie evenly mean 1 divided by the density as often: together that
// is all there is to draw from.
func TestDensitiesMeanAllThereIs(t *testing.T) {
	const n = 512
	var circle, disk, half, ball float64
	for i := range n {
		u := (float64(i) + 0.5) / n
		_, _, p := Sector(u)
		circle += 1 / p / n
		for j := range n {
			v := (float64(j) + 0.5) / n
			_, _, d := Disk(u, v)
			_, h := Hemi(u, v)
			_, b := Ball(u, v)
			disk += 1 / d / n / n
			half += 1 / h / n / n
			ball += 1 / b / n / n
		}
	}
	for _, c := range []struct {
		name           string
		got, say, away float64
	}{
		{"circle", circle, 2 * math.Pi, 1e-4}, {"disk", disk, math.Pi, 1e-4},
		{"half of a ball", half, 2 * math.Pi, 0.2}, {"ball", ball, 4 * math.Pi, 1e-3},
	} {
		if math.Abs(c.got-c.say) > c.away {
			t.Errorf("%s: %v, not %v", c.name, c.got, c.say)
		}
	}
}

// R4

func TestTheSameAgain(t *testing.T) {
	pairs(func(u, v float64) {
		for _, f := range []func(u, v float64) []float64{disk3, hemi4, ball4, bary3, angle2} {
			first := f(u, v)
			f(v, u)
			if !same(f(u, v), first) {
				t.Errorf("%v %v: %v, then %v", u, v, first, f(u, v))
			}
		}
	})
}
