package tape

import (
	"math"
	"slices"
	"testing"

	"penumbra/api"
)

var (
	nan  = math.NaN()
	inf  = math.Inf(1)
	nul  = math.Copysign(0, -1)
	huge = math.MaxFloat64
	tiny = math.SmallestNonzeroFloat64
	top  = math.Nextafter(1, 0) // the greatest draw below 1
)

// draws are draws of all kinds, and what each counts as.
var draws = []struct{ x, say float64 }{
	{0, 0},
	{nul, 0},
	{0.5, 0.5},
	{0.1, 0.1},
	{0.25, 0.25},
	{tiny, tiny},
	{1e-310, 1e-310},
	{1e-200, 1e-200},
	{math.Ldexp(1, -32), math.Ldexp(1, -32)},
	{1 - math.Ldexp(1, -32), 1 - math.Ldexp(1, -32)},
	{top, top},
	{1, 0},
	{math.Nextafter(1, 2), 0},
	{1.5, 0},
	{2, 0},
	{1e16, 0},
	{huge, 0},
	{inf, 0},
	{-tiny, 0},
	{-1e-310, 0},
	{-0.1, 0},
	{-0.5, 0},
	{-top, 0},
	{-1, 0},
	{-2, 0},
	{-huge, 0},
	{-inf, 0},
	{nan, 0},
	{math.Float64frombits(1<<63 - 1), 0},
	{math.Float64frombits(1<<64 - 1), 0},
	{math.Float64frombits(0x7ff0000000000001), 0},
	{math.Float64frombits(0xfff8000000000000), 0},
}

// raw is the draws alone.
func raw() []float64 {
	var l []float64
	for _, d := range draws {
		l = append(l, d.x)
	}
	return l
}

// sameBits tells whether two lists are the same, bit by bit.
func sameBits(a, b []float64) bool {
	return slices.EqualFunc(a, b, func(x, y float64) bool {
		return math.Float64bits(x) == math.Float64bits(y)
	})
}

// far are places that no list has.
var far = []int{1 << 20, 1 << 22, 1 << 31, 1<<31 - 1, 1 << 32, 1<<32 + 1, 1 << 62, math.MaxInt - 1, math.MaxInt}

// under are places below 0.
var under = []int{-1, -2, -3, -1 << 31, -1 << 32, math.MinInt + 1, math.MinInt}

// P6.1

func TestClean(t *testing.T) {
	for _, d := range draws {
		if got := Clean(d.x); got != d.say {
			t.Errorf("%v (bits %x): %v, not %v", d.x, math.Float64bits(d.x), got, d.say)
		}
	}
	for e := -1074; e < 1024; e++ {
		x, say := math.Ldexp(1, e), math.Ldexp(1, e)
		if e >= 0 {
			say = 0
		}
		if got := Clean(x); got != say {
			t.Errorf("2^%d: %v, not %v", e, got, say)
		}
		if got := Clean(-x); got != 0 {
			t.Errorf("-2^%d: %v, not 0", e, got)
		}
	}
	for i := range 1000 {
		x := float64(i) / 1000
		if got := Clean(x); got != x {
			t.Errorf("%v: %v", x, got)
		}
	}
}

func TestAt(t *testing.T) {
	p := Over(raw()...)
	for i, d := range draws {
		if got := p.At(i); got != d.say {
			t.Errorf("at %d, %v: %v, not %v", i, d.x, got, d.say)
		}
	}
	for i := len(draws) - 1; i >= 0; i-- {
		if got := p.At(i); got != draws[i].say {
			t.Errorf("again at %d: %v, not %v", i, got, draws[i].say)
		}
	}
}

func TestAtOfEachPlace(t *testing.T) {
	p := Over(0.5, 0.25, 0.125)
	for i, say := range []float64{0.5, 0.25, 0.125, 0, 0} {
		if got := p.At(i); got != say {
			t.Errorf("at %d: %v, not %v", i, got, say)
		}
	}
	one := Over(0.75)
	if one.At(0) != 0.75 || one.At(1) != 0 || one.At(-1) != 0 {
		t.Error("a tape of one draw")
	}
}

func TestAtWhereThereIsNone(t *testing.T) {
	for n := range 5 {
		p := Over(slices.Repeat([]float64{0.5}, n)...)
		for _, i := range slices.Concat(far, under, []int{n, n + 1, n + 2, -n - 1, 100}) {
			if got := p.At(i); got != 0 {
				t.Errorf("of %d draws, at %d: %v", n, i, got)
			}
		}
		for i := range n {
			if got := p.At(i); got != 0.5 {
				t.Errorf("of %d draws, at %d, behind places where there is none: %v", n, i, got)
			}
		}
	}
}

func TestOverNothing(t *testing.T) {
	for _, p := range []*Tape{Over(), Over(nil...), Over([]float64{}...), Over(make([]float64, 0, 4)...)} {
		if p == nil {
			t.Fatal("a tape without a draw is no nil")
		}
		if p.At(0) != 0 || p.Len() != 0 || p.Read() != 1 {
			t.Errorf("without a draw: %d draws, %d were asked for", p.Len(), p.Read())
		}
	}
}

func TestNil(t *testing.T) {
	var p *Tape
	for _, i := range slices.Concat(far, under, []int{0, 1, 2}) {
		if got := p.At(i); got != 0 {
			t.Errorf("of nil, at %d: %v", i, got)
		}
		if p.Read() != 0 || p.Len() != 0 {
			t.Errorf("of nil, behind %d: %d draws, %d were asked for", i, p.Len(), p.Read())
		}
	}
}

// What is handed in is not changed, its spare room neither (R3).
func TestOverLeavesTheList(t *testing.T) {
	room := append(raw(), 0.1, 7, nan)
	was := slices.Clone(room)
	l := room[:len(draws)]
	p := Over(l...)
	for i := range len(room) + 3 {
		p.At(i)
	}
	if !sameBits(room, was) {
		t.Errorf("%v became %v", was, room)
	}
}

// A tape keeps no list as it is (R3).
func TestOverKeepsNoList(t *testing.T) {
	room := []float64{0.5, 0.25, 0.125, 0.75}
	l := room[:2]
	p, q := Over(l...), Over(l...)
	for i := range room {
		room[i] = 0.9
	}
	for _, x := range []*Tape{p, q} {
		if x.At(0) != 0.5 || x.At(1) != 0.25 || x.At(2) != 0 || x.Len() != 2 {
			t.Error("a change of the list shows in the tape")
		}
	}
}

// P6.2

func TestRead(t *testing.T) {
	for _, c := range []struct {
		name string
		ask  []int
		say  int
	}{
		{"none", nil, 0},
		{"the first", []int{0}, 1},
		{"the second alone", []int{1}, 2},
		{"the last", []int{3}, 4},
		{"all, upwards", []int{0, 1, 2, 3}, 4},
		{"all, downwards", []int{3, 2, 1, 0}, 4},
		{"the greatest between others", []int{1, 3, 0}, 4},
		{"the same again", []int{2, 2, 2}, 3},
		{"the first again and again", []int{0, 0, 0, 0, 0}, 1},
		{"just behind the last", []int{4}, 5},
		{"behind the last, then within", []int{9, 0}, 10},
		{"within, then behind the last", []int{0, 9}, 10},
		{"below 0", []int{-1}, 0},
		{"below 0, all", under, 0},
		{"below 0, then the first", []int{-1, 0}, 1},
		{"the third, then below 0", []int{2, -5, math.MinInt}, 3},
		{"very great", []int{1 << 40}, 1<<40 + 1},
		{"great, then greater", []int{1 << 31, 1 << 32}, 1<<32 + 1},
		{"greater, then great", []int{1 << 32, 1 << 31}, 1<<32 + 1},
		{"the greatest but one", []int{math.MaxInt - 1}, math.MaxInt},
		{"the greatest", []int{math.MaxInt}, math.MaxInt},
		{"the greatest, then another", []int{math.MaxInt, 0, math.MaxInt - 1}, math.MaxInt},
		{"another, then the greatest", []int{7, math.MaxInt}, math.MaxInt},
	} {
		for _, p := range []*Tape{Over(0.5, 0.25, 1, nan), Over()} {
			n := p.Len()
			for _, i := range c.ask {
				p.At(i)
			}
			if got := p.Read(); got != c.say {
				t.Errorf("%s, of %d draws: %d, not %d", c.name, n, got, c.say)
			}
			if p.Len() != n {
				t.Errorf("%s: %d draws became %d", c.name, n, p.Len())
			}
		}
	}
}

// Read grows with the places, one by one, and with nothing else.
func TestReadStepByStep(t *testing.T) {
	p := Over(raw()...)
	if p.Read() != 0 {
		t.Errorf("at first %d", p.Read())
	}
	say := 0
	for n := range 200 {
		i := n * 37 % 101
		say = max(say, i+1)
		p.At(i)
		p.At(-i - 1)
		p.Len()
		if p.Read() != say || p.Read() != say {
			t.Fatalf("behind %d: %d, not %d", i, p.Read(), say)
		}
	}
}

func TestReadOfEachTape(t *testing.T) {
	p, q := Over(0.5, 0.5), Over(0.5, 0.5)
	p.At(5)
	if p.Read() != 6 || q.Read() != 0 {
		t.Errorf("%d and %d were asked for, not 6 and 0", p.Read(), q.Read())
	}
	q.At(1)
	if p.Read() != 6 || q.Read() != 2 {
		t.Errorf("%d and %d were asked for, not 6 and 2", p.Read(), q.Read())
	}
}

func TestLen(t *testing.T) {
	for n := range 70 {
		p := Over(make([]float64, n, n+5)...)
		if p.Len() != n || p.Read() != 0 {
			t.Errorf("of %d draws: %d, %d were asked for", n, p.Len(), p.Read())
		}
	}
	if got := Over(raw()...).Len(); got != len(draws) {
		t.Errorf("draws of all kinds: %d, not %d", got, len(draws))
	}
	if got := Over(nan, 1, -1, inf).Len(); got != 4 {
		t.Errorf("draws that count as 0: %d, not 4", got)
	}
}

// P6.3

// wrong are numbers that are below, or beyond, every limit.
var wrong = slices.Concat(under, []int{1 << 17, 1 << 31, 1 << 32, 1<<32 + 1, 1 << 62, math.MaxInt - 1, math.MaxInt})

// count is Slots by counting them.
func count(depth int) int {
	n := 4
	for range depth + 1 {
		n += 8
	}
	return n
}

func TestSlots(t *testing.T) {
	for depth, say := range map[int]int{0: 12, 1: 20, 2: 28, 7: 68, 63: 516, 64: 524, 65: 0, 66: 0, -1: 0, -2: 0, 128: 0} {
		if got := Slots(depth); got != say {
			t.Errorf("of %d: %d, not %d", depth, got, say)
		}
	}
	for depth := range api.MaxDepth + 1 {
		if got := Slots(depth); got != count(depth) {
			t.Errorf("of %d: %d, not %d", depth, got, count(depth))
		}
	}
	for _, depth := range wrong {
		if got := Slots(depth); got != 0 {
			t.Errorf("of %d: %d, not 0", depth, got)
		}
	}
}

func TestNeed(t *testing.T) {
	for _, c := range []struct {
		name             string
		w, h, spp, depth int
		say              int
		err              api.Errno
	}{
		{"the least", 1, 1, 1, 0, 12, api.OK},
		{"the greatest depth", 1, 1, 1, 64, 524, api.OK},
		{"ordinary", 3, 4, 5, 1, 1200, api.OK},
		{"wide", 40, 3, 2, 2, 6720, api.OK},
		{"high", 3, 40, 2, 2, 6720, api.OK},
		{"the greatest width", 8192, 1, 1, 0, 98304, api.OK},
		{"the greatest height", 1, 8192, 1, 0, 98304, api.OK},
		{"the most samples", 1, 1, 65536, 0, 786432, api.OK},
		{"the most samples, of five pixels", 1, 5, 65536, 0, 3932160, api.OK},

		{"no width", 0, 1, 1, 0, 0, api.ErrConfig},
		{"no height", 1, 0, 1, 0, 0, api.ErrConfig},
		{"no sample", 1, 1, 0, 0, 0, api.ErrConfig},
		{"no depth", 1, 1, 1, -1, 0, api.ErrConfig},
		{"too wide", 8193, 1, 1, 0, 0, api.ErrConfig},
		{"too high", 1, 8193, 1, 0, 0, api.ErrConfig},
		{"too many samples", 1, 1, 65537, 0, 0, api.ErrConfig},
		{"too deep", 1, 1, 1, 65, 0, api.ErrConfig},
		{"both sides below 0", -1, -1, 1, 0, 0, api.ErrConfig},
		{"all below 0", -1, -1, -1, -1, 0, api.ErrConfig},

		{"too wide, and too many pixels", 8193, 8192, 1, 0, 0, api.ErrConfig},
		{"too high, and too many pixels", 8192, 8193, 1, 0, 0, api.ErrConfig},
		{"no sample of too many pixels", 8192, 8192, 0, 0, 0, api.ErrConfig},
		{"too many samples of too many pixels", 8192, 8192, 65537, 0, 0, api.ErrConfig},
		{"too deep, and too many pixels", 8192, 8192, 1, 65, 0, api.ErrConfig},
		{"no depth, and too many draws", 256, 256, 65536, -1, 0, api.ErrConfig},

		{"just MaxPixels, square", 256, 256, 1, 0, 786432, api.OK},
		{"just MaxPixels, wide", 8192, 8, 1, 0, 786432, api.OK},
		{"just MaxPixels, high", 8, 8192, 1, 0, 786432, api.OK},
		{"MaxPixels less 1", 255, 257, 1, 0, 786420, api.OK},
		{"MaxPixels, and 2", 198, 331, 1, 0, 0, api.ErrBig},
		{"MaxPixels, and a row", 256, 257, 1, 0, 0, api.ErrBig},
		{"MaxPixels, and a column", 257, 256, 1, 0, 0, api.ErrBig},
		{"MaxPixels, and a row of the widest", 8192, 9, 1, 0, 0, api.ErrBig},
		{"MaxPixels, and a column of the highest", 9, 8192, 1, 0, 0, api.ErrBig},
		{"the most pixels", 8192, 8192, 1, 0, 0, api.ErrBig},
		{"the most of all", 8192, 8192, 65536, 64, 0, api.ErrBig},

		{"MaxDraws less 4, by samples", 5, 6355, 11, 0, 4194300, api.OK},
		{"MaxDraws less 4, by pixels", 11, 3813, 1, 11, 4194300, api.OK},
		{"MaxDraws less 4, of steps", 11, 1271, 5, 6, 4194300, api.OK},
		{"MaxDraws, and 4", 1, 1, 61681, 7, 0, api.ErrBig},
		{"MaxDraws less 64", 1, 1, 61680, 7, 4194240, api.OK},
		{"MaxDraws, and 12", 1, 919, 163, 2, 0, api.ErrBig},
		{"MaxDraws, and 16, by pixels", 4, 7085, 1, 17, 0, api.ErrBig},
		{"the deepest that are not too many", 8004, 1, 1, 64, 4194096, api.OK},
		{"the deepest that are too many", 8005, 1, 1, 64, 0, api.ErrBig},
		{"the deepest samples that are not too many", 1, 1, 8004, 64, 4194096, api.OK},
		{"the deepest samples that are too many", 1, 1, 8005, 64, 0, api.ErrBig},
		{"the most pixels, and samples", 256, 256, 5, 0, 3932160, api.OK},
		{"the most pixels, and a sample", 256, 256, 6, 0, 0, api.ErrBig},
		{"the most pixels, and steps", 256, 256, 1, 6, 3932160, api.OK},
		{"the most pixels, and a step", 256, 256, 1, 7, 0, api.ErrBig},
		{"the most samples, of six pixels", 3, 2, 65536, 0, 0, api.ErrBig},
		{"the most pixels, and samples of all", 256, 256, 65536, 64, 0, api.ErrBig},
	} {
		if got, err := Need(c.w, c.h, c.spp, c.depth); got != c.say || err != c.err {
			t.Errorf("%s: %d, %d, not %d, %d", c.name, got, int(err), c.say, int(c.err))
		}
	}
}

// Of numbers that may not be there is ErrConfig, whatever the others are.
func TestNeedOfWrongNumbers(t *testing.T) {
	for _, n := range wrong {
		for _, a := range []int{1, 2, 8192} {
			for _, c := range [][4]int{{n, a, 1, 0}, {a, n, 1, 0}, {a, 8192, n, 0}, {a, 8192, 65536, n}, {n, n, n, n}} {
				if got, err := Need(c[0], c[1], c[2], c[3]); got != 0 || err != api.ErrConfig {
					t.Errorf("%v: %d, %d", c, got, int(err))
				}
			}
		}
	}
}

// need is what is asked for, by a product that has room in 64 bits.
func need(w, h, spp, depth int) (int, api.Errno) {
	if w < 1 || w > 8192 || h < 1 || h > 8192 || spp < 1 || spp > 65536 || depth < 0 || depth > 64 {
		return 0, api.ErrConfig
	}
	all := int64(w) * int64(h) * int64(spp) * int64(count(depth))
	if w*h > 65536 || all > 4194304 {
		return 0, api.ErrBig
	}
	return int(all), api.OK
}

func TestNeedEverywhere(t *testing.T) {
	sides := []int{-1, 0, 1, 2, 3, 7, 8, 9, 255, 256, 257, 1000, 4096, 8191, 8192, 8193}
	samples := []int{-1, 0, 1, 2, 3, 5, 6, 64, 100, 8004, 8005, 61680, 61681, 65535, 65536, 65537}
	for _, w := range sides {
		for _, h := range sides {
			for _, spp := range samples {
				for depth := -1; depth <= 65; depth++ {
					got, err := Need(w, h, spp, depth)
					if say, e := need(w, h, spp, depth); got != say || err != e {
						t.Fatalf("%d %d %d %d: %d, %d, not %d, %d", w, h, spp, depth, got, int(err), say, int(e))
					}
				}
			}
		}
	}
}

// The greatest number of samples that a picture may have, and one more.
func TestNeedOfTheMostSamples(t *testing.T) {
	for depth := range api.MaxDepth + 1 {
		for side := 1; side <= 256; side++ {
			each := side * side * count(depth)
			most := min(4194304/each, 65536)
			if most > 0 {
				if got, err := Need(side, side, most, depth); got != each*most || err != api.OK {
					t.Errorf("%d %d %d: %d, %d, not %d", side, most, depth, got, int(err), each*most)
				}
			}
			say := api.ErrBig
			if most == 65536 {
				say = api.ErrConfig
			}
			if got, err := Need(side, side, most+1, depth); got != 0 || err != say {
				t.Errorf("%d %d %d: %d, %d, not 0, %d", side, most+1, depth, got, int(err), int(say))
			}
		}
	}
}

func TestSlot(t *testing.T) {
	for _, c := range []struct {
		name                      string
		w, spp, depth, x, y, s, k int
		say                       int
	}{
		{"the first", 1, 1, 0, 0, 0, 0, 0, 0},
		{"a slot", 1, 1, 0, 0, 0, 0, 11, 11},
		{"a sample", 1, 2, 0, 0, 0, 1, 0, 12},
		{"a pixel", 2, 3, 0, 1, 0, 0, 0, 36},
		{"a row", 5, 3, 0, 0, 1, 0, 0, 180},
		{"a depth", 5, 3, 1, 0, 1, 0, 0, 300},
		{"all of it", 7, 5, 2, 3, 2, 4, 6, ((2*7+3)*5+4)*28 + 6},
		{"all of it, otherwise", 11, 13, 64, 9, 10, 12, 500, ((10*11+9)*13+12)*524 + 500},

		{"the greatest of all", 8192, 65536, 64, 8192, 8192, 65536, 516, ((8192*8192+8192)*65536+65536)*524 + 516},
		{"the greatest width", 8192, 1, 0, 0, 1, 0, 0, 98304},
		{"too wide", 8193, 1, 0, 0, 1, 0, 0, -1},
		{"the most samples", 1, 65536, 0, 0, 1, 0, 0, 786432},
		{"too many samples", 1, 65537, 0, 0, 1, 0, 0, -1},
		{"the greatest depth", 1, 1, 64, 0, 1, 0, 0, 524},
		{"too deep", 1, 1, 65, 0, 1, 0, 0, -1},
		{"the greatest x", 1, 1, 0, 8192, 0, 0, 0, 98304},
		{"too great an x", 1, 1, 0, 8193, 0, 0, 0, -1},
		{"the greatest y", 1, 1, 0, 0, 8192, 0, 0, 98304},
		{"too great a y", 1, 1, 0, 0, 8193, 0, 0, -1},
		{"the greatest sample", 1, 1, 0, 0, 0, 65536, 0, 786432},
		{"too great a sample", 1, 1, 0, 0, 0, 65537, 0, -1},
		{"the greatest slot", 1, 1, 64, 0, 0, 0, 516, 516},
		{"too great a slot", 1, 1, 64, 0, 0, 0, 517, -1},
		{"the greatest slot, of a small depth", 1, 1, 0, 0, 0, 0, 516, 516},
		{"too great a slot, of a small depth", 1, 1, 0, 0, 0, 0, 517, -1},

		{"no width", 0, 1, 0, 3, 5, 0, 0, 36},
		{"no samples", 4, 0, 0, 3, 5, 2, 1, 25},
		{"neither", 0, 0, 0, 0, 0, 0, 0, 0},
		{"x beyond the width", 2, 1, 0, 5, 0, 0, 0, 60},
		{"a sample beyond the samples", 2, 1, 0, 0, 0, 3, 0, 36},
		{"a slot beyond the slots", 1, 1, 0, 0, 0, 0, 12, 12},

		{"width below 0", -1, 1, 0, 0, 0, 0, 0, -1},
		{"samples below 0", 1, -1, 0, 0, 0, 0, 0, -1},
		{"depth below 0", 1, 1, -1, 0, 0, 0, 0, -1},
		{"x below 0", 1, 1, 0, -1, 1, 0, 0, -1},
		{"y below 0", 1, 1, 0, 1, -1, 0, 0, -1},
		{"sample below 0", 1, 1, 0, 1, 0, -1, 0, -1},
		{"slot below 0", 1, 1, 0, 1, 0, 0, -1, -1},
	} {
		if got := Slot(c.w, c.spp, c.depth, c.x, c.y, c.s, c.k); got != c.say {
			t.Errorf("%s: %d, not %d", c.name, got, c.say)
		}
	}
}

// place is what is asked for.
func place(n [7]int) int {
	most := [7]int{8192, 65536, 64, 8192, 8192, 65536, 516}
	for i, x := range n {
		if x < 0 || x > most[i] {
			return -1
		}
	}
	pixel := n[4]*n[0] + n[3]
	sample := pixel*n[1] + n[5]
	return sample*count(n[2]) + n[6]
}

// Each number of Slot takes all of its edges, and those of all the others,
// while the rest are ordinary, the least, or the greatest.
func TestSlotEverywhere(t *testing.T) {
	tries := slices.Concat(wrong, []int{0, 1, 2, 5, 63, 64, 65, 515, 516, 517, 524, 8191, 8192, 8193, 65535, 65536, 65537})
	for _, n := range [][7]int{{3, 2, 1, 2, 4, 1, 9}, {}, {8192, 65536, 64, 8192, 8192, 65536, 516}} {
		for i := range n {
			for j := range n {
				for _, x := range tries {
					for _, y := range tries {
						m := n
						m[i], m[j] = x, y
						if got := Slot(m[0], m[1], m[2], m[3], m[4], m[5], m[6]); got != place(m) {
							t.Fatalf("%v: %d, not %d", m, got, place(m))
						}
					}
				}
			}
		}
	}
}

// P6.4

// Places are counted where they are: none is there twice, none is missing, but
// those of the slots that have none, and all are below Need.
func TestApart(t *testing.T) {
	for _, c := range []struct{ w, h, spp, depth int }{
		{1, 1, 1, 0},
		{1, 1, 1, 63},
		{1, 1, 1, 64},
		{3, 2, 4, 1},
		{2, 3, 4, 1},
		{7, 1, 5, 2},
		{1, 7, 5, 2},
		{1, 1, 100, 10},
		{13, 17, 3, 5},
		{4, 3, 2, 64},
		{8192, 1, 1, 2},
		{1, 8192, 1, 2},
		{1, 1, 65536, 0},
		{256, 256, 1, 0},
		{256, 256, 5, 0},
		{5, 6355, 11, 0},
		{8004, 1, 1, 64},
	} {
		n, err := Need(c.w, c.h, c.spp, c.depth)
		if err != api.OK {
			t.Fatalf("%v: %d", c, int(err))
		}
		slots := min(Slots(c.depth), 517)
		seen, all := make([]bool, n), 0
		for y := range c.h {
			for x := range c.w {
				for s := range c.spp {
					for k := range slots {
						i := Slot(c.w, c.spp, c.depth, x, y, s, k)
						if i < 0 || i >= n || seen[i] {
							t.Fatalf("%v: slot %d of sample %d of %d, %d has the place %d of %d, which is there already, or not below", c, k, s, x, y, i, n)
						}
						seen[i] = true
						all++
					}
				}
			}
		}
		if say := c.w * c.h * c.spp * slots; all != say {
			t.Errorf("%v: %d places, not %d", c, all, say)
		}
	}
}

// The last slot of the last sample of the last pixel has the last place.
func TestTheLastPlace(t *testing.T) {
	for depth := range api.MaxDepth {
		for _, c := range []struct{ w, h, spp int }{{1, 1, 1}, {3, 5, 7}, {5, 3, 7}, {8, 100, 2}, {1, 8000, 1}, {8000, 1, 1}, {1, 1, 8004}} {
			n, err := Need(c.w, c.h, c.spp, depth)
			if err != api.OK {
				t.Fatalf("%v: %d", c, int(err))
			}
			if got := Slot(c.w, c.spp, depth, c.w-1, c.h-1, c.spp-1, Slots(depth)-1); got != n-1 {
				t.Errorf("%v, depth %d: %d, not %d", c, depth, got, n-1)
			}
		}
	}
}

// All slots of a picture, asked on a tape, are just as many as Need says.
func TestSlotsOnATape(t *testing.T) {
	const w, h, spp, depth = 3, 2, 2, 1
	n, _ := Need(w, h, spp, depth)
	l := make([]float64, n)
	for i := range l {
		l[i] = float64(i) / float64(n)
	}
	p := Over(l...)
	for y := range h {
		for x := range w {
			for s := range spp {
				for k := range Slots(depth) {
					i := Slot(w, spp, depth, x, y, s, k)
					if got := p.At(i); got != l[i] {
						t.Errorf("at %d: %v, not %v", i, got, l[i])
					}
				}
			}
		}
	}
	if p.Read() != n || p.Len() != n {
		t.Errorf("%d of %d were asked for, not %d", p.Read(), p.Len(), n)
	}
}
