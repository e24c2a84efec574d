package pcg

import (
	"math"
	"math/big"
	"slices"
	"testing"

	"penumbra/api"
)

const all = math.MaxUint64

// ends are seeds and streams that are tried with each other: of 0, of all
// bits, whose double leaves 64 bits, and ordinary ones.
var ends = []uint64{0, 1, 2, 42, 54, 1 << 31, 1<<32 - 1, 1 << 32, 1 << 62, 1<<63 - 1, 1 << 63, 1<<63 + 1, 0xaaaaaaaaaaaaaaaa, 0x123456789abcdef0, all - 1, all}

// eachPair calls with each seed and each stream.
func eachPair(f func(seed, stream uint64)) {
	for _, seed := range ends {
		for _, stream := range ends {
			f(seed, stream)
		}
	}
}

// model is a generator by whole numbers without an end, as the chapter says it.
type model struct{ state, stream *big.Int }

func whole(x uint64) *big.Int { return new(big.Int).SetUint64(x) }

func two(n int) *big.Int { return new(big.Int).Lsh(big.NewInt(1), uint(n)) }

// lowest is the lowest n bits of x.
func lowest(x *big.Int, n int) *big.Int { return new(big.Int).Mod(x, two(n)) }

func right(x *big.Int, n int) *big.Int { return new(big.Int).Rsh(x, uint(n)) }

func modelOf(seed, stream uint64) *model {
	m := &model{big.NewInt(0), new(big.Int)}
	m.stream.Mul(whole(stream), big.NewInt(2))
	m.stream = lowest(m.stream.Add(m.stream, big.NewInt(1)), 64)
	m.step()
	m.state = lowest(new(big.Int).Add(m.state, whole(seed)), 64)
	m.step()
	return m
}

func (m *model) step() {
	x := new(big.Int).Mul(m.state, big.NewInt(6364136223846793005))
	m.state = lowest(x.Add(x, m.stream), 64)
}

// turned is x turned right, within 32 bits, place by place.
func turned(x *big.Int, places int) *big.Int {
	for range places {
		end := lowest(x, 1)
		x = right(x, 1)
		x.Add(x, end.Lsh(end, 31))
	}
	return x
}

func (m *model) number() uint32 {
	x := new(big.Int).Xor(right(m.state, 18), m.state)
	x = lowest(right(x, 27), 32)
	return uint32(turned(x, int(right(m.state, 59).Int64())).Uint64())
}

func (m *model) next() uint32 {
	x := m.number()
	m.step()
	return x
}

func (m *model) below(n uint32) uint32 {
	if n == 0 {
		return 0
	}
	least := new(big.Int).Mod(two(32), big.NewInt(int64(n))).Uint64()
	for {
		if x := m.next(); uint64(x) >= least {
			return uint32(uint64(x) % uint64(n))
		}
	}
}

// same tells whether a generator has just the state and stream of the model.
func same(g *Gen, m *model) bool {
	state, stream := g.State()
	return state == m.state.Uint64() && stream == m.stream.Uint64()
}

// Each number of New(42, 54), as others have them, too.
var known = []uint32{0xa15c02b7, 0x7b47f409, 0xba1d3330, 0x83d2f293, 0xbfa4784b, 0xcbed606e}

// P7.1

func TestNextOfTheExample(t *testing.T) {
	g := New(42, 54)
	for i, want := range known {
		if x := g.Next(); x != want {
			t.Errorf("number %d: %x, not %x", i, x, want)
		}
	}
}

func TestNew(t *testing.T) {
	for _, c := range []struct {
		name         string
		seed, stream uint64
		state, odd   uint64
	}{
		{"nothing", 0, 0, 6364136223846793006, 1},
		{"seed of 1", 1, 0, 12728272447693586011, 1},
		{"stream of 1", 0, 1, 645664597830827402, 3},
		{"seed of all bits", all, 0, 1, 1},
		{"stream of all bits", 0, all, 12082607849862758610, all},
		{"both of all bits", all, all, 5718471626015965605, all},
		{"stream whose double leaves 64 bits", 0, 1 << 63, 6364136223846793006, 1},
		{"stream whose double leaves 64 bits, and 1", 0, 1<<63 + 1, 645664597830827402, 3},
		{"stream whose double does not", 0, 1<<63 - 1, 12082607849862758610, all},
		{"the example", 42, 54, 1753877967969059832, 109},
	} {
		state, stream := New(c.seed, c.stream).State()
		if state != c.state || stream != c.odd {
			t.Errorf("%s: %d, %d, not %d, %d", c.name, state, stream, c.state, c.odd)
		}
	}
}

func TestNewEverywhere(t *testing.T) {
	eachPair(func(seed, stream uint64) {
		if g := New(seed, stream); !same(g, modelOf(seed, stream)) {
			t.Errorf("%x, %x: %+v", seed, stream, *g)
		}
	})
}

func TestNextEverywhere(t *testing.T) {
	eachPair(func(seed, stream uint64) {
		g, m := New(seed, stream), modelOf(seed, stream)
		for i := range 50 {
			if got, want := g.Next(), m.next(); got != want || !same(g, m) {
				t.Fatalf("%x, %x, number %d: %x, not %x, or another state: %+v", seed, stream, i, got, want, *g)
			}
		}
	})
}

// TestNextOfEachTurn asks for numbers of states whose uppermost bits turn by
// each number of places: by 0 and by 31, too.
func TestNextOfEachTurn(t *testing.T) {
	for places := range uint64(32) {
		for _, low := range []uint64{0, 1, 1 << 27, 1<<27 - 1, 1 << 44, 1 << 45, 1<<45 - 1, 1 << 58, 1<<59 - 1, 0x123456789abcdef} {
			state := places<<59 + low
			g, m := &Gen{state, 109}, &model{whole(state), whole(109)}
			if got, want := g.Next(), m.next(); got != want || !same(g, m) {
				t.Errorf("state %x: %x, not %x, or another state: %+v", state, got, want, *g)
			}
		}
	}
}

func TestNextOfChosenStates(t *testing.T) {
	for _, c := range []struct {
		name  string
		state uint64
		want  uint32
	}{
		{"0", 0, 0},
		{"bits below all that counts", 1<<27 - 1, 0},
		{"turned by 0: the lowest bit that counts", 1 << 27, 1},
		{"turned by 0: the uppermost bit that counts", 1 << 58, 1<<31 + 1<<13},
		{"turned by 1", 1<<59 + 1<<27, 1<<31 + 1<<13},
		{"turned by 31", 31<<59 + 1<<27, 31<<15 + 1<<1},
		{"turned by 31: all bits", all, 0xfff00001},
	} {
		if got := (&Gen{c.state, 1}).Next(); got != c.want {
			t.Errorf("%s: %x, not %x", c.name, got, c.want)
		}
	}
}

func TestNumbersOfTwoGeneratorsAreTheirOwn(t *testing.T) {
	a, b := New(42, 54), New(42, 54)
	for i, want := range known {
		if x := a.Next(); x != want {
			t.Errorf("first, number %d: %x", i, x)
		}
		New(7, 7).Next()
	}
	for i, want := range known {
		if x := b.Next(); x != want {
			t.Errorf("second, number %d: %x", i, x)
		}
	}
}

func TestStateChangesNothing(t *testing.T) {
	g := New(42, 54)
	for i, want := range known {
		a, b := g.State()
		if c, d := g.State(); a != c || b != d || b != 109 {
			t.Errorf("ahead of number %d: %d, %d; then %d, %d", i, a, b, c, d)
		}
		if x := g.Next(); x != want {
			t.Errorf("number %d: %x", i, x)
		}
	}
}

func TestNil(t *testing.T) {
	var g *Gen
	for range 3 {
		if x := g.Next(); x != 0 {
			t.Error("Next:", x)
		}
		if x := g.Float(); x != 0 || math.Signbit(x) {
			t.Error("Float:", x)
		}
		for _, n := range ranges {
			if x := g.Below(n); x != 0 {
				t.Error("Below", n, x)
			}
		}
		for _, n := range []int{math.MinInt, -1, 0, 1, 1 << 20, math.MaxInt} {
			g.Skip(n)
		}
		if a, b := g.State(); a != 0 || b != 0 {
			t.Error("State:", a, b)
		}
	}
}

// TestMadeByNoCall: nothing is promised of it, but each call ends.
func TestMadeByNoCall(t *testing.T) {
	var g Gen
	g.Skip(3)
	for _, n := range ranges {
		if x := g.Below(n); x != 0 {
			t.Error(n, x)
		}
	}
}

// P7.2

// ranges are what numbers are drawn below: where none, few, and nearly half of
// all numbers are passed over.
var ranges = []uint32{0, 1, 2, 3, 5, 6, 7, 10, 100, 641, 1000, 1 << 16, 1<<16 + 1, 1<<30 - 1, 1 << 30, 1<<30 + 1, 0x55555555, 0x55555556, 1<<31 - 1, 1 << 31, 1<<31 + 1, 1<<31 + 2, 3 << 30, math.MaxUint32 - 1, math.MaxUint32}

func TestFloat(t *testing.T) {
	g := New(42, 54)
	for i, want := range known {
		if x := g.Float(); x != float64(want)/(1<<32) {
			t.Errorf("number %d: %v", i, x)
		}
	}
}

func TestFloatEverywhere(t *testing.T) {
	eachPair(func(seed, stream uint64) {
		g, m := New(seed, stream), modelOf(seed, stream)
		for i := range 10 {
			if got, want := g.Float(), math.Ldexp(float64(m.next()), -32); got != want || !same(g, m) {
				t.Fatalf("%x, %x, number %d: %v, not %v, or another state: %+v", seed, stream, i, got, want, *g)
			}
		}
	})
}

func TestBelow(t *testing.T) {
	for _, c := range []struct {
		name  string
		n     uint32
		want  []uint32
		drawn int
	}{
		{"0: nothing is drawn", 0, []uint32{0, 0, 0}, 0},
		{"1", 1, []uint32{0, 0, 0}, 3},
		{"2", 2, []uint32{1, 1, 0, 1, 1, 0}, 6},
		{"16", 16, []uint32{7, 9, 0, 3, 11, 14}, 6},
		{"2^16", 1 << 16, []uint32{0x02b7, 0xf409, 0x3330}, 3},
		{"10", 10, []uint32{0xa15c02b7 % 10, 0x7b47f409 % 10, 0xba1d3330 % 10}, 3},
		{"2^31", 1 << 31, []uint32{0x215c02b7, 0x7b47f409, 0x3a1d3330}, 3},
		{"above 2^31: the second is passed over", 1<<31 + 1, []uint32{0x215c02b6, 0x3a1d332f, 0x03d2f292}, 4},
		{"just all of 32 bits", math.MaxUint32, []uint32{0xa15c02b7, 0x7b47f409, 0xba1d3330}, 3},
	} {
		g, h := New(42, 54), New(42, 54)
		for i, want := range c.want {
			if x := g.Below(c.n); x != want {
				t.Errorf("%s: number %d: %x, not %x", c.name, i, x, want)
			}
		}
		h.Skip(c.drawn)
		if *g != *h {
			t.Errorf("%s: %+v behind it, not %+v", c.name, *g, *h)
		}
	}
}

// TestBelowAtTheLeast brings states about whose number is just one below
// 2^32 modulo n, and just that: the first one is passed over.
func TestBelowAtTheLeast(t *testing.T) {
	for _, n := range ranges {
		if n == 0 || n&(n-1) == 0 {
			continue
		}
		least := uint32((1 << 32) % uint64(n))
		for _, c := range []struct {
			x    uint32
			over bool
		}{{0, true}, {least - 1, true}, {least, false}, {max(n, least), false}, {math.MaxUint32, false}} {
			g := &Gen{stateOf(c.x), 109}
			if g2 := *g; g2.Next() != c.x {
				t.Fatalf("the state of %x has another number", c.x)
			}
			h := *g
			h.Next()
			want := c.x % n
			if c.over {
				want = h.Below(n)
			}
			if x := g.Below(n); x != want || *g != h {
				t.Errorf("%x below %d: %x, not %x, or %+v behind it, not %+v", c.x, n, x, want, *g, h)
			}
		}
	}
}

// stateOf is a state that turns by 0 places, and whose number is x: bit by
// bit, from the uppermost one on.
func stateOf(x uint32) uint64 {
	var state uint64
	for i := 58; i >= 27; i-- {
		bit := uint64(x>>(i-27)) & 1
		if i+18 < 64 {
			bit ^= state >> (i + 18) & 1
		}
		state |= bit << i
	}
	return state
}

func TestBelowEverywhere(t *testing.T) {
	for _, seed := range ends {
		for _, n := range ranges {
			g, m := New(seed, seed^54), modelOf(seed, seed^54)
			for i := range 20 {
				got, want := g.Below(n), m.below(n)
				if got != want || !same(g, m) || n > 0 && got >= n {
					t.Fatalf("seed %x, below %d, number %d: %x, not %x, or another state: %+v", seed, n, i, got, want, *g)
				}
			}
		}
	}
}

// TestBelowPassesOver counts how many are drawn: below 2^31 and 1 nearly half
// of all numbers are passed over, below 2^31 none.
func TestBelowPassesOver(t *testing.T) {
	steps := func(n uint32) int {
		g, h := New(42, 54), New(42, 54)
		for range 100 {
			g.Below(n)
		}
		drawn := 0
		for *h != *g {
			h.Next()
			drawn++
		}
		return drawn
	}
	if n := steps(1 << 31); n != 100 {
		t.Error("2^31:", n)
	}
	if n := steps(math.MaxUint32); n != 100 {
		t.Error("2^32 less 1:", n)
	}
	if n := steps(1<<31 + 1); n < 150 || n > 250 {
		t.Error("2^31 and 1:", n)
	}
}

// TestAllAreDrawnAlike: whatever is drawn takes its numbers from the same row.
func TestAllAreDrawnAlike(t *testing.T) {
	g := New(42, 54)
	if x := g.Next(); x != known[0] {
		t.Errorf("Next: %x", x)
	}
	if x := g.Float(); x != float64(known[1])/(1<<32) {
		t.Errorf("Float: %v", x)
	}
	if x := g.Below(0); x != 0 {
		t.Errorf("Below 0: %x", x)
	}
	if x := g.Below(1 << 16); x != known[2]&0xffff {
		t.Errorf("Below: %x", x)
	}
	g.Skip(1)
	if x := g.Next(); x != known[4] {
		t.Errorf("behind Skip: %x", x)
	}
	g.Skip(0)
	if x := g.Next(); x != known[5] {
		t.Errorf("behind Skip of none: %x", x)
	}
}

// leapt is a model after n steps, by doubling steps instead of going them.
func leapt(m *model, n uint64) *model {
	factor, sum := big.NewInt(1), big.NewInt(0)
	f, s := big.NewInt(6364136223846793005), new(big.Int).Set(m.stream)
	for ; n > 0; n >>= 1 {
		if n&1 == 1 {
			factor = lowest(new(big.Int).Mul(factor, f), 64)
			sum = lowest(new(big.Int).Add(new(big.Int).Mul(sum, f), s), 64)
		}
		s = lowest(new(big.Int).Add(new(big.Int).Mul(s, f), s), 64)
		f = lowest(new(big.Int).Mul(f, f), 64)
	}
	x := new(big.Int).Mul(m.state, factor)
	return &model{lowest(x.Add(x, sum), 64), m.stream}
}

func TestSkip(t *testing.T) {
	for _, c := range []struct {
		name  string
		n     int
		steps uint64
	}{
		{"the least int", math.MinInt, 0},
		{"far below 0", -1 << 32, 0},
		{"-2^20", -1 << 20, 0},
		{"-1", -1, 0},
		{"0", 0, 0},
		{"1", 1, 1},
		{"2", 2, 2},
		{"3", 3, 3},
		{"1000", 1000, 1000},
		{"2^20 less 1", 1<<20 - 1, 1<<20 - 1},
		{"2^20", 1 << 20, 1 << 20},
		{"2^20 and 1", 1<<20 + 1, 1 << 20},
		{"2^21", 1 << 21, 1 << 20},
		{"2^32 and 1", 1<<32 + 1, 1 << 20},
		{"the greatest int", math.MaxInt, 1 << 20},
	} {
		g, m := New(42, 54), modelOf(42, 54)
		g.Skip(c.n)
		if m = leapt(m, c.steps); !same(g, m) {
			t.Errorf("%s: %+v behind it", c.name, *g)
		}
		if got, want := g.Next(), m.next(); got != want || !same(g, m) {
			t.Errorf("%s: then %x, not %x", c.name, got, want)
		}
	}
}

func TestSkipIsAsDrawing(t *testing.T) {
	eachPair(func(seed, stream uint64) {
		for n := range 12 {
			g, h := New(seed, stream), New(seed, stream)
			g.Skip(n)
			for range n {
				h.Next()
			}
			if *g != *h {
				t.Errorf("%x, %x, %d: %+v, not %+v", seed, stream, n, *g, *h)
			}
		}
	})
}

func TestSkipTwice(t *testing.T) {
	g, m := New(1, 2), modelOf(1, 2)
	g.Skip(1 << 20)
	g.Skip(1 << 20)
	g.Skip(5)
	if !same(g, leapt(m, 1<<21+5)) {
		t.Errorf("%+v", *g)
	}
}

// P7.3

func TestFill(t *testing.T) {
	for _, n := range []int{0, 1, 2, 3, 100} {
		eachPair(func(seed, stream uint64) {
			l, err := Fill(seed, stream, n)
			if err != api.OK || len(l) != n {
				t.Fatalf("%x, %x, %d: %d draws, %v", seed, stream, n, len(l), err)
			}
			g := New(seed, stream)
			for i, x := range l {
				if want := g.Float(); x != want {
					t.Fatalf("%x, %x, draw %d: %v, not %v", seed, stream, i, x, want)
				}
			}
		})
	}
}

func TestFillOfTheExample(t *testing.T) {
	l, err := Fill(42, 54, len(known))
	if err != api.OK || len(l) != len(known) {
		t.Fatal(l, err)
	}
	for i, x := range l {
		if x != float64(known[i])/(1<<32) {
			t.Errorf("draw %d: %v", i, x)
		}
	}
}

func TestFillOfTheMost(t *testing.T) {
	l, err := Fill(42, 54, api.MaxDraws)
	if err != api.OK || len(l) != 1<<22 {
		t.Fatal(len(l), err)
	}
	m := modelOf(42, 54)
	for _, i := range []int{0, 1, 1 << 20, 1<<20 + 1, 1 << 21, 1<<22 - 1} {
		if want := math.Ldexp(float64(leapt(m, uint64(i)).number()), -32); l[i] != want {
			t.Errorf("draw %d: %v, not %v", i, l[i], want)
		}
	}
	g := New(42, 54)
	for i, x := range l {
		if want := g.Float(); x != want {
			t.Fatalf("draw %d: %v, not %v", i, x, want)
		}
	}
}

func TestFillOutOfRange(t *testing.T) {
	for _, n := range []int{math.MinInt, -1 << 32, -1 << 22, -2, -1, api.MaxDraws + 1, api.MaxDraws + 2, 1 << 23, 1 << 32, math.MaxInt} {
		eachPair(func(seed, stream uint64) {
			if l, err := Fill(seed, stream, n); len(l) != 0 || err != api.ErrRange {
				t.Errorf("%x, %x, %d: %d draws, %v", seed, stream, n, len(l), err)
			}
		})
	}
}

func TestFillIsNewMemory(t *testing.T) {
	a, _ := Fill(42, 54, 100)
	b, _ := Fill(42, 54, 100)
	want := slices.Clone(b)
	clear(a[:cap(a)])
	if !slices.Equal(b, want) {
		t.Error("two lists share memory")
	}
	if c, _ := Fill(42, 54, 100); !slices.Equal(c, want) {
		t.Error("another list, when it is asked for again")
	}
}

// P7.4

// isDraw tells whether x is from 0 on, below 1, and a multiple of 2^-32.
func isDraw(x float64) bool {
	n := math.Ldexp(x, 32)
	return x >= 0 && x < 1 && n == math.Floor(n) && !math.Signbit(x)
}

func TestDraws(t *testing.T) {
	eachPair(func(seed, stream uint64) {
		l, _ := Fill(seed, stream, 500)
		g := New(seed, stream)
		for i, x := range l {
			if y := g.Float(); !isDraw(x) || !isDraw(y) {
				t.Fatalf("%x, %x, draw %d: %v, %v", seed, stream, i, x, y)
			}
		}
	})
}

// TestDrawsOfTheEnds: the least number, the greatest, and ones beside them.
func TestDrawsOfTheEnds(t *testing.T) {
	for _, x := range []uint32{0, 1, 2, 1 << 30, 1<<31 - 1, 1 << 31, 1<<31 + 1, math.MaxUint32 - 1, math.MaxUint32} {
		g := &Gen{stateOf(x), 109}
		if got := g.Float(); !isDraw(got) || got*(1<<32) != float64(x) {
			t.Errorf("%x: %v", x, got)
		}
	}
}

// TestDrawsLieAbout: of many draws each eighth has about as many.
func TestDrawsLieAbout(t *testing.T) {
	l, _ := Fill(1, 1, 8000)
	var eighths [8]int
	for _, x := range l {
		eighths[int(x*8)]++
	}
	for i, n := range eighths {
		if n < 850 || n > 1150 {
			t.Errorf("eighth %d: %d", i, n)
		}
	}
}
