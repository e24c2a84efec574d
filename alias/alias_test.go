package alias

import (
	"fmt"
	"math"
	"math/big"
	"math/rand/v2"
	"slices"
	"testing"

	"penumbra/api"
)

const (
	most = 1 << 20 // the greatest weight
	many = 1024    // the most options
)

var (
	nan  = math.NaN()
	inf  = math.Inf(1)
	nul  = math.Copysign(0, -1)
	huge = math.MaxFloat64
	tiny = math.SmallestNonzeroFloat64
	top  = math.Nextafter(1, 0) // the greatest draw below 1
)

// under are numbers below 0, beyond are ones that no table has.
var (
	under  = []int{-1, -2, -3, -1 << 20, -1 << 31, -1<<31 - 1, -1 << 32, math.MinInt + 1, math.MinInt}
	beyond = []int{1 << 41, 1 << 42, 1 << 62, math.MaxInt - 1, math.MaxInt}
)

// alike are n weights w.
func alike(n, w int) []int { return slices.Repeat([]int{w}, n) }

// but is a list of weights with another one at a place.
func but(l []int, i, w int) []int {
	l = slices.Clone(l)
	l[i] = w
	return l
}

// rising are the weights from 0 on, below n.
func rising(n int) []int {
	l := make([]int, n)
	for i := range l {
		l[i] = i
	}
	return l
}

func falling(n int) []int {
	l := rising(n)
	slices.Reverse(l)
	return l
}

// drawn are n weights below top.
func drawn(seed uint64, n, top int) []int {
	r := rand.New(rand.NewPCG(seed, 8))
	l := make([]int, n)
	for i := range l {
		l[i] = r.IntN(top)
	}
	return l
}

// small are lists of few and light weights, so that all numbers can be asked.
func small() [][]int {
	l := [][]int{
		{1}, {2}, {7}, {1, 1}, {1, 3}, {3, 1}, {0, 1}, {1, 0}, {2, 0, 2}, {0, 0, 5}, {5, 0, 0}, {0, 5, 0},
		{1, 1, 1}, {1, 2, 3}, {3, 2, 1}, {6, 5, 6}, {1, 2, 3, 4}, {4, 3, 2, 1}, {2, 2, 1, 3}, {1, 5, 1, 5}, {5, 1, 5, 1},
		alike(16, 1), alike(13, 3), rising(12), falling(12),
		but(alike(20, 0), 0, 7), but(alike(20, 0), 19, 7), but(alike(20, 0), 8, 7), but(alike(20, 1), 3, 50),
	}
	for seed := range uint64(60) {
		l = append(l, but(drawn(seed, 1+int(seed)%17, 3+int(seed)%29), 0, 1))
	}
	return l
}

// great are lists of many or heavy weights.
func great() [][]int {
	l := [][]int{
		{most}, {most, most}, {most, 1}, {1, most}, {most - 1, most}, {0, most, 0},
		alike(many, 1), alike(many, most), alike(many, most-1), rising(many), falling(many),
		but(alike(many, 0), 0, 1), but(alike(many, 0), many-1, 1), but(alike(many, 0), 500, most),
		but(alike(many, 1), 0, most), but(alike(many, most), 1023, 0), but(alike(many, 1), 77, 0),
	}
	for seed := range uint64(12) {
		l = append(l, drawn(seed, many, most+1), drawn(seed, 100+int(seed), most+1), drawn(seed, many, 3))
	}
	return l
}

func lists() [][]int { return append(small(), great()...) }

// named is a list of weights as a text that is short.
func named(l []int) string {
	if len(l) > 8 {
		return fmt.Sprintf("%d weights from %v on", len(l), l[:8])
	}
	return fmt.Sprint(l)
}

func made(t *testing.T, weights ...int) *Table {
	t.Helper()
	x, err := New(weights...)
	if x == nil || err != api.OK {
		t.Fatalf("%s: %v, %v", named(weights), x, err)
	}
	return x
}

// column is what a column says.
type column struct{ threshold, alias int }

func columns(x *Table) []column {
	var l []column
	for i := range x.Len() {
		threshold, alias := x.Column(i)
		l = append(l, column{threshold, alias})
	}
	return l
}

// model is the making, word for word: what options have stands with them, and
// those that wait are one list, of which each time the last one of its kind is
// looked for.
func model(weights []int) []column {
	type option struct{ number, has int }
	total := 0
	for _, w := range weights {
		total += w
	}
	var waiting []option // light ones and heavy ones, each kind in its order
	l := make([]column, len(weights))
	for i, w := range weights {
		waiting = append(waiting, option{i, w * len(weights)})
		l[i] = column{-1, -1}
	}
	last := func(light bool) int {
		for i := len(waiting) - 1; i >= 0; i-- {
			if waiting[i].has < total == light {
				return i
			}
		}
		return -1
	}
	for last(true) >= 0 && last(false) >= 0 {
		lp, hp := last(true), last(false)
		light, heavy := waiting[lp], waiting[hp]
		l[light.number] = column{light.has, heavy.number}
		heavy.has -= total - light.has
		waiting[hp] = heavy
		if heavy.has < total { // it is the last light one now
			waiting = append(slices.Delete(waiting, hp, hp+1), heavy)
			lp = slices.Index(waiting, light)
		}
		waiting = slices.Delete(waiting, lp, lp+1)
	}
	for _, o := range waiting {
		l[o.number] = column{total, o.number}
	}
	return l
}

// P8.1

func TestNewOfWrongWeights(t *testing.T) {
	for _, c := range []struct {
		name    string
		weights []int
		say     api.Errno
	}{
		{"none", nil, api.ErrArg},
		{"none, in a list", []int{}, api.ErrArg},
		{"none, in a list with room", make([]int, 0, 9), api.ErrArg},
		{"-1", []int{-1}, api.ErrArg},
		{"the least int", []int{math.MinInt}, api.ErrArg},
		{"just above the limit", []int{most + 1}, api.ErrArg},
		{"2^31", []int{1 << 31}, api.ErrArg},
		{"2^32 and 1", []int{1<<32 + 1}, api.ErrArg},
		{"the greatest int", []int{math.MaxInt}, api.ErrArg},
		{"the first below 0", []int{-1, 1, 1}, api.ErrArg},
		{"one between below 0", []int{1, -1, 1}, api.ErrArg},
		{"the last below 0", []int{1, 1, -1}, api.ErrArg},
		{"the first above", []int{most + 1, 1, 1}, api.ErrArg},
		{"the last above", []int{1, 1, most + 1}, api.ErrArg},
		{"one below 0 among 0", []int{0, 0, -1}, api.ErrArg},
		{"one above among 0", []int{0, most + 1, 0}, api.ErrArg},
		{"one below 0, one above 0, together 0", []int{-1, 1}, api.ErrArg},
		{"sum beyond the range, 0 at the end", []int{math.MaxInt, math.MaxInt, 2}, api.ErrArg},
		{"1024, the last below 0", but(alike(many, 1), many-1, -1), api.ErrArg},
		{"1024, the last above", but(alike(many, 1), many-1, most+1), api.ErrArg},
		{"1024 of 0, one below", but(alike(many, 0), 9, -1), api.ErrArg},
		{"1024 below 0", alike(many, -1), api.ErrArg},
		{"0", []int{0}, api.ErrZero},
		{"two of 0", []int{0, 0}, api.ErrZero},
		{"1023 of 0", alike(many-1, 0), api.ErrZero},
		{"1024 of 0", alike(many, 0), api.ErrZero},
		{"1025", alike(many+1, 1), api.ErrBig},
		{"1025 of the greatest", alike(many+1, most), api.ErrBig},
		{"1025 of 0", alike(many+1, 0), api.ErrBig},
		{"1025 of 0, the last 1", but(alike(many+1, 0), many, 1), api.ErrBig},
		{"1025 below 0", alike(many+1, -1), api.ErrBig},
		{"1025, the first below 0", but(alike(many+1, 1), 0, -1), api.ErrBig},
		{"1025, the last above", but(alike(many+1, 1), many, most+1), api.ErrBig},
		{"1025, one below 0 among 0", but(alike(many+1, 0), 3, -7), api.ErrBig},
		{"2048", alike(2*many, 1), api.ErrBig},
		{"100000", alike(100000, 1), api.ErrBig},
	} {
		if x, err := New(c.weights...); x != nil || err != c.say {
			t.Errorf("%s: %v, %v, not %v", c.name, x, err, c.say)
		}
	}
	if x, err := New(); x != nil || err != api.ErrArg {
		t.Errorf("without a word: %v, %v", x, err)
	}
}

func TestNewOfEachWrongPlace(t *testing.T) {
	for i := range many {
		for _, w := range []int{-1, most + 1} {
			if x, err := New(but(alike(many, 1), i, w)...); x != nil || err != api.ErrArg {
				t.Errorf("%d at %d: %v", w, i, err)
			}
		}
		if _, err := New(but(alike(many, 0), i, 1)...); err != api.OK {
			t.Errorf("1 at %d, else 0: %v", i, err)
		}
	}
}

func TestNewOfWeightsThatMayBe(t *testing.T) {
	for _, l := range lists() {
		made(t, l...)
	}
	for n := 1; n <= many; n++ {
		if x := made(t, alike(n, 1)...); x.Len() != n {
			t.Errorf("%d weights: %d", n, x.Len())
		}
	}
	for bit := range 21 {
		made(t, 1<<bit)
		made(t, 1<<bit, 0)
	}
}

func TestColumnsByHand(t *testing.T) {
	for _, c := range []struct {
		weights []int
		say     []column
	}{
		{[]int{1}, []column{{1, 0}}},
		{[]int{5}, []column{{5, 0}}},
		{[]int{most}, []column{{most, 0}}},
		{[]int{1, 3}, []column{{2, 1}, {4, 1}}},
		{[]int{3, 1}, []column{{4, 0}, {2, 0}}},
		{[]int{0, 1}, []column{{0, 1}, {1, 1}}},
		{[]int{1, 0}, []column{{1, 0}, {0, 0}}},
		{[]int{2, 0, 2}, []column{{4, 0}, {0, 2}, {2, 0}}},
		{[]int{1, 1, 1}, []column{{3, 0}, {3, 1}, {3, 2}}},
		{[]int{1, 2, 3}, []column{{3, 2}, {6, 1}, {6, 2}}},
		// One that has just the total is heavy, gives, and is light then.
		{[]int{3, 2, 1}, []column{{6, 0}, {3, 0}, {3, 1}}},
		// Light ones are taken from the end, heavy ones too; one that is light
		// now is taken ahead of those that waited.
		{[]int{1, 2, 3, 4}, []column{{4, 3}, {8, 3}, {10, 2}, {8, 2}}},
		{[]int{4, 3, 2, 1}, []column{{10, 0}, {6, 0}, {8, 0}, {4, 1}}},
		{[]int{6, 5, 6}, []column{{17, 0}, {15, 2}, {16, 0}}},
		{[]int{0, 0, 7, 0}, []column{{0, 2}, {0, 2}, {7, 2}, {0, 2}}},
		{[]int{1, 5, 1, 5}, []column{{4, 3}, {12, 1}, {4, 3}, {4, 1}}},
		{[]int{most, 1}, []column{{most + 1, 0}, {2, 0}}},
		{[]int{1, most}, []column{{2, 1}, {most + 1, 1}}},
	} {
		if got := columns(made(t, c.weights...)); !slices.Equal(got, c.say) {
			t.Errorf("%v: %v, not %v", c.weights, got, c.say)
		}
	}
}

func TestColumnsAsTheyAreMade(t *testing.T) {
	for _, l := range lists() {
		if got, want := columns(made(t, l...)), model(l); !slices.Equal(got, want) {
			t.Errorf("%s: not as it is made", named(l))
		}
	}
}

func TestColumnsOfAllAlike(t *testing.T) {
	for _, n := range []int{1, 2, 3, 1000, many} {
		for _, w := range []int{1, 2, 7, most} {
			for i, c := range columns(made(t, alike(n, w)...)) {
				if want := (column{n * w, i}); c != want {
					t.Fatalf("%d of %d: %v, not %v", n, w, c, want)
				}
			}
		}
	}
}

func TestColumnsOfOneHeavyAmongNone(t *testing.T) {
	for _, heavy := range []int{0, 1, 511, many - 1} {
		for i, c := range columns(made(t, but(alike(many, 0), heavy, most)...)) {
			want := column{0, heavy}
			if i == heavy {
				want = column{most, heavy}
			}
			if c != want {
				t.Fatalf("heavy one %d: column %d: %v, not %v", heavy, i, c, want)
			}
		}
	}
}

// Thresholds are from 0 on, up to the total, and aliases are options.
func TestColumnsWithinBounds(t *testing.T) {
	for _, l := range lists() {
		x := made(t, l...)
		for i, c := range columns(x) {
			if c.threshold < 0 || c.threshold > x.Total() || c.alias < 0 || c.alias >= len(l) {
				t.Errorf("%s: column %d: %v", named(l), i, c)
			}
		}
	}
}

// What is handed in is not changed, its spare room neither (R3).
func TestNewLeavesTheWeights(t *testing.T) {
	for _, l := range lists() {
		room := append(slices.Clone(l), 3, -1, 1<<40)
		was := slices.Clone(room)
		x := made(t, room[:len(l)]...)
		for i := range len(l) {
			x.Pick(i * x.Total())
			x.Weight(i)
			x.Column(i)
		}
		if !slices.Equal(room, was) {
			t.Errorf("%s: the weights were changed", named(l))
		}
	}
	bad := []int{4, 0, -1, 9}
	New(bad[:3]...)
	if !slices.Equal(bad, []int{4, 0, -1, 9}) {
		t.Error("wrong weights were changed:", bad)
	}
}

// A table keeps no list as it is (R3).
func TestNewKeepsNoList(t *testing.T) {
	for _, l := range lists() {
		x := made(t, l...)
		lent := slices.Clone(l)
		y := made(t, lent...)
		for i := range lent {
			lent[i] = most - lent[i] + 1
		}
		if !slices.Equal(columns(x), columns(y)) || x.Total() != y.Total() || x.Len() != y.Len() {
			t.Fatalf("%s: a change of the list shows in the table", named(l))
		}
		for i := range l {
			if y.Weight(i) != l[i] || y.Chance(i) != x.Chance(i) {
				t.Fatalf("%s: a change of the list shows in weight %d", named(l), i)
			}
		}
	}
}

func TestTablesAreTheirOwn(t *testing.T) {
	l := []int{4, 3, 2, 1}
	a, b := made(t, l...), made(t, l...)
	want := columns(a)
	made(t, 1, 2, 3, 4)
	made(t, alike(many, 9)...)
	if !slices.Equal(columns(a), want) || !slices.Equal(columns(b), want) || !slices.Equal(columns(made(t, l...)), want) {
		t.Error("tables of the same weights are not the same")
	}
}

// P8.2

// meaning is the option that u means, of columns, by the chapter's words.
func meaning(l []column, total, u int) int {
	i := 0
	for u >= total {
		i, u = i+1, u-total
	}
	if u < l[i].threshold {
		return i
	}
	return l[i].alias
}

func TestPickOfTheExample(t *testing.T) {
	x := made(t, 1, 3)
	var got []int
	for u := -1; u <= 8; u++ {
		got = append(got, x.Pick(u))
	}
	if !slices.Equal(got, []int{-1, 0, 0, 1, 1, 1, 1, 1, 1, -1}) {
		t.Error(got)
	}
}

func TestPickByHand(t *testing.T) {
	for _, c := range []struct{ weights, say []int }{
		{[]int{3}, []int{0, 0, 0}},
		{[]int{3, 1}, []int{0, 0, 0, 0, 1, 1, 0, 0}},
		{[]int{0, 1}, []int{1, 1}},
		{[]int{1, 0}, []int{0, 0}},
		{[]int{2, 0, 2}, []int{0, 0, 0, 0, 2, 2, 2, 2, 2, 2, 0, 0}},
		{[]int{1, 1, 1}, []int{0, 0, 0, 1, 1, 1, 2, 2, 2}},
		{[]int{3, 2, 1}, []int{0, 0, 0, 0, 0, 0, 1, 1, 1, 0, 0, 0, 2, 2, 2, 1, 1, 1}},
	} {
		x := made(t, c.weights...)
		for u, want := range c.say {
			if got := x.Pick(u); got != want {
				t.Errorf("%v: %d means %d, not %d", c.weights, u, got, want)
			}
		}
	}
}

func TestPickOfAllNumbers(t *testing.T) {
	for _, l := range small() {
		x := made(t, l...)
		total, want := x.Total(), model(l)
		for u := range len(l) * total {
			if got, want := x.Pick(u), meaning(want, total, u); got != want {
				t.Fatalf("%s: %d means %d, not %d", named(l), u, got, want)
			}
		}
	}
}

// TestPickOfTheEnds asks of each column of great tables for the first number,
// the last one below the threshold, the one behind it, and the last.
func TestPickOfTheEnds(t *testing.T) {
	for _, l := range great() {
		x := made(t, l...)
		total := x.Total()
		for i, c := range model(l) {
			for _, rest := range []int{0, c.threshold - 1, c.threshold, total - 1} {
				want := c.alias
				if rest < c.threshold {
					want = i
				}
				if rest < 0 || rest >= total {
					continue
				}
				if got := x.Pick(i*total + rest); got != want {
					t.Fatalf("%s: column %d, %d: %d, not %d", named(l), i, rest, got, want)
				}
			}
		}
	}
}

func TestPickOfNumbersThatMeanNone(t *testing.T) {
	for _, l := range lists() {
		x := made(t, l...)
		n := len(l) * x.Total()
		for _, u := range slices.Concat(under, beyond, []int{n, n + 1, n + x.Total(), 2 * n, n + 1<<32}) {
			if got := x.Pick(u); got != -1 {
				t.Errorf("%s: %d means %d", named(l), u, got)
			}
		}
		if first, last := x.Pick(0), x.Pick(n-1); first < 0 || last < 0 {
			t.Errorf("%s: the first means %d, the last %d", named(l), first, last)
		}
	}
}

// TestPickOfTheGreatestTable: 2^40 numbers, the last one and one above.
func TestPickOfTheGreatestTable(t *testing.T) {
	x := made(t, alike(many, most)...)
	for u, want := range map[int]int{
		0: 0, 1<<30 - 1: 0, 1 << 30: 1, 1<<31 - 1: 1, 1 << 31: 2, 1 << 32: 4, 1<<40 - 1<<30 - 1: 1022,
		1<<40 - 1<<30: 1023, 1<<40 - 1: 1023, 1 << 40: -1, 1<<40 + 1: -1, 1 << 41: -1,
	} {
		if got := x.Pick(u); got != want {
			t.Errorf("%d means %d, not %d", u, got, want)
		}
	}
}

func TestDrawByHand(t *testing.T) {
	for _, c := range []struct {
		weights []int
		x       float64
		say     int
	}{
		{[]int{1, 3}, 0, 0},
		{[]int{1, 3}, nul, 0},
		{[]int{1, 3}, tiny, 0},
		{[]int{1, 3}, 0.125, 0},
		{[]int{1, 3}, math.Nextafter(0.25, 0), 0},
		{[]int{1, 3}, 0.25, 1},
		{[]int{1, 3}, 0.5, 1},
		{[]int{1, 3}, top, 1},
		{[]int{3, 1}, math.Nextafter(0.5, 0), 0},
		{[]int{3, 1}, 0.5, 1},
		{[]int{3, 1}, math.Nextafter(0.75, 0), 1},
		{[]int{3, 1}, 0.75, 0},
		{[]int{3, 1}, top, 0},
		{[]int{3, 2, 1}, 0.7, 2},
		{[]int{3, 2, 1}, top, 1},
		{[]int{9}, 0.4, 0},
		// The options' number and the total are taken times each other first:
		// else the product were below 50, and meant 2.
		{[]int{6, 5, 6}, 50. / 51, 0},
		{[]int{6, 5, 6}, math.Nextafter(50./51, 0), 2},
		// The product of 2 times 11 is rounded to just below 15, and not to it.
		{[]int{1, 10}, 15. / 22, 1},
	} {
		if got := made(t, c.weights...).Draw(c.x); got != c.say {
			t.Errorf("%v: %v: %d, not %d", c.weights, c.x, got, c.say)
		}
	}
}

// TestDrawOfWhatIsNoDraw: each counts as 0, of tables whose first and last
// numbers mean different options.
func TestDrawOfWhatIsNoDraw(t *testing.T) {
	wild := []float64{1, math.Nextafter(1, 2), 1.5, 2, 1e9, 1e18, 1e19, huge, inf, -tiny, -1e-300, -0.5, -top, -1, -1.5, -1e19, -huge, -inf, nan,
		math.Float64frombits(1<<63 - 1), math.Float64frombits(1<<64 - 1), math.Float64frombits(0x7ff0000000000001), math.Float64frombits(0xfff8000000000000)}
	for _, l := range append(lists(), []int{3, 2, 1}, []int{0, 4, 0, 5}) {
		x := made(t, l...)
		for _, w := range append(wild, 0, nul) {
			if got := x.Draw(w); got != x.Pick(0) {
				t.Errorf("%s: %v (bits %x): %d, not %d", named(l), w, math.Float64bits(w), got, x.Pick(0))
			}
		}
	}
	for _, w := range wild {
		if got := made(t, 1, 3).Draw(w); got != 0 {
			t.Errorf("1, 3: %v: %d", w, got)
		}
		if got := made(t, 0, 3, 4).Draw(w); got != 2 {
			t.Errorf("0, 3, 4: %v: %d", w, got)
		}
	}
}

// product is x times n, rounded once, without what is behind the point.
func product(x float64, n int) int {
	exact := new(big.Float).SetPrec(200).SetFloat64(x)
	exact.Mul(exact, new(big.Float).SetInt64(int64(n)))
	f, _ := exact.Float64()
	whole, _ := big.NewFloat(f).Int64()
	return int(whole)
}

func TestDrawEverywhere(t *testing.T) {
	r := rand.New(rand.NewPCG(1, 2))
	for _, l := range lists() {
		x := made(t, l...)
		n := len(l) * x.Total()
		draws := []float64{0, tiny, 1e-300, 0.25, 0.5, top, math.Nextafter(top, 0), 1 - 0x1p-32, 1 - 0x1p-41, 1 / float64(n), float64(n-1) / float64(n)}
		for range 200 {
			draws = append(draws, r.Float64(), float64(r.IntN(n))/float64(n))
		}
		for _, d := range draws {
			if d >= 1 {
				continue
			}
			if got, want := x.Draw(d), x.Pick(min(product(d, n), n-1)); got != want || got < 0 {
				t.Fatalf("%s: %v: %d, not %d", named(l), d, got, want)
			}
		}
	}
}

// TestDrawJustBelowOne means the last number, whatever the weights.
func TestDrawJustBelowOne(t *testing.T) {
	for _, l := range lists() {
		x := made(t, l...)
		if got, want := x.Draw(top), x.Pick(len(l)*x.Total()-1); got != want {
			t.Errorf("%s: %d, not %d", named(l), got, want)
		}
	}
}

// P8.3

func TestLooks(t *testing.T) {
	for _, l := range lists() {
		x := made(t, l...)
		total := 0
		for i, w := range l {
			total += w
			if got := x.Weight(i); got != w {
				t.Fatalf("%s: weight %d: %d, not %d", named(l), i, got, w)
			}
		}
		if x.Total() != total || x.Len() != len(l) {
			t.Errorf("%s: total %d, not %d, or %d options", named(l), x.Total(), total, x.Len())
		}
		for i, w := range l {
			if got, want := x.Chance(i), float64(w)/float64(total); got != want {
				t.Fatalf("%s: chance %d: %v, not %v", named(l), i, got, want)
			}
		}
	}
}

func TestLooksWhereThereIsNone(t *testing.T) {
	for _, l := range lists() {
		x := made(t, l...)
		n := len(l)
		for _, i := range slices.Concat(under, beyond, []int{n, n + 1, 2 * n, n + 1<<31, n + 1<<32}) {
			if got := x.Weight(i); got != 0 {
				t.Errorf("%s: weight %d: %d", named(l), i, got)
			}
			if a, b := x.Column(i); a != 0 || b != -1 {
				t.Errorf("%s: column %d: %d, %d", named(l), i, a, b)
			}
			if got := x.Chance(i); got != 0 || math.Signbit(got) {
				t.Errorf("%s: chance %d: %v", named(l), i, got)
			}
		}
	}
}

func TestTotalsOfTheEnds(t *testing.T) {
	for _, c := range []struct {
		weights []int
		say     int
	}{
		{[]int{1}, 1},
		{[]int{1, 3}, 4},
		{[]int{0, 0, 1}, 1},
		{[]int{most}, 1 << 20},
		{alike(many, 1), 1024},
		{alike(many, most), 1 << 30},
		{but(alike(many, 0), 7, 3), 3},
	} {
		if got := made(t, c.weights...).Total(); got != c.say {
			t.Errorf("%s: %d, not %d", named(c.weights), got, c.say)
		}
	}
}

func TestChance(t *testing.T) {
	for _, c := range []struct {
		weights []int
		i       int
		say     float64
	}{
		{[]int{1, 3}, 0, 0.25},
		{[]int{1, 3}, 1, 0.75},
		{[]int{5}, 0, 1},
		{[]int{0, 5}, 0, 0},
		{[]int{0, 5}, 1, 1},
		{[]int{1, 2}, 0, 1. / 3},
		{[]int{1, 2}, 1, 2. / 3},
		{[]int{3, 3, 4}, 0, 0.3},
		{alike(many, most), 1023, 1. / 1024},
		{[]int{1, most}, 0, 1. / (1<<20 + 1)},
	} {
		if got := made(t, c.weights...).Chance(c.i); got != c.say {
			t.Errorf("%s: chance %d: %v, not %v", named(c.weights), c.i, got, c.say)
		}
	}
}

func TestNil(t *testing.T) {
	var x *Table
	for _, i := range slices.Concat(under, beyond, []int{0, 1, 2, 1023, 1024, 1 << 20, 1 << 32}) {
		if got := x.Pick(i); got != -1 {
			t.Error("Pick", i, got)
		}
		if got := x.Weight(i); got != 0 {
			t.Error("Weight", i, got)
		}
		if a, b := x.Column(i); a != 0 || b != -1 {
			t.Error("Column", i, a, b)
		}
		if got := x.Chance(i); got != 0 || math.Signbit(got) {
			t.Error("Chance", i, got)
		}
	}
	for _, d := range []float64{0, nul, 0.5, top, 1, 2, -1, huge, -huge, inf, -inf, nan} {
		if got := x.Draw(d); got != -1 {
			t.Error("Draw", d, got)
		}
	}
	if x.Total() != 0 || x.Len() != 0 {
		t.Error("Total, Len:", x.Total(), x.Len())
	}
}

// TestMadeByNoCall: nothing is promised of it, but each call ends.
func TestMadeByNoCall(t *testing.T) {
	var x Table
	if x.Pick(0) != -1 || x.Draw(0.5) != -1 || x.Weight(0) != 0 || x.Chance(0) != 0 || x.Len() != 0 || x.Total() != 0 {
		t.Error("a table without an option has one")
	}
	if a, b := x.Column(0); a != 0 || b != -1 {
		t.Error("Column", a, b)
	}
}

// No look at a table changes it (R4).
func TestLooksChangeNothing(t *testing.T) {
	x := made(t, 4, 3, 2, 1)
	say := func() (l []int) {
		for u := range 40 {
			l = append(l, x.Pick(u), x.Draw(float64(u)/40))
		}
		for i := -1; i < 5; i++ {
			a, b := x.Column(i)
			l = append(l, a, b, x.Weight(i), int(x.Chance(i)*100))
		}
		return append(l, x.Total(), x.Len())
	}
	if a, b := say(), say(); !slices.Equal(a, b) {
		t.Errorf("first %v, then %v", a, b)
	}
}

// P8.4

func TestEachIsMeantByItsWeight(t *testing.T) {
	for _, l := range small() {
		x := made(t, l...)
		times := make([]int, len(l))
		for u := range len(l) * x.Total() {
			times[x.Pick(u)]++
		}
		for i, w := range l {
			if times[i] != w*len(l) {
				t.Errorf("%s: option %d: %d times, not %d", named(l), i, times[i], w*len(l))
			}
		}
	}
}

// TestEachIsMeantByItsWeightOfGreatTables counts column by column: the numbers
// below a threshold mean the option, the others its alias.
func TestEachIsMeantByItsWeightOfGreatTables(t *testing.T) {
	for _, l := range great() {
		x := made(t, l...)
		times := make([]int, len(l))
		for i, c := range columns(x) {
			times[i] += c.threshold
			times[c.alias] += x.Total() - c.threshold
		}
		for i, w := range l {
			if times[i] != w*len(l) {
				t.Errorf("%s: option %d: %d times, not %d", named(l), i, times[i], w*len(l))
			}
		}
	}
}

// TestEvenDrawsMeanByWeight: draws that lie evenly mean each option as often
// as the numbers do.
func TestEvenDrawsMeanByWeight(t *testing.T) {
	for _, l := range [][]int{{1, 3}, {2, 0, 2}, {1, 2, 3, 4}, {4, 3, 2, 1}, {6, 5, 6}} {
		x := made(t, l...)
		n := len(l) * x.Total()
		times := make([]int, len(l))
		for u := range n {
			times[x.Draw((float64(u)+0.5)/float64(n))]++
		}
		for i, w := range l {
			if times[i] != w*len(l) {
				t.Errorf("%v: option %d: %d times, not %d", l, i, times[i], w*len(l))
			}
		}
	}
}
