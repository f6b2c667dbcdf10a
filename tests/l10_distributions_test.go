package tests

import (
	"math"
	"math/big"
	"math/rand"
	"slices"
	"testing"

	"loop.example/g00876/impl"
)

func weighted(first int, weights ...int) impl.Distribution {
	return impl.Distribution{First: first, Weights: weights}
}

// even has the same weight for every year.
func even(first, count int) impl.Distribution {
	return weighted(first, slices.Repeat([]int{1}, count)...)
}

// heaviest has as much weight as a distribution can have: with MaxWeight for every year, it
// would have a common divisor.
func heaviest(first int) impl.Distribution {
	d := weighted(first, slices.Repeat([]int{impl.MaxWeight}, impl.MaxSupport)...)
	d.Weights[7]--
	return d
}

// checkDistribution wants that a function fails if want is the zero value.
func checkDistribution(t *testing.T, got impl.Distribution, ok bool, want impl.Distribution, call string, arguments ...any) {
	t.Helper()
	wantOk := len(want.Weights) > 0
	if got.First != want.First || !slices.Equal(got.Weights, want.Weights) || ok != wantOk {
		t.Errorf("%s of %v = %v, %v; want %v, %v", call, arguments, got, ok, want, wantOk)
	}
	if ok && !impl.IsValidDistribution(got) {
		t.Errorf("%s of %v = %v, which is not valid", call, arguments, got)
	}
}

func checkMade(t *testing.T, first int, weights []int, want impl.Distribution) {
	t.Helper()
	got, ok := impl.MakeDistribution(first, weights)
	checkDistribution(t, got, ok, want, "MakeDistribution", first, weights)
}

func checkShifted(t *testing.T, d impl.Distribution, years int, want impl.Distribution) {
	t.Helper()
	got, ok := impl.ShiftDistribution(d, years)
	checkDistribution(t, got, ok, want, "ShiftDistribution", d, years)
}

func checkCombined(t *testing.T, a, b, want impl.Distribution) {
	t.Helper()
	got, ok := impl.CombineDistributions(a, b)
	checkDistribution(t, got, ok, want, "CombineDistributions", a, b)
}

func checkLaterBy(t *testing.T, a, b, want impl.Distribution) {
	t.Helper()
	got, ok := impl.LaterBy(a, b)
	checkDistribution(t, got, ok, want, "LaterBy", a, b)
}

func checkMixed(t *testing.T, a, b impl.Distribution, num, den int, want impl.Distribution) {
	t.Helper()
	got, ok := impl.MixDistributions(a, b, num, den)
	checkDistribution(t, got, ok, want, "MixDistributions", a, b, num, den)
}

func checkWeight(t *testing.T, d impl.Distribution, year, weight, sum int, wantOk bool) {
	t.Helper()
	if got, all, ok := impl.WeightAt(d, year); got != weight || all != sum || ok != wantOk {
		t.Errorf("WeightAt(%v, %d) = %d, %d, %v; want %d, %d, %v", d, year, got, all, ok, weight, sum, wantOk)
	}
}

func checkChance(t *testing.T, a, b impl.Distribution, num, den int, wantOk bool) {
	t.Helper()
	if got, all, ok := impl.ChanceEarlier(a, b); got != num || all != den || ok != wantOk {
		t.Errorf("ChanceEarlier(%v, %v) = %d, %d, %v; want %d, %d, %v", a, b, got, all, ok, num, den, wantOk)
	}
}

func checkQuantile(t *testing.T, d impl.Distribution, num, den, want int, wantOk bool) {
	t.Helper()
	if got, ok := impl.QuantileYear(d, num, den); got != want || ok != wantOk {
		t.Errorf("QuantileYear(%v, %d, %d) = %d, %v; want %d, %v", d, num, den, got, ok, want, wantOk)
	}
}

func checkShortest(t *testing.T, d impl.Distribution, num, den int, want impl.Interval, wantOk bool) {
	t.Helper()
	if first, last, ok := impl.ShortestInterval(d, num, den); between(first, last) != want || ok != wantOk {
		t.Errorf("ShortestInterval(%v, %d, %d) = %d, %d, %v; want %v, %v", d, num, den, first, last, ok, want, wantOk)
	}
}

// flawedDistributions have one flaw each.
func flawedDistributions() map[string]impl.Distribution {
	flawed := map[string]impl.Distribution{
		"zero value":          {},
		"no weights":          weighted(5),
		"one weight too many": even(5, impl.MaxSupport+1),
		"far too many":        even(5, 100000),
		"zero first":          weighted(5, 0, 1, 2),
		"zero last":           weighted(5, 1, 2, 0),
		"zeros at both ends":  weighted(5, 0, 1, 0),
		"one zero":            weighted(5, 0),
		"two zeros":           weighted(5, 0, 0),
		"negative first":      weighted(5, -1, 1),
		"negative last":       weighted(5, 1, -1),
		"negative between":    weighted(5, 1, -1, 3),
		"all negative":        weighted(5, -1),
		"least int":           weighted(5, 1, math.MinInt, 1),
		"too great first":     weighted(5, impl.MaxWeight+1, 1),
		"too great last":      weighted(5, 1, impl.MaxWeight+1),
		"too great between":   weighted(5, 1, impl.MaxWeight+1, 1),
		"too great alone":     weighted(5, impl.MaxWeight+1),
		"greatest int":        weighted(5, 1, math.MaxInt),
		"a single 2":          weighted(5, 2),
		"a single MaxWeight":  weighted(5, impl.MaxWeight),
		"divisor 2":           weighted(5, 2, 4),
		"equal weights":       weighted(5, 7, 7, 7),
		"divisor beside 0":    weighted(5, 4, 0, 6),
		"divisor 3 of many":   weighted(5, 9, 6, 0, 0, 3, 12),
		"divisor 500":         weighted(5, impl.MaxWeight, impl.MaxWeight-500),
	}
	for name, d := range map[string]impl.Distribution{
		"before MinYear":              weighted(impl.MinYear-1, 1),
		"first before MinYear":        even(impl.MinYear-1, 2),
		"all but one before MinYear":  even(impl.MinYear-59, 60),
		"after MaxYear":               weighted(impl.MaxYear+1, 1),
		"last after MaxYear":          even(impl.MaxYear, 2),
		"all but one after MaxYear":   even(impl.MaxYear, 60),
		"last of many after MaxYear":  even(impl.MaxYear-58, 60),
		"least first year":            weighted(math.MinInt, 1),
		"greatest first year":         weighted(math.MaxInt, 1),
		"last year that wraps around": even(math.MaxInt, 2),
		"first year far too early":    weighted(-100000, 1, 2),
		"first year far too late":     weighted(100000, 1, 2),
	} {
		flawed[name] = d
	}
	return flawed
}

// soundDistributions are at every limit.
func soundDistributions() []impl.Distribution {
	return []impl.Distribution{
		weighted(5, 1),
		weighted(5, 1, 2, 1),
		weighted(-7, 3, 0, 0, 4),
		weighted(0, 6, 10, 15),
		weighted(0, 1, impl.MaxWeight),
		weighted(0, impl.MaxWeight, impl.MaxWeight-1),
		weighted(0, impl.MaxWeight, 0, 0, 0, 3),
		even(-30, impl.MaxSupport),
		heaviest(-30),
		weighted(impl.MinYear, 1),
		weighted(impl.MinYear, 2, 3),
		even(impl.MinYear, impl.MaxSupport),
		weighted(impl.MinYear+1, 1, 1),
		weighted(impl.MaxYear, 1),
		weighted(impl.MaxYear-1, 1, 2),
		even(impl.MaxYear-59, impl.MaxSupport),
		heaviest(impl.MaxYear - 59),
		weighted(impl.MaxYear-2, 1, 2),
	}
}

func TestValidDistributions(t *testing.T) {
	for _, d := range soundDistributions() {
		if !impl.IsValidDistribution(d) {
			t.Errorf("%v is not valid", d)
		}
	}
	for name, d := range flawedDistributions() {
		if impl.IsValidDistribution(d) {
			t.Errorf("%s: %v is valid", name, d)
		}
	}
}

// checkNoDistributions wants that every function refuses two distributions, one of which is flawed.
func checkNoDistributions(t *testing.T, a, b impl.Distribution) {
	t.Helper()
	none := impl.Distribution{}
	checkCombined(t, a, b, none)
	checkLaterBy(t, a, b, none)
	checkChance(t, a, b, 0, 0, false)
	for _, f := range [][2]int{{1, 2}, {1, 1}, {1, 1000}, {1000, 1000}} {
		checkMixed(t, a, b, f[0], f[1], none)
	}
}

func TestFlawedDistributionsAreRefused(t *testing.T) {
	for _, d := range flawedDistributions() {
		before := weighted(d.First, slices.Clone(d.Weights)...)
		for _, year := range []int{d.First, 0, 5, 6, impl.MinYear, impl.MaxYear} {
			checkWeight(t, d, year, 0, 0, false)
		}
		for _, years := range []int{0, 1, -1, -5, -d.First} {
			checkShifted(t, d, years, impl.Distribution{})
		}
		for _, f := range [][2]int{{1, 2}, {1, 1}, {1, 1000}} {
			checkQuantile(t, d, f[0], f[1], 0, false)
			checkShortest(t, d, f[0], f[1], between(0, 0), false)
		}
		for _, other := range []impl.Distribution{weighted(5, 1), weighted(4, 1, 1, 1), weighted(impl.MinYear, 1, 1), weighted(impl.MaxYear, 1)} {
			checkNoDistributions(t, d, other)
			checkNoDistributions(t, other, d)
		}
		checkNoDistributions(t, d, d)
		if d.First != before.First || !slices.Equal(d.Weights, before.Weights) {
			t.Errorf("%v became %v", before, d)
		}
	}
}

func TestMakeDistribution(t *testing.T) {
	for _, d := range soundDistributions() {
		checkMade(t, d.First, d.Weights, d)
	}
	for _, c := range []struct {
		first   int
		weights []int
		want    impl.Distribution
	}{
		{5, []int{0, 1, 2}, weighted(6, 1, 2)},
		{5, []int{1, 2, 0}, weighted(5, 1, 2)},
		{5, []int{0, 0, 1, 2, 0, 0, 0}, weighted(7, 1, 2)},
		{5, []int{1, 0, 0, 2}, weighted(5, 1, 0, 0, 2)},
		{5, []int{0, 1, 0, 2, 0}, weighted(6, 1, 0, 2)},
		{5, []int{2, 4, 6}, weighted(5, 1, 2, 3)},
		{5, []int{6, 10, 15}, weighted(5, 6, 10, 15)},
		{5, []int{12, 18, 30}, weighted(5, 2, 3, 5)},
		{5, []int{30, 18, 12}, weighted(5, 5, 3, 2)},
		{5, []int{7, 7, 7}, weighted(5, 1, 1, 1)},
		{5, []int{4, 0, 6}, weighted(5, 2, 0, 3)},
		{-5, []int{100, 1}, weighted(-5, 100, 1)},
		{5, []int{1}, weighted(5, 1)},
		{5, []int{9}, weighted(5, 1)},
		{5, []int{0, 9, 0}, weighted(6, 1)},
		// Beside zeros alone, all weights have a common divisor.
		{5, []int{0, 4, 6}, weighted(6, 2, 3)},
		{5, []int{4, 6, 0}, weighted(5, 2, 3)},
		{5, []int{0, 0, 10, 0, 15, 0}, weighted(7, 2, 0, 3)},
	} {
		checkMade(t, c.first, c.weights, c.want)
	}
	for _, weights := range [][]int{nil, {}, {0}, {0, 0, 0}, make([]int, 200), make([]int, 201), {-1}, {1, -1}, {-1, 1}, {0, -1, 0}, {-2, -4}, {1, math.MinInt, 1}} {
		checkMade(t, 5, weights, impl.Distribution{})
	}
}

func TestMakeDistributionOfGreatWeights(t *testing.T) {
	const million = impl.MaxWeight
	none := impl.Distribution{}
	checkMade(t, 5, []int{million * million}, weighted(5, 1))
	checkMade(t, 5, []int{million*million + 1}, none)
	checkMade(t, 5, []int{math.MaxInt}, none)
	checkMade(t, 5, []int{0, million*million + 1, 0}, none)
	checkMade(t, 5, []int{million*million + 2, million*million + 2}, none)
	checkMade(t, 5, []int{million * million, 0, 5 * million}, weighted(5, million/5, 0, 1))
	checkMade(t, 5, slices.Repeat([]int{million * million}, 60), even(5, 60))
	// At the limit after reducing, and just above it.
	checkMade(t, 5, []int{million, 1}, weighted(5, million, 1))
	checkMade(t, 5, []int{million + 1, 1}, none)
	checkMade(t, 5, []int{million * million, million}, weighted(5, million, 1))
	checkMade(t, 5, []int{million * million, million - 1}, none)
	checkMade(t, 5, []int{3, 3 * million}, weighted(5, 1, million))
	checkMade(t, 5, []int{3, 3*million + 3}, none)
	checkMade(t, 5, []int{2 * million, 2*million + 1}, none)
	checkMade(t, 5, []int{0, 2 * million, 2*million - 2, 0}, weighted(6, million, million-1))
	checkMade(t, 5, []int{999_999_999_989, 999_999_999_961}, none)
}

func TestMakeDistributionOfManyWeights(t *testing.T) {
	none := impl.Distribution{}
	long := func(before, count, after int) []int {
		return slices.Concat(make([]int, before), slices.Repeat([]int{3}, count), make([]int, after))
	}
	checkMade(t, -50, long(0, 60, 0), even(-50, 60))
	checkMade(t, -50, long(0, 61, 0), none)
	checkMade(t, -50, long(0, 200, 0), none)
	checkMade(t, -50, long(70, 60, 70), even(20, 60))
	checkMade(t, -50, long(70, 60, 71), none)
	checkMade(t, -50, long(71, 60, 70), none)
	checkMade(t, -50, long(70, 61, 69), none)
	checkMade(t, -50, long(199, 1, 0), weighted(149, 1))
	checkMade(t, -50, long(200, 1, 0), none)
	checkMade(t, -50, long(0, 1, 199), weighted(-50, 1))
	checkMade(t, -50, long(0, 1, 200), none)
	checkMade(t, -50, long(0, 1, 100000), none)
	// Zeros between others count.
	apart := make([]int, 61)
	apart[0], apart[59] = 2, 4
	want := weighted(7, slices.Clone(apart[:60])...)
	want.Weights[0], want.Weights[59] = 1, 2
	checkMade(t, 7, apart, want)
	apart[59], apart[60] = 0, 4
	checkMade(t, 7, apart, none)
}

// TestMakeDistributionAtTheEnds: the first weight belongs to a year even if it is 0.
func TestMakeDistributionAtTheEnds(t *testing.T) {
	none := impl.Distribution{}
	checkMade(t, impl.MinYear, []int{2, 2}, weighted(impl.MinYear, 1, 1))
	checkMade(t, impl.MinYear, []int{0, 2}, weighted(impl.MinYear+1, 1))
	checkMade(t, impl.MinYear-1, []int{1, 1}, none)
	checkMade(t, impl.MinYear-1, []int{0, 1}, none)
	checkMade(t, impl.MaxYear, []int{2}, weighted(impl.MaxYear, 1))
	checkMade(t, impl.MaxYear, []int{2, 0, 0}, weighted(impl.MaxYear, 1))
	checkMade(t, impl.MaxYear, []int{0, 2}, none)
	checkMade(t, impl.MaxYear, []int{1, 1}, none)
	checkMade(t, impl.MaxYear-1, []int{1, 1}, weighted(impl.MaxYear-1, 1, 1))
	checkMade(t, impl.MaxYear-1, []int{0, 1, 0}, weighted(impl.MaxYear, 1))
	checkMade(t, impl.MaxYear-1, []int{0, 0, 1}, none)
	checkMade(t, impl.MaxYear+1, []int{1}, none)
	checkMade(t, impl.MaxYear-59, even(0, 60).Weights, even(impl.MaxYear-59, 60))
	checkMade(t, impl.MaxYear-58, even(0, 60).Weights, none)
	for _, first := range []int{math.MinInt, math.MaxInt, -100000, 100000} {
		checkMade(t, first, []int{1}, none)
		checkMade(t, first, []int{0, 1, 1}, none)
	}
}

func TestWeightAt(t *testing.T) {
	d := weighted(5, 3, 0, 4)
	for year, weight := range map[int]int{5: 3, 6: 0, 7: 4, 4: 0, 8: 0, 0: 0, -5: 0, 65: 0, impl.MinYear: 0, impl.MaxYear: 0} {
		checkWeight(t, d, year, weight, 7, true)
	}
	for _, d := range soundDistributions() {
		for i, weight := range d.Weights {
			checkWeight(t, d, d.First+i, weight, plainSum(d), true)
		}
		for _, year := range []int{d.First - 1, d.First + len(d.Weights)} {
			if impl.MinYear <= year && year <= impl.MaxYear {
				checkWeight(t, d, year, 0, plainSum(d), true)
			}
		}
		for _, year := range []int{impl.MinYear - 1, impl.MaxYear + 1, math.MinInt, math.MaxInt} {
			checkWeight(t, d, year, 0, 0, false)
		}
	}
}

func TestShiftDistribution(t *testing.T) {
	for _, d := range soundDistributions() {
		last := d.First + len(d.Weights) - 1
		toMin, toMax := impl.MinYear-d.First, impl.MaxYear-last
		for _, years := range []int{0, toMin, toMax, toMin + 1, toMax - 1, (toMin + toMax) / 2} {
			checkShifted(t, d, years, weighted(d.First+years, d.Weights...))
		}
		for _, years := range []int{
			toMin - 1, toMax + 1, toMin - 59, toMax + 59, math.MinInt, math.MaxInt, math.MinInt + 1, math.MaxInt - 1,
			math.MinInt - min(d.First, 0), math.MaxInt - max(d.First, 0), math.MaxInt - max(last, 0),
		} {
			checkShifted(t, d, years, impl.Distribution{})
		}
	}
	d := weighted(5, 3, 0, 4)
	checkShifted(t, d, 10, weighted(15, 3, 0, 4))
	checkShifted(t, d, -10, weighted(-5, 3, 0, 4))
}

func TestCombineDistributions(t *testing.T) {
	none := impl.Distribution{}
	for _, c := range []struct{ a, b, want impl.Distribution }{
		{weighted(5, 1, 2, 1), weighted(6, 1, 1), weighted(6, 2, 1)},
		{weighted(5, 1, 2, 1), weighted(5, 1, 2, 1), weighted(5, 1, 4, 1)},
		{weighted(5, 1, 2, 1), weighted(0, 1), none},
		{weighted(5, 1, 2, 1), weighted(4, 1), none},
		{weighted(5, 1, 2, 1), weighted(8, 1), none},
		{weighted(5, 1, 2, 1), weighted(5, 1), weighted(5, 1)},
		{weighted(5, 1, 2, 1), weighted(6, 1), weighted(6, 1)},
		{weighted(5, 1, 2, 1), weighted(7, 1), weighted(7, 1)},
		{weighted(5, 1, 2, 1), weighted(7, 1, 1), weighted(7, 1)},
		{weighted(5, 1, 2, 1), weighted(3, 1, 1, 1), weighted(5, 1)},
		// All products are 0, all but one, or those at the ends.
		{weighted(5, 1, 0, 1), weighted(6, 1), none},
		{weighted(5, 1, 0, 1), weighted(4, 1, 0, 1, 0, 1), none},
		{weighted(5, 1, 0, 0, 1), weighted(6, 1, 1), none},
		{weighted(5, 1, 0, 1), weighted(6, 1, 1), weighted(7, 1)},
		{weighted(5, 1, 0, 3, 0, 2), weighted(4, 1, 0, 1, 2, 5, 0, 7), weighted(7, 1)},
		{weighted(5, 1, 0, 3, 2, 0, 1), weighted(4, 2, 0, 1, 2, 5, 7), weighted(7, 3, 5)},
		{weighted(5, 2, 3, 0, 5), weighted(5, 3, 2, 7, 6), weighted(5, 1, 1, 0, 5)},
		{weighted(impl.MinYear, 1, 2), weighted(impl.MinYear, 3, 4), weighted(impl.MinYear, 3, 8)},
		{weighted(impl.MinYear, 1, 2), weighted(impl.MinYear+1, 3, 4), weighted(impl.MinYear+1, 1)},
		{weighted(impl.MaxYear-1, 1, 2), weighted(impl.MaxYear-2, 1, 3, 4), weighted(impl.MaxYear-1, 3, 8)},
		{weighted(impl.MinYear, 1), weighted(impl.MaxYear, 1), none},
		{even(0, 60), even(0, 60), even(0, 60)},
		{even(0, 60), even(30, 60), even(30, 30)},
		{even(0, 60), even(59, 60), weighted(59, 1)},
		{even(0, 60), even(60, 60), none},
	} {
		checkCombined(t, c.a, c.b, c.want)
		checkCombined(t, c.b, c.a, c.want)
	}
}

// TestCombineGreatWeights: products are greater than MaxWeight, and valid only after reducing.
func TestCombineGreatWeights(t *testing.T) {
	const million = impl.MaxWeight
	none := impl.Distribution{}
	for _, c := range []struct{ a, b, want impl.Distribution }{
		{weighted(5, million, million/2, 1), weighted(4, 1, million, million), weighted(5, 2, 1)},
		{weighted(5, 1, million), weighted(6, million, 1), weighted(6, 1)},
		{weighted(5, 1, 1000), weighted(5, 1, 1000), weighted(5, 1, million)},
		{weighted(5, 1, 1000), weighted(5, 1, 1001), none},
		{weighted(5, million, 1), weighted(5, million, 1), none},
		{weighted(5, million, 1), weighted(5, 1, million), weighted(5, 1, 1)},
		{weighted(5, million, 2, 1), weighted(5, million, 500_000, 0, 1), weighted(5, million, 1)},
		{weighted(5, million, 2, 1), weighted(5, million, 499_999, 0, 1), none},
		{weighted(5, million, 1, 1), weighted(5, million, 499_999), none},
		{heaviest(0), even(0, 60), heaviest(0)},
		{heaviest(0), heaviest(0), none},
		{heaviest(0), heaviest(30), weighted(30, append(slices.Repeat([]int{million}, 7), slices.Insert(slices.Repeat([]int{million}, 22), 0, million-1)...)...)},
	} {
		checkCombined(t, c.a, c.b, c.want)
		checkCombined(t, c.b, c.a, c.want)
	}
}

func TestLaterBy(t *testing.T) {
	for _, c := range []struct{ a, b, want impl.Distribution }{
		{weighted(5, 1, 2, 1), weighted(6, 1, 1), weighted(-1, 1, 3, 3, 1)},
		{weighted(6, 1, 1), weighted(5, 1, 2, 1), weighted(-2, 1, 3, 3, 1)},
		{weighted(5, 1), weighted(5, 1), weighted(0, 1)},
		{weighted(5, 1), weighted(8, 1), weighted(3, 1)},
		{weighted(8, 1), weighted(5, 1), weighted(-3, 1)},
		{weighted(5, 1), weighted(8, 2, 0, 3), weighted(3, 2, 0, 3)},
		{weighted(5, 2, 0, 3), weighted(8, 1), weighted(1, 3, 0, 2)},
		{weighted(5, 2, 3), weighted(5, 5, 7), weighted(-1, 15, 31, 14)},
		{weighted(5, 1, 0, 0, 2), weighted(100, 1, 3), weighted(92, 2, 6, 0, 1, 3)},
		{weighted(5, 1, 1000), weighted(5, 1000, 1), weighted(-1, impl.MaxWeight, 2000, 1)},
		{weighted(5, 1, 1001), weighted(5, 1000, 1), impl.Distribution{}},
		{weighted(0, impl.MaxWeight, 1), weighted(0, 1), weighted(-1, 1, impl.MaxWeight)},
		{weighted(0, impl.MaxWeight, 1), weighted(0, 1, 1), impl.Distribution{}},
		{weighted(0, impl.MaxWeight-1, 1), weighted(0, 1, 1), weighted(-1, 1, impl.MaxWeight, impl.MaxWeight-1)},
		{heaviest(100), weighted(100, 1), weighted(-59, backward(heaviest(100).Weights)...)},
		{weighted(100, 1), heaviest(100), heaviest(0)},
		{heaviest(100), weighted(100, 1, 1), impl.Distribution{}},
	} {
		checkLaterBy(t, c.a, c.b, c.want)
	}
}

func TestLaterByManyYears(t *testing.T) {
	rising := func(count int) []int {
		list := []int{}
		for n := range count {
			list = append(list, n+1)
		}
		return list
	}
	plateau := slices.Concat(rising(30), backward(rising(30)))
	checkLaterBy(t, even(0, 30), even(0, 31), weighted(-29, plateau...))
	checkLaterBy(t, even(0, 31), even(0, 30), weighted(-30, plateau...))
	checkLaterBy(t, even(0, 31), even(0, 31), impl.Distribution{})
	checkLaterBy(t, even(0, 60), even(0, 1), even(-59, 60))
	checkLaterBy(t, even(0, 1), even(0, 60), even(0, 60))
	checkLaterBy(t, even(0, 60), even(0, 2), impl.Distribution{})
	checkLaterBy(t, even(0, 2), even(0, 60), impl.Distribution{})
	checkLaterBy(t, even(0, 60), even(0, 60), impl.Distribution{})
	checkLaterBy(t, heaviest(0), heaviest(0), impl.Distribution{})
}

// TestLaterByAtTheEnds: a number of years is a year of the result, and limited like one.
func TestLaterByAtTheEnds(t *testing.T) {
	none := impl.Distribution{}
	low, high := impl.MinYear, impl.MaxYear
	checkLaterBy(t, weighted(low, 1), weighted(low+high, 1), weighted(high, 1))
	checkLaterBy(t, weighted(low, 1), weighted(low+high+1, 1), none)
	checkLaterBy(t, weighted(low, 1), weighted(high, 1), none)
	checkLaterBy(t, weighted(0, 1), weighted(high, 1), weighted(high, 1))
	checkLaterBy(t, weighted(-1, 1), weighted(high, 1), none)
	checkLaterBy(t, weighted(high, 1), weighted(high+low, 1), weighted(low, 1))
	checkLaterBy(t, weighted(high, 1), weighted(high+low-1, 1), none)
	checkLaterBy(t, weighted(high, 1), weighted(low, 1), none)
	checkLaterBy(t, weighted(0, 1), weighted(low, 1), weighted(low, 1))
	checkLaterBy(t, weighted(1, 1), weighted(low, 1), none)
	checkLaterBy(t, weighted(0, 1, 1), weighted(high-1, 1, 1), weighted(high-2, 1, 2, 1))
	checkLaterBy(t, weighted(-1, 1, 1), weighted(high-1, 1, 1), none)
	checkLaterBy(t, weighted(-1, 1, 1), weighted(low, 1, 1), weighted(low, 1, 2, 1))
	checkLaterBy(t, weighted(0, 1, 1), weighted(low, 1, 1), none)
}

func TestChanceEarlier(t *testing.T) {
	great := plainSum(heaviest(0))
	for _, c := range []struct {
		a, b     impl.Distribution
		num, den int
	}{
		{weighted(5, 1, 2, 1), weighted(6, 1, 1), 4, 8},
		{weighted(6, 1, 1), weighted(5, 1, 2, 1), 1, 8},
		{weighted(5, 1), weighted(5, 1), 0, 1},
		{weighted(5, 1), weighted(6, 1), 1, 1},
		{weighted(6, 1), weighted(5, 1), 0, 1},
		{weighted(5, 2, 4, 3), weighted(8, 5, 6), 99, 99},
		{weighted(8, 5, 6), weighted(5, 2, 4, 3), 0, 99},
		{weighted(5, 2, 3), weighted(6, 5, 7), 2*5 + 2*7 + 3*7, 60},
		{weighted(5, 2, 3), weighted(5, 5, 7), 14, 60},
		{weighted(5, 2, 0, 3), weighted(6, 1), 2, 5},
		{weighted(5, 2, 0, 0, 3), weighted(6, 4, 0, 0, 5), 2*4 + 2*5 + 3*5, 45},
		{weighted(impl.MinYear, 1, 1), weighted(impl.MaxYear-1, 1, 2), 6, 6},
		{weighted(impl.MaxYear-1, 1, 2), weighted(impl.MinYear, 1, 1), 0, 6},
		{heaviest(0), heaviest(60), great * great, great * great},
		{heaviest(60), heaviest(0), 0, great * great},
		{even(0, 60), even(0, 60), 60 * 59 / 2, 3600},
		{even(0, 60), even(1, 60), 60 * 61 / 2, 3600},
		{even(1, 60), even(0, 60), 59 * 58 / 2, 3600},
	} {
		checkChance(t, c.a, c.b, c.num, c.den, true)
	}
}

// flawedFractions are not in 0 < num <= den <= 1000.
func flawedFractions() [][2]int {
	return [][2]int{
		{0, 1}, {0, 2}, {0, 1000}, {0, 0}, {-1, 2}, {-1, 1000}, {-1, -1}, {-1, -2}, {-2, -1}, {1, 0}, {1, -1}, {1, -2}, {2, 1}, {3, 2}, {1001, 1000}, {1000, 999},
		{1, 1001}, {500, 1001}, {1000, 1001}, {1001, 1001}, {2000, 2000}, {1, math.MaxInt}, {math.MaxInt, math.MaxInt}, {math.MaxInt, 1}, {math.MaxInt, 1000},
		{math.MinInt, 1}, {math.MinInt, 1000}, {math.MinInt, math.MinInt}, {1, math.MinInt}, {math.MinInt, math.MaxInt}, {0, math.MaxInt},
	}
}

func TestFlawedFractionsAreRefused(t *testing.T) {
	for _, f := range flawedFractions() {
		for _, d := range soundDistributions() {
			checkQuantile(t, d, f[0], f[1], 0, false)
			checkShortest(t, d, f[0], f[1], between(0, 0), false)
			checkMixed(t, d, d, f[0], f[1], impl.Distribution{})
			checkMixed(t, d, weighted(5, 1), f[0], f[1], impl.Distribution{})
			checkMixed(t, weighted(5, 1), d, f[0], f[1], impl.Distribution{})
		}
	}
}

func TestQuantileYear(t *testing.T) {
	hill, gap := weighted(5, 1, 2, 1), weighted(-1, 1, 0, 0, 1)
	for _, c := range []struct {
		d              impl.Distribution
		num, den, want int
	}{
		{hill, 1, 2, 6}, {hill, 1, 1, 7}, {hill, 1000, 1000, 7}, {hill, 1, 1000, 5},
		// The weights up to 5 and to 6 are 1/4 and 3/4 exactly.
		{hill, 1, 4, 5}, {hill, 250, 1000, 5}, {hill, 249, 1000, 5}, {hill, 251, 1000, 6}, {hill, 1, 3, 6},
		{hill, 3, 4, 6}, {hill, 750, 1000, 6}, {hill, 749, 1000, 6}, {hill, 751, 1000, 7}, {hill, 4, 5, 7},
		{gap, 1, 2, -1}, {gap, 500, 1000, -1}, {gap, 501, 1000, 2}, {gap, 499, 1000, -1}, {gap, 1, 1, 2}, {gap, 1, 7, -1},
		{weighted(5, 1, 999), 1, 1000, 5}, {weighted(5, 1, 999), 2, 1000, 6}, {weighted(5, 1, 1000), 1, 1000, 6}, {weighted(5, 1, 998), 1, 1000, 5},
		{weighted(5, 999, 1), 999, 1000, 5}, {weighted(5, 998, 1), 999, 1000, 6}, {weighted(5, 1000, 1), 1, 1, 6}, {weighted(5, 1000, 1), 999, 1000, 5},
		{weighted(impl.MinYear, 1), 1, 1, impl.MinYear}, {weighted(impl.MinYear, 1), 1, 1000, impl.MinYear},
		{weighted(impl.MaxYear, 1), 1, 1, impl.MaxYear}, {weighted(impl.MaxYear-1, 1, 1), 501, 1000, impl.MaxYear},
		{heaviest(0), 1, 1, 59}, {heaviest(0), 1, 1000, 0}, {heaviest(0), 1, 60, 0}, {heaviest(0), 1, 2, 30}, {even(0, 60), 1, 2, 29}, {even(0, 60), 501, 1000, 30},
	} {
		checkQuantile(t, c.d, c.num, c.den, c.want, true)
	}
}

func TestShortestInterval(t *testing.T) {
	hill, gap, waves := weighted(5, 1, 2, 1), weighted(-1, 1, 0, 0, 1), weighted(0, 2, 3, 1, 3, 2, 0, 5)
	for _, c := range []struct {
		d        impl.Distribution
		num, den int
		want     impl.Interval
	}{
		{hill, 1, 2, between(6, 6)}, {hill, 3, 4, between(5, 6)}, {hill, 1, 1, between(5, 7)}, {hill, 751, 1000, between(5, 7)},
		{hill, 1, 4, between(5, 5)}, {hill, 251, 1000, between(6, 6)}, {hill, 501, 1000, between(5, 6)}, {hill, 750, 1000, between(5, 6)},
		{gap, 1, 2, between(-1, -1)}, {gap, 501, 1000, between(-1, 2)}, {gap, 1, 1, between(-1, 2)},
		{waves, 5, 16, between(6, 6)}, {waves, 1, 4, between(6, 6)}, {waves, 3, 16, between(1, 1)}, {waves, 2, 16, between(0, 0)}, {waves, 6, 16, between(0, 2)},
		{waves, 7, 16, between(1, 3)}, {waves, 8, 16, between(0, 3)}, {waves, 9, 16, between(0, 3)}, {waves, 10, 16, between(3, 6)}, {waves, 11, 16, between(0, 4)},
		{waves, 12, 16, between(1, 6)}, {waves, 14, 16, between(1, 6)}, {waves, 15, 16, between(0, 6)}, {waves, 16, 16, between(0, 6)},
		{weighted(impl.MinYear, 1, 2), 2, 3, between(impl.MinYear+1, impl.MinYear+1)}, {weighted(impl.MinYear, 2, 1), 2, 3, between(impl.MinYear, impl.MinYear)},
		{weighted(impl.MaxYear-1, 1, 1), 1, 1, between(impl.MaxYear-1, impl.MaxYear)}, {weighted(impl.MaxYear, 1), 1, 1000, between(impl.MaxYear, impl.MaxYear)},
		{weighted(5, 1, 0, 3, 1, 2, 1, 3), 5, 11, between(7, 9)}, {weighted(5, 3, 1, 2, 0, 2, 1, 3), 6, 12, between(5, 7)},
		{even(0, 60), 1, 60, between(0, 0)}, {even(0, 60), 1, 2, between(0, 29)}, {even(0, 60), 1, 1, between(0, 59)},
		{heaviest(0), 1, 60, between(0, 0)}, {heaviest(0), 1, 2, between(8, 37)}, {heaviest(0), 1, 1, between(0, 59)},
	} {
		checkShortest(t, c.d, c.num, c.den, c.want, true)
	}
}

func TestMixDistributions(t *testing.T) {
	none := impl.Distribution{}
	hill, pair := weighted(5, 1, 2, 1), weighted(6, 1, 1)
	for _, c := range []struct {
		a, b     impl.Distribution
		num, den int
		want     impl.Distribution
	}{
		{hill, pair, 1, 2, weighted(5, 1, 4, 3)},
		{pair, hill, 1, 2, weighted(5, 1, 4, 3)},
		{hill, pair, 500, 1000, weighted(5, 1, 4, 3)},
		{hill, pair, 1, 3, weighted(5, 1, 6, 5)},
		{hill, pair, 2, 3, weighted(5, 1, 3, 2)},
		{hill, pair, 1, 1000, weighted(5, 1, 2000, 1999)},
		{hill, pair, 999, 1000, weighted(5, 999, 2000, 1001)},
		{hill, hill, 1, 7, hill},
		{weighted(5, 1), weighted(5, 1), 1, 2, weighted(5, 1)},
		{weighted(5, 1), weighted(6, 1), 1, 3, weighted(5, 1, 2)},
		{weighted(6, 1), weighted(5, 1), 1, 3, weighted(5, 2, 1)},
		{weighted(5, 1), weighted(9, 1), 1, 1000, weighted(5, 1, 0, 0, 0, 999)},
		{weighted(5, 1, 0, 2), weighted(6, 1), 3, 4, weighted(5, 1, 1, 2)},
		// All of a, and nothing of b, wherever that is.
		{hill, pair, 1, 1, hill}, {pair, hill, 1, 1, pair}, {hill, pair, 7, 7, hill}, {hill, pair, 1000, 1000, hill},
		{weighted(impl.MinYear, 1, 2), weighted(impl.MaxYear, 1), 3, 3, weighted(impl.MinYear, 1, 2)},
		{weighted(impl.MaxYear, 1), weighted(impl.MinYear, 1, 2), 3, 3, weighted(impl.MaxYear, 1)},
		{heaviest(0), heaviest(30), 1000, 1000, heaviest(0)},
		{heaviest(0), heaviest(0), 999, 1000, heaviest(0)},
		{weighted(impl.MinYear, 1, 2), weighted(impl.MaxYear, 1), 2, 3, none},
		{weighted(impl.MaxYear, 1), weighted(impl.MinYear, 1, 2), 1, 1000, none},
		{weighted(impl.MinYear, 1), weighted(impl.MinYear+1, 1), 1, 2, weighted(impl.MinYear, 1, 1)},
		{weighted(impl.MaxYear-1, 1), weighted(impl.MaxYear, 1), 1, 2, weighted(impl.MaxYear-1, 1, 1)},
		{even(0, 30), even(30, 30), 1, 2, even(0, 60)},
		{even(0, 30), even(31, 30), 1, 2, none}, {even(31, 30), even(0, 30), 1, 2, none},
		{even(0, 60), even(59, 1), 1, 1000, weighted(0, append(slices.Repeat([]int{1}, 59), 59941)...)},
		{even(0, 60), even(60, 1), 1, 1000, none}, {even(0, 60), weighted(-1, 1), 1, 2, none},
		// The weights are too great even after reducing, or just not.
		{weighted(5, 1, 1), weighted(5, 999_999, 1), 1, 2, none},
		{weighted(5, 1), weighted(6, impl.MaxWeight, 1), 1, 2, none},
		{weighted(5, 1), weighted(6, 999_999, 1), 1, 2, weighted(5, impl.MaxWeight, 999_999, 1)},
		{heaviest(0), heaviest(0), 1, 3, heaviest(0)}, {heaviest(0), weighted(0, 1), 1, 3, none}, {heaviest(0), even(0, 60), 1, 2, none},
	} {
		checkMixed(t, c.a, c.b, c.num, c.den, c.want)
	}
}

func plainSum(d impl.Distribution) int {
	sum := 0
	for _, weight := range d.Weights {
		sum += weight
	}
	return sum
}

// plainChances maps years, or numbers of years, to probabilities or multiples of them.
type plainChances map[int]*big.Rat

func (c plainChances) add(year int, chance *big.Rat) {
	if c[year] == nil {
		c[year] = new(big.Rat)
	}
	c[year].Add(c[year], chance)
}

func plainChancesOf(d impl.Distribution) plainChances {
	c := plainChances{}
	for i, weight := range d.Weights {
		c.add(d.First+i, big.NewRat(int64(weight), int64(plainSum(d))))
	}
	return c
}

// distribution returns the valid distribution with these probabilities, or the zero value.
func (c plainChances) distribution() impl.Distribution {
	years := []int{}
	denominators, divisor := big.NewInt(1), new(big.Int)
	for year, chance := range c {
		if chance.Sign() > 0 {
			years = append(years, year)
			denominators.Mul(denominators, chance.Denom())
		}
	}
	whole := func(year int) *big.Int {
		product := new(big.Rat).Mul(c[year], new(big.Rat).SetInt(denominators))
		return product.Num()
	}
	for _, year := range years {
		divisor.GCD(nil, nil, divisor, whole(year))
	}
	slices.Sort(years)
	if len(years) == 0 || years[0] < -20000 || years[len(years)-1] > 2100 || years[len(years)-1]-years[0] > 59 {
		return impl.Distribution{}
	}
	d := weighted(years[0], make([]int, years[len(years)-1]-years[0]+1)...)
	for _, year := range years {
		weight := new(big.Int).Quo(whole(year), divisor)
		if weight.Cmp(big.NewInt(1000000)) > 0 {
			return impl.Distribution{}
		}
		d.Weights[year-d.First] = int(weight.Int64())
	}
	return d
}

func plainlyReduced(first int, weights []int) impl.Distribution {
	c := plainChances{}
	for i, weight := range weights {
		c.add(first+i, big.NewRat(int64(weight), 1))
	}
	return c.distribution()
}

// eachPair calls use with all pairs of years, and the product of their probabilities.
func eachPair(a, b impl.Distribution, use func(yearOfA, yearOfB int, product *big.Rat)) {
	chances := plainChancesOf(b)
	for year, chance := range plainChancesOf(a) {
		for other, otherChance := range chances {
			use(year, other, new(big.Rat).Mul(chance, otherChance))
		}
	}
}

// checkPairOfDistributions holds the functions of two distributions against all pairs of years.
func checkPairOfDistributions(t *testing.T, a, b impl.Distribution) {
	t.Helper()
	combined, later, earlier := plainChances{}, plainChances{}, new(big.Rat)
	eachPair(a, b, func(yearOfA, yearOfB int, product *big.Rat) {
		if yearOfA == yearOfB {
			combined.add(yearOfA, product)
		}
		if yearOfA < yearOfB {
			earlier.Add(earlier, product)
		}
		later.add(yearOfB-yearOfA, product)
	})
	checkCombined(t, a, b, combined.distribution())
	checkLaterBy(t, a, b, later.distribution())
	den := plainSum(a) * plainSum(b)
	num := earlier.Mul(earlier, big.NewRat(int64(den), 1)).Num()
	checkChance(t, a, b, int(num.Int64()), den, true)
}

func checkPlainlyMixed(t *testing.T, a, b impl.Distribution, num, den int) {
	t.Helper()
	mixed := plainChances{}
	for year, chance := range plainChancesOf(a) {
		mixed.add(year, chance.Mul(chance, big.NewRat(int64(num), int64(den))))
	}
	for year, chance := range plainChancesOf(b) {
		mixed.add(year, chance.Mul(chance, big.NewRat(int64(den-num), int64(den))))
	}
	checkMixed(t, a, b, num, den, mixed.distribution())
}

// checkPortions holds the quantile and the shortest interval against those of all intervals
// that begin and end near the distribution, also outside it.
func checkPortions(t *testing.T, d impl.Distribution, num, den int) {
	t.Helper()
	chances, least := plainChancesOf(d), big.NewRat(int64(num), int64(den))
	last := d.First + len(d.Weights) - 1
	quantile, shortest := last+1, between(d.First-9, last+9)
	for from := d.First - 2; from <= last+2; from++ {
		sum := new(big.Rat)
		for to := from; to <= last+2; to++ {
			if chances[to] != nil {
				sum.Add(sum, chances[to])
			}
			if sum.Cmp(least) < 0 {
				continue
			}
			if from == d.First {
				quantile = min(quantile, to)
			}
			if to-from < shortest.To-shortest.From {
				shortest = between(from, to)
			}
		}
	}
	checkQuantile(t, d, num, den, quantile, true)
	checkShortest(t, d, num, den, shortest, true)
}

// weightLists returns all lists of up to count weights in 0..high.
func weightLists(count, high int) [][]int {
	all := [][]int{{}}
	for i := 0; i < len(all) && len(all[i]) < count; i++ {
		for weight := range high + 1 {
			all = append(all, append(slices.Clone(all[i]), weight))
		}
	}
	return all
}

// smallDistributions returns all valid distributions of up to count weights in 0..high.
func smallDistributions(first, count, high int) []impl.Distribution {
	all := []impl.Distribution{}
	for _, weights := range weightLists(count, high) {
		reduced := plainlyReduced(first, weights)
		if len(weights) > 0 && reduced.First == first && slices.Equal(reduced.Weights, weights) {
			all = append(all, reduced)
		}
	}
	return all
}

// TestEveryListOfFewWeights: a list is a distribution if it is what it is reduced to.
func TestEveryListOfFewWeights(t *testing.T) {
	tested := [2]int{}
	for _, weights := range weightLists(4, 6) {
		for _, first := range []int{-2, impl.MaxYear - 2} {
			want := plainlyReduced(first, weights)
			checkMade(t, first, weights, want)
			valid := len(weights) > 0 && want.First == first && slices.Equal(want.Weights, weights)
			if impl.IsValidDistribution(weighted(first, weights...)) != valid {
				t.Errorf("IsValidDistribution(%d, %v) = %v", first, weights, !valid)
			}
			if valid {
				tested[0]++
			} else {
				tested[1]++
			}
		}
	}
	if tested[0] < 1000 || tested[1] < 1000 {
		t.Errorf("of all lists, %d are weights, and %d are not", tested[0], tested[1])
	}
}

func TestEveryPairOfSmallDistributions(t *testing.T) {
	small := smallDistributions(0, 3, 3)
	if len(small) != 40 {
		t.Errorf("there are %d small distributions", len(small))
	}
	for i, a := range small {
		for k, b := range small {
			for first := -4; first <= 4; first++ {
				b.First = first
				checkPairOfDistributions(t, a, b)
				den := 1 + (i+k)%5
				checkPlainlyMixed(t, a, b, 1+(i+first+4)%den, den)
			}
		}
	}
}

func TestEveryPortionOfSmallDistributions(t *testing.T) {
	for _, d := range smallDistributions(-1, 4, 3) {
		for den := 1; den <= 10; den++ {
			for num := 1; num <= den; num++ {
				checkPortions(t, d, num, den)
			}
		}
		checkPortions(t, d, 1, 1000)
		checkPortions(t, d, 999, 1000)
	}
}

// chosenDistribution has up to count years near 0, one in four with the weight 0.
func chosenDistribution(source *rand.Rand, count, high int) impl.Distribution {
	weights := []int{1 + source.Intn(high)}
	for range source.Intn(count) {
		weight := 0
		if source.Intn(4) > 0 {
			weight = 1 + source.Intn(high)
		}
		weights = append(weights, weight)
	}
	return plainlyReduced(source.Intn(41)-20, weights)
}

func TestChosenDistributions(t *testing.T) {
	source := rand.New(rand.NewSource(10))
	valid := map[string]int{}
	count := func(name string, d impl.Distribution, ok bool) {
		if ok {
			valid[name]++
		}
	}
	for range 300 {
		for _, high := range []int{2, 30, 1000, impl.MaxWeight} {
			a, b := chosenDistribution(source, impl.MaxSupport, high), chosenDistribution(source, 1+source.Intn(20), high)
			checkPairOfDistributions(t, a, b)
			checkPairOfDistributions(t, b, a)
			den := 1 + source.Intn(1000)
			num := 1 + source.Intn(den)
			checkPortions(t, a, num, den)
			checkPlainlyMixed(t, a, b, num, den)
			checkPlainlyMixed(t, a, b, 1, 2)
			combined, ok := impl.CombineDistributions(a, b)
			count("combined", combined, ok)
			later, ok := impl.LaterBy(a, b)
			count("later", later, ok)
			mixed, ok := impl.MixDistributions(a, b, 1, 2)
			count("mixed", mixed, ok)
		}
	}
	for _, name := range []string{"combined", "later", "mixed"} {
		if valid[name] < 100 || valid[name] > 1100 {
			t.Errorf("of the chosen distributions, %d are %s", valid[name], name)
		}
	}
}

// checkChancesAddUp checks promise 10 in the results alone: earlier, equal and later years.
func checkChancesAddUp(t *testing.T, a, b impl.Distribution) {
	t.Helper()
	earlier, whole, ok := impl.ChanceEarlier(a, b)
	later, sameWhole, alsoOk := impl.ChanceEarlier(b, a)
	equal := 0
	for year := a.First; year < a.First+len(a.Weights); year++ {
		weightOfA, sumOfA, _ := impl.WeightAt(a, year)
		weightOfB, sumOfB, _ := impl.WeightAt(b, year)
		equal += weightOfA * weightOfB
		if sumOfA*sumOfB != whole {
			t.Errorf("%v, %v: the whole %d is not the product of %d and %d", a, b, whole, sumOfA, sumOfB)
		}
	}
	if !ok || !alsoOk || whole != sameWhole || earlier+equal+later != whole {
		t.Errorf("%v, %v: the chances %d, %d and %d do not add up to %d, %d", a, b, earlier, equal, later, whole, sameWhole)
	}
	if d, ok := impl.LaterBy(a, b); ok {
		positive := 0
		for n := 1; n <= d.First+len(d.Weights); n++ {
			weight, _, _ := impl.WeightAt(d, n)
			positive += weight
		}
		if positive*whole != earlier*plainSum(d) {
			t.Errorf("%v, %v: the chance of positive numbers in %v is not %d of %d", a, b, d, earlier, whole)
		}
	}
}

// checkExactProducts checks promise 10 in the results alone: combined weights have the
// proportions of the products.
func checkExactProducts(t *testing.T, a, b impl.Distribution) bool {
	t.Helper()
	combined, ok := impl.CombineDistributions(a, b)
	if !ok {
		return false
	}
	product := func(year int) *big.Int {
		weightOfA, _, _ := impl.WeightAt(a, year)
		weightOfB, _, _ := impl.WeightAt(b, year)
		return big.NewInt(int64(weightOfA * weightOfB))
	}
	known, _, _ := impl.WeightAt(combined, combined.First)
	for year := -100; year <= 100; year++ {
		weight, _, _ := impl.WeightAt(combined, year)
		left := new(big.Int).Mul(big.NewInt(int64(weight)), product(combined.First))
		right := new(big.Int).Mul(big.NewInt(int64(known)), product(year))
		if left.Cmp(right) != 0 {
			t.Errorf("%v, %v: the weight of %d in %v is no exact product", a, b, year, combined)
		}
	}
	return true
}

func TestExactProductsAndWholeChances(t *testing.T) {
	source := rand.New(rand.NewSource(1010))
	combined := 0
	for range 500 {
		for _, high := range []int{1, 7, 1000, impl.MaxWeight} {
			a, b := chosenDistribution(source, 40, high), chosenDistribution(source, 1+source.Intn(40), high)
			checkChancesAddUp(t, a, b)
			checkChancesAddUp(t, a, a)
			if checkExactProducts(t, a, b) {
				combined++
			}
		}
	}
	if combined < 300 {
		t.Errorf("only %d pairs of distributions were combined", combined)
	}
	for _, a := range soundDistributions() {
		for _, b := range soundDistributions() {
			checkChancesAddUp(t, a, b)
		}
	}
}

// TestShiftsChangeTheYearsAlone: what is shifted back is as before, and so are sums and intervals.
func TestShiftsChangeTheYearsAlone(t *testing.T) {
	source := rand.New(rand.NewSource(101))
	for range 200 {
		d := chosenDistribution(source, impl.MaxSupport, 50)
		years := source.Intn(3000) - 1500
		shifted, ok := impl.ShiftDistribution(d, years)
		if !ok {
			t.Fatalf("ShiftDistribution(%v, %d) fails", d, years)
		}
		checkShifted(t, shifted, -years, d)
		for year := d.First - 1; year <= d.First+len(d.Weights); year++ {
			weight, sum, ok := impl.WeightAt(d, year)
			checkWeight(t, shifted, year+years, weight, sum, ok)
		}
		quantile, _ := impl.QuantileYear(d, 2, 3)
		checkQuantile(t, shifted, 2, 3, quantile+years, true)
		first, last, _ := impl.ShortestInterval(d, 2, 3)
		checkShortest(t, shifted, 2, 3, between(first+years, last+years), true)
	}
}

// resultsOf calls every function of the chapter that returns distributions, and returns their weights.
func resultsOf(a, b impl.Distribution) [][]int {
	results := [][]int{}
	add := func(d impl.Distribution, ok bool) {
		if ok {
			results = append(results, d.Weights)
		}
	}
	for range 2 {
		add(impl.MakeDistribution(a.First, a.Weights))
		add(impl.ShiftDistribution(a, 0))
		add(impl.ShiftDistribution(a, 1))
		add(impl.CombineDistributions(a, b))
		add(impl.CombineDistributions(b, a))
		add(impl.LaterBy(a, b))
		add(impl.LaterBy(b, a))
		add(impl.MixDistributions(a, b, 1, 1))
		add(impl.MixDistributions(b, a, 1, 1))
		add(impl.MixDistributions(a, b, 1, 3))
	}
	return results
}

// checkMemoryOfDistributions passes slices that have more elements beyond their lengths.
func checkMemoryOfDistributions(t *testing.T, a, b impl.Distribution) {
	t.Helper()
	wholeOfA := append(slices.Clone(a.Weights), 4, -1, 0, impl.MaxWeight+1)
	wholeOfB := append(slices.Clone(b.Weights), 0, 0, 8, math.MinInt)
	beforeA, beforeB := slices.Clone(wholeOfA), slices.Clone(wholeOfB)
	partA, partB := weighted(a.First, wholeOfA[:len(a.Weights)]...), weighted(b.First, wholeOfB[:len(b.Weights)]...)
	want := resultsOf(a, b)
	name := "results for distributions"
	checkSeparate(t, name, resultsOf(partA, partB), want)
	checkSeparate(t, name, backward(resultsOf(partA, partB)), backward(want))
	checkSeparate(t, name, resultsOf(partA, partA), resultsOf(a, a))
	for i, weight := range a.Weights {
		checkWeight(t, partA, a.First+i, weight, plainSum(a), true)
	}
	num, den, ok := impl.ChanceEarlier(a, b)
	checkChance(t, partA, partB, num, den, ok)
	checkPortions(t, partA, 1, 1)
	checkPortions(t, partB, 1, 2)
	if !impl.IsValidDistribution(partA) || !impl.IsValidDistribution(partB) {
		t.Errorf("%v or %v is not valid", partA, partB)
	}
	if !slices.Equal(wholeOfA, beforeA) || !slices.Equal(wholeOfB, beforeB) {
		t.Errorf("the arguments became %v, %v; they were %v, %v", wholeOfA, wholeOfB, beforeA, beforeB)
	}
}

func TestMemoryOfDistributions(t *testing.T) {
	checkMemoryOfDistributions(t, weighted(5, 1, 2, 1), weighted(6, 1, 1))
	checkMemoryOfDistributions(t, weighted(5, 1), weighted(5, 1))
	source := rand.New(rand.NewSource(11))
	for range 200 {
		checkMemoryOfDistributions(t, chosenDistribution(source, 10, 9), chosenDistribution(source, 10, 9))
		checkMemoryOfDistributions(t, chosenDistribution(source, 60, 1000), chosenDistribution(source, 60, 1000))
	}
}

// TestMakeDistributionLeavesItsWeights passes weights that are divided, shortened or refused.
func TestMakeDistributionLeavesItsWeights(t *testing.T) {
	for _, weights := range [][]int{{2, 4, 6}, {0, 0, 3, 9, 0}, {0, 0}, {5}, {1, -1, 0}, {7 * impl.MaxWeight, 7, 0}, {2 * impl.MaxWeight, 1}} {
		whole := append(slices.Clone(weights), 3, 5)
		before := slices.Clone(whole)
		part := whole[:len(weights)]
		first, ok := impl.MakeDistribution(5, part)
		second, _ := impl.MakeDistribution(5, part)
		clear(first.Weights[:cap(first.Weights)])
		checkMade(t, 5, part, second)
		if !slices.Equal(whole, before) || ok != (len(second.Weights) > 0) {
			t.Errorf("the weights %v became %v", before, whole)
		}
	}
}
