package tests

import (
	"math"
	"math/rand"
	"slices"
	"testing"

	"loop.example/g00876/impl"
)

func datedRecord(r impl.Record, dates ...impl.Distribution) impl.DatedRecord {
	return impl.DatedRecord{Record: r, Dates: dates}
}

// stairs has three contexts, each above the next one; four datings have a positive weight:
// 10 10 9 has 3, 11 10 9 has 6, 11 11 9 has 2, and 11 11 11 has 2.
func stairs() impl.DatedRecord {
	return datedRecord(strata([]int{3, 5, 8}, [2]int{3, 5}, [2]int{5, 8}),
		weighted(10, 1, 2), weighted(10, 3, 1), weighted(9, 1, 0, 1))
}

// inverted has a context with the last Number at the bottom of all, that is, the order of the
// contexts is that of time.
func inverted() impl.DatedRecord {
	return datedRecord(strata([]int{1, 20, 300}, [2]int{20, 1}, [2]int{300, 20}, [2]int{300, 1}),
		weighted(-1, 1, 1, 1), weighted(-1, 2, 1, 3), weighted(0, 5, 1))
}

func copyOfDated(d impl.DatedRecord) impl.DatedRecord {
	result := impl.DatedRecord{Record: copyOf(d.Record)}
	for _, x := range d.Dates {
		result.Dates = append(result.Dates, weighted(x.First, slices.Clone(x.Weights)...))
	}
	return result
}

func sameDistribution(a, b impl.Distribution) bool {
	return a.First == b.First && slices.Equal(a.Weights, b.Weights)
}

func sameDated(a, b impl.DatedRecord) bool {
	return sameRecord(a.Record, b.Record) && slices.EqualFunc(a.Dates, b.Dates, sameDistribution)
}

func checkDatingWeight(t *testing.T, d impl.DatedRecord, years []int, want int, wantOk bool) {
	t.Helper()
	if got, ok := impl.DatingWeight(d, years); got != want || ok != wantOk {
		t.Errorf("DatingWeight(%v, %v) = %d, %v; want %d, %v", d, years, got, ok, want, wantOk)
	}
}

func checkDatings(t *testing.T, d impl.DatedRecord, count, sum int, wantOk bool) {
	t.Helper()
	if got, all, ok := impl.CountDatings(d); got != count || all != sum || ok != wantOk {
		t.Errorf("CountDatings(%v) = %d, %d, %v; want %d, %d, %v", d, got, all, ok, count, sum, wantOk)
	}
}

func checkMarginal(t *testing.T, d impl.DatedRecord, number int, want impl.Distribution) {
	t.Helper()
	got, ok := impl.MarginalDate(d, number)
	checkDistribution(t, got, ok, want, "MarginalDate", d, number)
}

func checkDateBounds(t *testing.T, d impl.DatedRecord, smallest, greatest []int, wantOk bool) {
	t.Helper()
	if low, high, ok := impl.DateBounds(d); !slices.Equal(low, smallest) || !slices.Equal(high, greatest) || ok != wantOk {
		t.Errorf("DateBounds(%v) = %v, %v, %v; want %v, %v, %v", d, low, high, ok, smallest, greatest, wantOk)
	}
}

// checkLikeliest wants that LikeliestDating fails if weight is 0.
func checkLikeliest(t *testing.T, d impl.DatedRecord, want []int, weight int) {
	t.Helper()
	if got, w, ok := impl.LikeliestDating(d); !slices.Equal(got, want) || w != weight || ok != (weight > 0) {
		t.Errorf("LikeliestDating(%v) = %v, %d, %v; want %v, %d", d, got, w, ok, want, weight)
	}
}

func checkOrderChance(t *testing.T, d impl.DatedRecord, a, b, earlier, all int, wantOk bool) {
	t.Helper()
	if got, sum, ok := impl.ChanceOfOrder(d, a, b); got != earlier || sum != all || ok != wantOk {
		t.Errorf("ChanceOfOrder(%v, %d, %d) = %d, %d, %v; want %d, %d, %v", d, a, b, got, sum, ok, earlier, all, wantOk)
	}
}

func checkDated(t *testing.T, call string, got impl.DatedRecord, ok bool, want impl.DatedRecord, wantOk bool) {
	t.Helper()
	if !sameDated(got, want) || ok != wantOk {
		t.Errorf("%s = %v, %v; want %v, %v", call, got, ok, want, wantOk)
	}
	if ok && !impl.IsValidDated(got) {
		t.Errorf("%s = %v, which is not valid", call, got)
	}
}

// checkFixed wants that only the distribution of one context changes.
func checkFixed(t *testing.T, d impl.DatedRecord, number, year int, wantOk bool) {
	t.Helper()
	want := impl.DatedRecord{}
	if wantOk {
		want = copyOfDated(d)
		want.Dates[slices.Index(numbersOf(d.Record), number)] = weighted(year, 1)
	}
	got, ok := impl.FixDate(d, number, year)
	checkDated(t, "FixDate", got, ok, want, wantOk)
}

// checkAddedDating wants that AddDating fails if changed is the zero value, and that only the
// distribution of one context changes otherwise.
func checkAddedDating(t *testing.T, d impl.DatedRecord, number int, x, changed impl.Distribution) {
	t.Helper()
	want, wantOk := impl.DatedRecord{}, len(changed.Weights) > 0
	if wantOk {
		want = copyOfDated(d)
		want.Dates[slices.Index(numbersOf(d.Record), number)] = changed
	}
	got, ok := impl.AddDating(d, number, x)
	checkDated(t, "AddDating", got, ok, want, wantOk)
}

// checkImpossible wants that no dating of a valid record has a positive weight.
func checkImpossible(t *testing.T, d impl.DatedRecord) {
	t.Helper()
	if !impl.IsValidDated(d) {
		t.Errorf("%v is not valid", d)
	}
	checkDatings(t, d, 0, 0, true)
	checkDateBounds(t, d, nil, nil, false)
	checkLikeliest(t, d, nil, 0)
	for _, a := range numbersOf(d.Record) {
		checkMarginal(t, d, a, impl.Distribution{})
		for _, b := range numbersOf(d.Record) {
			checkOrderChance(t, d, a, b, 0, 0, true)
		}
	}
}

// checkNotDated wants that every function refuses d.
func checkNotDated(t *testing.T, name string, d impl.DatedRecord) {
	t.Helper()
	before := copyOfDated(d)
	if impl.IsValidDated(d) {
		t.Errorf("%s: %v is valid", name, d)
	}
	years := make([]int, len(d.Record.Contexts))
	for i := range min(len(years), len(d.Dates)) {
		years[i] = d.Dates[i].First
	}
	checkDatingWeight(t, d, years, 0, false)
	checkDatingWeight(t, d, make([]int, len(d.Dates)), 0, false)
	checkDatingWeight(t, d, nil, 0, false)
	checkDatings(t, d, 0, 0, false)
	checkDateBounds(t, d, nil, nil, false)
	checkLikeliest(t, d, nil, 0)
	numbers := append(numbersOf(d.Record), 0, 1, 3)
	for _, a := range numbers[:min(len(numbers), 6)] {
		checkMarginal(t, d, a, impl.Distribution{})
		for _, b := range numbers[:min(len(numbers), 6)] {
			checkOrderChance(t, d, a, b, 0, 0, false)
		}
		checkFixed(t, d, a, 5, false)
		checkAddedDating(t, d, a, even(-5, 20), impl.Distribution{})
	}
	if !sameDated(d, before) {
		t.Errorf("%s: %v became %v", name, before, d)
	}
}

func TestStairs(t *testing.T) {
	d := stairs()
	checkDatings(t, d, 4, 13, true)
	checkMarginal(t, d, 3, weighted(10, 3, 10))
	checkMarginal(t, d, 5, weighted(10, 9, 4))
	checkMarginal(t, d, 8, weighted(9, 11, 0, 2))
	checkDateBounds(t, d, []int{10, 10, 9}, []int{11, 11, 11}, true)
	checkLikeliest(t, d, []int{11, 10, 9}, 6)
	for _, c := range [][3]int{{3, 5, 0}, {5, 3, 6}, {8, 5, 11}, {5, 8, 0}, {8, 3, 11}, {3, 8, 0}, {3, 3, 0}, {5, 5, 0}, {8, 8, 0}} {
		checkOrderChance(t, d, c[0], c[1], c[2], 13, true)
	}
	for _, c := range []struct {
		years  [3]int
		weight int
	}{
		{[3]int{10, 10, 9}, 3},
		{[3]int{11, 10, 9}, 6},
		{[3]int{11, 11, 9}, 2},
		{[3]int{11, 11, 11}, 2},
		{[3]int{10, 11, 9}, 0},
		{[3]int{10, 10, 11}, 0},
		{[3]int{11, 10, 11}, 0},
		{[3]int{10, 11, 11}, 0},
		{[3]int{11, 11, 10}, 0},
		{[3]int{10, 10, 10}, 0},
		{[3]int{12, 11, 9}, 0},
		{[3]int{11, 9, 9}, 0},
		{[3]int{11, 10, 8}, 0},
	} {
		checkDatingWeight(t, d, c.years[:], c.weight, true)
	}
}

// TestInverted: the years of the contexts are not in the order of their Numbers.
func TestInverted(t *testing.T) {
	d := inverted()
	// -1 -1 0: 10, -1 -1 1: 2, -1 0 0: 5, -1 0 1: 1, -1 1 1: 3, 0 0 0: 5, 0 0 1: 1, 0 1 1: 3, 1 1 1: 3.
	checkDatings(t, d, 9, 33, true)
	checkMarginal(t, d, 1, weighted(-1, 7, 3, 1))
	checkMarginal(t, d, 20, weighted(-1, 4, 4, 3))
	checkMarginal(t, d, 300, weighted(0, 20, 13))
	checkDateBounds(t, d, []int{-1, -1, 0}, []int{1, 1, 1}, true)
	checkLikeliest(t, d, []int{-1, -1, 0}, 10)
	checkOrderChance(t, d, 1, 20, 12, 33, true)
	checkOrderChance(t, d, 20, 1, 0, 33, true)
	checkOrderChance(t, d, 1, 300, 25, 33, true)
	checkOrderChance(t, d, 20, 300, 14, 33, true)
	checkOrderChance(t, d, 300, 20, 0, 33, true)
	checkDatingWeight(t, d, []int{-1, 1, 1}, 3, true)
	checkDatingWeight(t, d, []int{1, 1, 0}, 0, true)
	checkDatingWeight(t, d, []int{0, -1, 0}, 0, true)
}

func TestExampleOfMarginalDates(t *testing.T) {
	for _, upper := range []int{1, 2} {
		d := datedRecord(strata([]int{1, 2}, [2]int{upper, 3 - upper}), even(1, 2), even(1, 2))
		checkMarginal(t, d, upper, weighted(1, 1, 2))
		checkMarginal(t, d, 3-upper, weighted(1, 2, 1))
		checkDatings(t, d, 3, 3, true)
		checkDateBounds(t, d, []int{1, 1}, []int{2, 2}, true)
		checkLikeliest(t, d, []int{1, 1}, 1)
		checkOrderChance(t, d, 3-upper, upper, 1, 3, true)
		checkOrderChance(t, d, upper, 3-upper, 0, 3, true)
	}
}

func TestRecordsWithoutContexts(t *testing.T) {
	for _, d := range []impl.DatedRecord{{}, {Record: strata(nil), Dates: []impl.Distribution{}}} {
		if !impl.IsValidDated(d) {
			t.Errorf("%v is not valid", d)
		}
		checkDatingWeight(t, d, nil, 1, true)
		checkDatingWeight(t, d, []int{}, 1, true)
		checkDatingWeight(t, d, []int{0}, 0, false)
		checkDatings(t, d, 1, 1, true)
		checkDateBounds(t, d, nil, nil, true)
		checkLikeliest(t, d, nil, 1)
		checkMarginal(t, d, 1, impl.Distribution{})
		checkOrderChance(t, d, 1, 1, 0, 0, false)
		checkFixed(t, d, 1, 5, false)
		checkAddedDating(t, d, 1, weighted(5, 1), impl.Distribution{})
	}
}

// TestSingleContext: every year keeps its weight.
func TestSingleContext(t *testing.T) {
	for _, x := range soundDistributions() {
		d := datedRecord(strata([]int{7}), x)
		last := x.First + len(x.Weights) - 1
		count, best := 0, 0
		for i, weight := range x.Weights {
			checkDatingWeight(t, d, []int{x.First + i}, weight, true)
			count += min(weight, 1)
			if weight > x.Weights[best] {
				best = i
			}
		}
		checkDatings(t, d, count, plainSum(x), true)
		checkMarginal(t, d, 7, x)
		checkDateBounds(t, d, []int{x.First}, []int{last}, true)
		checkLikeliest(t, d, []int{x.First + best}, x.Weights[best])
		checkOrderChance(t, d, 7, 7, 0, plainSum(x), true)
		for _, year := range []int{x.First - 1, last + 1, math.MinInt, math.MaxInt, math.MinInt + x.First + 20000, math.MaxInt + x.First - 2100} {
			checkDatingWeight(t, d, []int{year}, 0, true)
		}
	}
}

func TestRecordsWithoutRelations(t *testing.T) {
	d := datedRecord(strata([]int{1, 2, 3}), weighted(10, 1, 2), weighted(5, 3, 0, 4), weighted(-100, 1))
	checkDatings(t, d, 4, 21, true)
	checkMarginal(t, d, 1, weighted(10, 1, 2))
	checkMarginal(t, d, 2, weighted(5, 3, 0, 4))
	checkMarginal(t, d, 3, weighted(-100, 1))
	checkDateBounds(t, d, []int{10, 5, -100}, []int{11, 7, -100}, true)
	checkLikeliest(t, d, []int{11, 7, -100}, 8)
	checkDatingWeight(t, d, []int{10, 7, -100}, 4, true)
	checkDatingWeight(t, d, []int{10, 6, -100}, 0, true)
	checkOrderChance(t, d, 2, 1, 21, 21, true)
	checkOrderChance(t, d, 1, 2, 0, 21, true)
	checkOrderChance(t, d, 3, 2, 21, 21, true)
	crossing := datedRecord(strata([]int{1, 2}), weighted(10, 1, 2, 4), weighted(10, 3, 1, 1))
	checkOrderChance(t, crossing, 1, 2, 4, 35, true)
	checkOrderChance(t, crossing, 2, 1, 22, 35, true)
	checkOrderChance(t, crossing, 1, 1, 0, 35, true)
	// Contexts without relations need not have years that are apart or ordered.
	even60 := even(0, 60)
	checkDatings(t, datedRecord(strata([]int{1, 2}), even60, even60), 3600, 3600, true)
	checkOrderChance(t, datedRecord(strata([]int{1, 2}), even60, even60), 2, 1, 1770, 3600, true)
}

// TestRelationsThatExcludeAllDatings: the record is valid all the same.
func TestRelationsThatExcludeAllDatings(t *testing.T) {
	above := strata([]int{1, 2}, [2]int{1, 2})
	checkImpossible(t, datedRecord(above, weighted(10, 1, 1), weighted(12, 1, 1)))
	checkImpossible(t, datedRecord(above, weighted(10, 1), weighted(11, 1)))
	checkImpossible(t, datedRecord(above, weighted(impl.MinYear, 1), weighted(impl.MaxYear, 1)))
	checkImpossible(t, datedRecord(strata([]int{1, 2}, [2]int{2, 1}), weighted(11, 1), weighted(10, 1)))
	checkImpossible(t, datedRecord(strata([]int{1, 2, 3}, [2]int{1, 2}, [2]int{2, 3}), even(0, 5), even(2, 10), even(5, 2)))
	// The zero weights exclude them, not the years alone.
	checkImpossible(t, datedRecord(strata([]int{1, 2}, [2]int{1, 2}, [2]int{2, 1}), weighted(0, 1, 0, 1), weighted(-1, 1, 0, 1, 0, 1)))
	checkImpossible(t, datedRecord(fullSite(), slices.Concat(slices.Repeat([]impl.Distribution{even(0, 2)}, 9), []impl.Distribution{even(2, 3)})...))
	for _, years := range [][]int{{10, 12}, {11, 12}, {10, 13}, {12, 12}, {12, 11}} {
		checkDatingWeight(t, datedRecord(above, weighted(10, 1, 1), weighted(12, 1, 1)), years, 0, true)
	}
}

// TestEqualYearsRespectRelations: only they do so on a cycle.
func TestEqualYearsRespectRelations(t *testing.T) {
	above := strata([]int{1, 2}, [2]int{1, 2})
	d := datedRecord(above, weighted(10, 1, 1), weighted(11, 1, 1))
	checkDatings(t, d, 1, 1, true)
	checkDateBounds(t, d, []int{11, 11}, []int{11, 11}, true)
	checkLikeliest(t, d, []int{11, 11}, 1)
	checkMarginal(t, d, 1, weighted(11, 1))
	checkMarginal(t, d, 2, weighted(11, 1))
	checkOrderChance(t, d, 1, 2, 0, 1, true)
	checkOrderChance(t, d, 2, 1, 0, 1, true)
	checkDatingWeight(t, d, []int{11, 11}, 1, true)
	cycle := datedRecord(strata([]int{1, 2, 3}, [2]int{1, 2}, [2]int{2, 3}, [2]int{3, 1}), weighted(0, 1, 2, 3), weighted(1, 5, 0, 1), weighted(-1, 1, 1, 7, 4, 9))
	checkDatings(t, cycle, 1, 70, true)
	cycle.Dates[1].Weights[1] = 4
	checkDatings(t, cycle, 2, 118, true)
	checkMarginal(t, cycle, 1, weighted(1, 35, 24))
	checkMarginal(t, cycle, 3, weighted(1, 35, 24))
	checkDateBounds(t, cycle, []int{1, 1, 1}, []int{2, 2, 2}, true)
	checkLikeliest(t, cycle, []int{1, 1, 1}, 70)
	checkOrderChance(t, cycle, 1, 2, 0, 118, true)
	checkOrderChance(t, cycle, 2, 1, 0, 118, true)
	checkDatingWeight(t, cycle, []int{1, 1, 1}, 70, true)
	checkDatingWeight(t, cycle, []int{2, 2, 2}, 48, true)
	for _, years := range [][]int{{2, 1, 1}, {1, 2, 1}, {1, 1, 2}, {2, 2, 1}, {1, 2, 2}, {2, 1, 2}} {
		checkDatingWeight(t, cycle, years, 0, true)
	}
	apart := datedRecord(cycle.Record, even(0, 3), even(1, 3), even(3, 3))
	checkImpossible(t, apart)
	pairs := datedRecord(strata([]int{1, 2}, [2]int{1, 2}, [2]int{2, 1}), even(0, 2), even(1, 2))
	checkDatings(t, pairs, 1, 1, true)
}

// TestYearsOfNoDating: a year can have no dating with a positive weight although it has a weight.
func TestYearsOfNoDating(t *testing.T) {
	above := strata([]int{1, 2}, [2]int{1, 2})
	ends := datedRecord(above, weighted(0, 1, 2, 3), weighted(1, 3, 2, 1))
	// 1 1: 6, 2 1: 9, 2 2: 6.
	checkMarginal(t, ends, 1, weighted(1, 2, 5))
	checkMarginal(t, ends, 2, weighted(1, 5, 2))
	checkDateBounds(t, ends, []int{1, 1}, []int{2, 2}, true)
	checkLikeliest(t, ends, []int{2, 1}, 9)
	// Contexts with the same years in a cycle have those of the others alone.
	middle := datedRecord(strata([]int{1, 2}, [2]int{1, 2}, [2]int{2, 1}), weighted(0, 1, 2, 3), weighted(0, 1, 0, 1))
	checkMarginal(t, middle, 1, weighted(0, 1, 0, 3))
	checkMarginal(t, middle, 2, weighted(0, 1, 0, 3))
	checkDateBounds(t, middle, []int{0, 0}, []int{2, 2}, true)
	checkLikeliest(t, middle, []int{2, 2}, 3)
	both := datedRecord(middle.Record, weighted(-1, 9, 1, 2, 3, 9), weighted(0, 1, 0, 1))
	checkMarginal(t, both, 1, weighted(0, 1, 0, 3))
	checkDateBounds(t, both, []int{0, 0}, []int{2, 2}, true)
	checkDatingWeight(t, both, []int{1, 1}, 0, true)
}

// TestMarginalDatesAreReduced: sums can be greater than MaxWeight.
func TestMarginalDatesAreReduced(t *testing.T) {
	const million = impl.MaxWeight
	loose := strata([]int{1, 2})
	common := datedRecord(loose, weighted(0, 1, 2), weighted(5, 2, 3))
	checkMarginal(t, common, 1, weighted(0, 1, 2))
	checkMarginal(t, common, 2, weighted(5, 2, 3))
	great := datedRecord(loose, weighted(0, million, 1), weighted(5, million-1, 1))
	checkMarginal(t, great, 1, weighted(0, million, 1))
	checkMarginal(t, great, 2, weighted(5, million-1, 1))
	checkDatings(t, great, 4, (million+1)*million, true)
	// In a relation, the sums of the upper context are those up to a year of the lower one.
	above := strata([]int{1, 2}, [2]int{1, 2})
	checkMarginal(t, datedRecord(above, even(0, 2), weighted(0, 1, million-1)), 1, weighted(0, 1, million))
	checkMarginal(t, datedRecord(above, even(0, 2), weighted(0, 1, million)), 1, impl.Distribution{})
	checkMarginal(t, datedRecord(above, even(0, 2), weighted(0, 1, million)), 2, weighted(0, 1, million/2))
	checkMarginal(t, datedRecord(above, weighted(0, 7, 7, 1), weighted(1, 1, million)), 1, impl.Distribution{})
	checkMarginal(t, datedRecord(above, weighted(0, 7, 7, 7, 6), weighted(1, 1, million-1)), 1, impl.Distribution{})
	checkMarginal(t, datedRecord(above, weighted(0, 6, 7, 7), weighted(1, 1, million-1)), 1, weighted(1, 1, million))
	checkMarginal(t, datedRecord(above, weighted(0, 6, 7, 7), weighted(1, 1, million)), 1, impl.Distribution{})
	checkMarginal(t, datedRecord(above, weighted(0, 1, 2), weighted(0, 2, million-3)), 1, weighted(0, 1, million-1))
	checkMarginal(t, datedRecord(above, weighted(0, 1, 2), weighted(0, 1, million/2-1)), 1, weighted(0, 1, million))
	checkMarginal(t, datedRecord(above, weighted(0, 1, 2), weighted(0, 1, million/2)), 1, impl.Distribution{})
	// The limits of MakeDistribution do not apply to sums.
	checkMarginal(t, loosely(weighted(0, million, 1), even(0, 30), summing(30000000).Dates[0]), 3, weighted(0, million, 1))
	// The other results do not fail with them.
	failing := datedRecord(above, even(0, 2), weighted(0, 1, million))
	checkDatings(t, failing, 3, million+2, true)
	checkDateBounds(t, failing, []int{0, 0}, []int{1, 1}, true)
	checkLikeliest(t, failing, []int{1, 1}, million)
	checkOrderChance(t, failing, 2, 1, 1, million+2, true)
}

// TestLikeliestOfSeveralDatings: the lexicographically smallest one counts.
func TestLikeliestOfSeveralDatings(t *testing.T) {
	loose := strata([]int{1, 2, 3})
	checkLikeliest(t, datedRecord(loose, even(5, 3), even(-5, 3), even(0, 60)), []int{5, -5, 0}, 1)
	checkLikeliest(t, datedRecord(loose, weighted(5, 1, 3, 3), weighted(-5, 2, 1, 2), weighted(0, 1, 1)), []int{6, -5, 0}, 6)
	checkLikeliest(t, datedRecord(loose, weighted(5, 1, 0, 2, 2), weighted(-5, 1, 2, 0, 2), weighted(0, 1, 1)), []int{7, -4, 0}, 4)
	above := strata([]int{1, 2}, [2]int{1, 2})
	checkLikeliest(t, datedRecord(above, even(-1, 3), even(0, 3)), []int{0, 0}, 1)
	checkLikeliest(t, datedRecord(above, weighted(0, 1, 1, 2, 2), weighted(1, 1, 1, 9)), []int{3, 3}, 18)
	checkLikeliest(t, datedRecord(above, weighted(0, 1, 1, 2, 2), weighted(1, 1, 3, 3)), []int{2, 2}, 6)
	below := strata([]int{1, 2}, [2]int{2, 1})
	checkLikeliest(t, datedRecord(below, even(0, 3), even(-1, 3)), []int{0, 0}, 1)
	checkLikeliest(t, datedRecord(below, even(1, 2), weighted(1, 1, 2, 2)), []int{1, 2}, 2)
	checkLikeliest(t, datedRecord(below, weighted(1, 1, 2), weighted(2, 1, 0, 1)), []int{2, 2}, 2)
	// The greatest weights of both contexts do not respect the relation, or do so.
	checkLikeliest(t, datedRecord(below, weighted(2, 2, 1), weighted(1, 9, 1, 2)), []int{2, 3}, 4)
	checkLikeliest(t, datedRecord(below, weighted(1, 4, 3), weighted(0, 7, 1, 2)), []int{1, 2}, 8)
	checkLikeliest(t, datedRecord(below, weighted(1, 3, 2), weighted(2, 2, 3)), []int{1, 3}, 9)
	equal := strata([]int{1, 2}, [2]int{1, 2}, [2]int{2, 1})
	checkLikeliest(t, datedRecord(equal, weighted(1, 6, 3, 2), weighted(1, 1, 2, 3)), []int{1, 1}, 6)
	checkLikeliest(t, datedRecord(equal, weighted(1, 5, 3, 2), weighted(1, 1, 2, 3)), []int{2, 2}, 6)
	checkLikeliest(t, datedRecord(equal, weighted(1, 5, 3, 2), weighted(1, 1, 2, 4)), []int{3, 3}, 8)
}

// TestFlawedDatedRecords passes dated records that have one flaw each.
func TestFlawedDatedRecords(t *testing.T) {
	for name, r := range invalidSites() {
		dates := slices.Repeat([]impl.Distribution{weighted(5, 1)}, len(r.Contexts))
		checkNotDated(t, name, datedRecord(r, dates...))
		for i := range dates {
			dates[i] = even(4, 1+i%2)
		}
		checkNotDated(t, name, datedRecord(r, dates...))
	}
	for name, x := range flawedDistributions() {
		for i := range 3 {
			for _, d := range []impl.DatedRecord{stairs(), inverted()} {
				d.Dates[i] = x
				checkNotDated(t, name, d)
			}
		}
		checkNotDated(t, name, datedRecord(strata([]int{7}), x))
		many := slices.Repeat([]impl.Distribution{weighted(5, 1)}, 10)
		for i := range many {
			checkNotDated(t, name, datedRecord(fullSite(), slices.Replace(slices.Clone(many), i, i+1, x)...))
		}
	}
	for _, d := range []impl.DatedRecord{stairs(), inverted(), datedRecord(fullSite(), slices.Repeat([]impl.Distribution{weighted(5, 1)}, 10)...)} {
		for count := range len(d.Dates) {
			checkNotDated(t, "too few distributions", datedRecord(d.Record, d.Dates[:count]...))
			checkNotDated(t, "too few distributions", datedRecord(d.Record, d.Dates[len(d.Dates)-count:]...))
		}
		checkNotDated(t, "one distribution too many", datedRecord(d.Record, append(d.Dates, weighted(5, 1))...))
		checkNotDated(t, "many distributions too many", datedRecord(d.Record, slices.Repeat(d.Dates, 1000)...))
	}
	checkNotDated(t, "a distribution without a context", datedRecord(impl.Record{}, weighted(5, 1)))
	checkNotDated(t, "a flawed distribution without a context", datedRecord(impl.Record{}, impl.Distribution{}))
}

// loosely returns a record without relations that has these distributions.
func loosely(dates ...impl.Distribution) impl.DatedRecord {
	numbers := []int{}
	for i := range dates {
		numbers = append(numbers, 3+2*i)
	}
	return datedRecord(strata(numbers), dates...)
}

// allEven has one distribution with equal weights for every count of years.
func allEven(counts ...int) impl.DatedRecord {
	dates := []impl.Distribution{}
	for _, count := range counts {
		dates = append(dates, even(0, count))
	}
	return loosely(dates...)
}

// TestMaxDatings: 5005 is the least product of numbers of up to 60 years above 5000.
func TestMaxDatings(t *testing.T) {
	if impl.MaxDatings != 5000 {
		t.Errorf("MaxDatings is %d", impl.MaxDatings)
	}
	for _, counts := range [][]int{
		{50, 50, 2}, {2, 50, 50}, {50, 2, 50}, {1, 50, 1, 50, 1, 2, 1, 1, 1, 1}, {5, 5, 5, 5, 2, 2, 2}, {40, 5, 25}, {60, 60},
		{2, 2, 2, 2, 2, 2, 2, 2, 2}, {2, 2, 2, 2, 2, 2, 2, 2, 2, 9}, {1, 1, 1, 1, 1, 1, 1, 1, 1, 60}, {49, 6, 17}, {59, 42, 2}, {48, 52, 2},
	} {
		product := 1
		for _, count := range counts {
			product *= count
		}
		if d := allEven(counts...); !impl.IsValidDated(d) {
			t.Errorf("%v is not valid", d)
		}
		checkDatings(t, allEven(counts...), product, product, true)
		checkLikeliest(t, allEven(counts...), make([]int, len(counts)), 1)
	}
	for _, counts := range [][]int{
		{55, 13, 7}, {7, 13, 55}, {5, 7, 11, 13}, {13, 11, 7, 5, 1, 1, 1, 1, 1, 1}, {35, 11, 13}, {50, 50, 3}, {60, 60, 2}, {60, 2, 60}, {51, 50, 2},
		{2, 2, 2, 2, 2, 2, 2, 2, 2, 10}, {3, 3, 3, 3, 3, 3, 3, 3}, {60, 60, 60, 60, 60, 60, 60, 60, 60, 60}, {60, 60, 60, 60, 60, 60, 60, 60, 60, 1},
	} {
		checkNotDated(t, "too many datings", allEven(counts...))
	}
	// Weights of 0 count among the numbers of Weights.
	gaps := weighted(0, slices.Concat([]int{1}, make([]int, 48), []int{1})...)
	checkDatings(t, loosely(gaps, gaps, even(0, 2)), 8, 8, true)
	checkNotDated(t, "too many weights", loosely(gaps, gaps, weighted(0, 1, 0, 1)))
	checkNotDated(t, "too many weights", loosely(gaps, weighted(0, 1, 0, 1), gaps))
	// Relations make datings fewer, but not the numbers of Weights.
	many := allEven(50, 50, 3)
	many.Record.Relations = []impl.Relation{{Upper: 3, Lower: 5}, {Upper: 5, Lower: 3}}
	checkNotDated(t, "too many weights", many)
}

// summing has, for every sum, a distribution with as few weights as it can have.
func summing(sums ...int) impl.DatedRecord {
	dates := []impl.Distribution{}
	for i, sum := range sums {
		x := weighted(i, 1)
		for rest := sum - 1; rest > 0; rest -= impl.MaxWeight {
			x.Weights = append(x.Weights, min(rest, impl.MaxWeight))
		}
		dates = append(dates, x)
	}
	return loosely(dates...)
}

// TestProductsOfSums: the product of the sums may be 10^15, but not greater.
func TestProductsOfSums(t *testing.T) {
	const greatest = 1_000_000_000_000_000
	for _, sums := range [][]int{
		{100000, 100000, 100000}, {1000, 1000000, 1000000}, {1000000, 1000, 1000000}, {1000000, 1000000, 1000},
		{1000, 1000, 1000, 1000, 1000}, {10, 100000, 1000, 10, 10, 10000}, {1000000, 1000000, 10, 10, 10}, {25000000, 40000000},
	} {
		d := summing(sums...)
		if !impl.IsValidDated(d) {
			t.Errorf("%v is not valid", d)
		}
		_, sum, ok := impl.CountDatings(d)
		if sum != greatest || !ok {
			t.Errorf("the sum of the weights of %v is %d, %v", sums, sum, ok)
		}
		checkOrderChance(t, d, 3, 3, 0, greatest, true)
	}
	// 27*31*37*41*271*2906161 is 10^15 - 1, and 7*11*13*211*241*2161*9091 is 10^15 + 1.
	checkDatings(t, summing(27, 31*37, 41*271, 2906161), 2*2*2*4, greatest-1, true)
	for _, sums := range [][]int{
		{1001, 211, 241, 2161, 9091}, {9091, 2161, 241, 211, 1001}, {1001 * 241, 211 * 2161, 9091}, {7, 11, 13, 211, 241, 2161, 9091},
		{100000, 100000, 100001}, {100001, 100000, 100000}, {1000000, 1000000, 1001}, {25000000, 40000001}, {40000001, 25000000},
	} {
		checkNotDated(t, "sums too great", summing(sums...))
	}
	checkNotDated(t, "sums too great", loosely(heaviest(0), heaviest(5)))
}

// TestProductsThatAreNoInts: in 64 bits, they would be 0, 2^32, a negative number, or others in
// between.
func TestProductsThatAreNoInts(t *testing.T) {
	for _, sums := range [][]int{
		{65536, 65536, 65536, 65536}, {65536, 65536, 641, 6700417}, {6700417, 641, 65536, 65536}, {65536, 65536, 65536, 32768},
		{1048576, 1048576, 1048576, 1048576, 1048576}, {1000001, 1000001, 1000001, 1000001, 1000001, 1000001, 1000001, 1000001, 1000001, 1000001},
		{2000001, 2000001, 2000001, 2000001}, {65536, 65536, 65536, 65536, 1, 1, 1, 1, 1, 1}, {4, 65536, 16384, 65536, 65536},
	} {
		checkNotDated(t, "sums far too great", summing(sums...))
	}
}

func TestDatingsWithOtherYears(t *testing.T) {
	d := stairs()
	checkDatingWeight(t, d, []int{11, 10, 9}, 6, true)
	for _, years := range [][]int{nil, {}, {11}, {11, 10}, {10, 9}, {11, 10, 9, 9}, {11, 11, 10, 9}, {11, 10, 9, 0, 0, 0}, make([]int, 100000)} {
		checkDatingWeight(t, d, years, 0, false)
	}
	for _, year := range []int{math.MinInt, math.MinInt + 1, math.MinInt + 9, math.MinInt + 10, math.MaxInt, math.MaxInt - 9, impl.MinYear - 1, impl.MinYear, impl.MaxYear, impl.MaxYear + 1, -10, 8, 12} {
		for i := range 3 {
			years := []int{11, 10, 9}
			years[i] = year
			checkDatingWeight(t, d, years, 0, true)
			rest := slices.Repeat([]int{year}, 3)
			rest[i] = 11
			checkDatingWeight(t, d, rest, 0, true)
		}
		checkDatingWeight(t, d, []int{year, year, year}, 0, true)
	}
	checkDatingWeight(t, d, []int{math.MaxInt, 10, math.MinInt}, 0, true)
	checkDatingWeight(t, d, []int{math.MinInt, 10, math.MaxInt}, 0, true)
	// The ends of all years are years like others.
	ends := datedRecord(strata([]int{1, 2}, [2]int{1, 2}), weighted(impl.MaxYear-1, 1, 3), weighted(impl.MinYear, 5, 1))
	checkDatingWeight(t, ends, []int{impl.MaxYear, impl.MinYear}, 15, true)
	checkDatingWeight(t, ends, []int{impl.MaxYear + 1, impl.MinYear}, 0, true)
	checkDatingWeight(t, ends, []int{impl.MaxYear, impl.MinYear - 1}, 0, true)
	checkOrderChance(t, ends, 2, 1, 24, 24, true)
	checkOrderChance(t, ends, 1, 2, 0, 24, true)
}

// otherNumbers are not among the Numbers of a record.
func otherNumbers(r impl.Record) []int {
	numbers := noNumbers()
	for _, n := range numbersOf(r) {
		numbers = append(numbers, n-1, n+1, -n)
	}
	return slices.DeleteFunc(numbers, func(n int) bool { return slices.Contains(numbersOf(r), n) })
}

func TestContextsThatADatedRecordDoesNotHave(t *testing.T) {
	for _, d := range []impl.DatedRecord{{}, stairs(), inverted(), allEven(2, 2, 2, 2, 2, 2, 2, 2, 2, 2)} {
		for _, number := range otherNumbers(d.Record) {
			checkMarginal(t, d, number, impl.Distribution{})
			checkFixed(t, d, number, 10, false)
			checkAddedDating(t, d, number, even(0, 20), impl.Distribution{})
			checkOrderChance(t, d, number, number, 0, 0, false)
			for _, known := range numbersOf(d.Record) {
				checkOrderChance(t, d, number, known, 0, 0, false)
				checkOrderChance(t, d, known, number, 0, 0, false)
			}
		}
	}
}

func TestFixDate(t *testing.T) {
	d := stairs()
	for _, number := range []int{3, 5, 8} {
		for _, year := range []int{10, 11, 9, 12, 0, -500, impl.MinYear, impl.MinYear + 1, impl.MaxYear - 1, impl.MaxYear} {
			checkFixed(t, d, number, year, true)
		}
		for _, year := range []int{impl.MinYear - 1, impl.MaxYear + 1, -100000, 100000, math.MinInt, math.MaxInt} {
			checkFixed(t, d, number, year, false)
		}
	}
	fixed, _ := impl.FixDate(d, 5, 10)
	checkDatings(t, fixed, 2, 3, true)
	checkMarginal(t, fixed, 3, weighted(10, 1, 2))
	checkMarginal(t, fixed, 5, weighted(10, 1))
	checkMarginal(t, fixed, 8, weighted(9, 1))
	// A year that the distribution does not have.
	fixed, _ = impl.FixDate(d, 5, 9)
	checkDatings(t, fixed, 2, 3, true)
	checkDateBounds(t, fixed, []int{10, 9, 9}, []int{11, 9, 9}, true)
	fixed, _ = impl.FixDate(d, 8, 10)
	checkDatings(t, fixed, 3, 11, true)
	// A record without a possible dating is valid.
	fixed, _ = impl.FixDate(d, 8, 12)
	checkImpossible(t, fixed)
	fixed, _ = impl.FixDate(fixed, 8, 9)
	checkDatings(t, fixed, 3, 11, true)
	checkFixed(t, datedRecord(strata([]int{7}), heaviest(5)), 7, 5, true)
	checkFixed(t, datedRecord(strata([]int{7}), weighted(5, 1)), 7, 5, true)
}

// TestInvalidRecordsStayInvalid: fixing a date or adding a dating would make them valid.
func TestInvalidRecordsStayInvalid(t *testing.T) {
	flawed := stairs()
	flawed.Dates[1] = weighted(10, 2, 4)
	checkFixed(t, flawed, 5, 10, false)
	for _, d := range []impl.DatedRecord{flawed, allEven(55, 7, 13), summing(100000, 100001, 100000)} {
		for _, number := range []int{3, 5, 7, 8} {
			checkFixed(t, d, number, 1, false)
			checkAddedDating(t, d, number, weighted(1, 1), impl.Distribution{})
			checkAddedDating(t, d, number, weighted(10, 1), impl.Distribution{})
		}
	}
	fewer := allEven(5, 7, 13)
	fixed, _ := impl.FixDate(fewer, 3, 60)
	checkDatings(t, fixed, 91, 91, true)
}

func TestAddDating(t *testing.T) {
	const million = impl.MaxWeight
	d, none := stairs(), impl.Distribution{}
	checkAddedDating(t, d, 3, weighted(11, 1), weighted(11, 1))
	checkAddedDating(t, d, 3, weighted(10, 2, 1), even(10, 2))
	checkAddedDating(t, d, 3, weighted(10, 5, 4), weighted(10, 5, 8))
	checkAddedDating(t, d, 3, even(0, 60), d.Dates[0])
	checkAddedDating(t, d, 5, weighted(10, 1, 3), even(10, 2))
	checkAddedDating(t, d, 5, weighted(5, 1, 2, 3, 4, 5, 6), weighted(10, 1))
	checkAddedDating(t, d, 8, weighted(9, 1, 5, 2), weighted(9, 1, 0, 2))
	checkAddedDating(t, d, 8, weighted(10, 5, 2), weighted(11, 1))
	checkAddedDating(t, d, 8, even(impl.MinYear, 60), none)
	// No year in common, or none with a weight in both.
	for _, x := range []impl.Distribution{weighted(12, 1), weighted(8, 1), weighted(10, 1), weighted(8, 1, 0, 1), weighted(8, 1, 0, 3, 0, 1), even(-51, 60), even(impl.MaxYear, 1)} {
		checkAddedDating(t, d, 8, x, none)
	}
	for _, x := range flawedDistributions() {
		for _, number := range []int{3, 5, 8} {
			checkAddedDating(t, d, number, x, none)
		}
		checkAddedDating(t, datedRecord(strata([]int{7}), even(0, 10)), 7, x, none)
	}
	// The weights can be too great only together.
	checkAddedDating(t, d, 5, weighted(10, million, 3), weighted(10, million, 1))
	checkAddedDating(t, d, 5, weighted(10, million, 7), none)
	added, _ := impl.AddDating(d, 3, weighted(10, 1))
	checkDatings(t, added, 1, 3, true)
	added, _ = impl.AddDating(d, 5, weighted(11, 1))
	checkDatings(t, added, 2, 4, true)
	// A record without a possible dating is valid.
	added, _ = impl.AddDating(added, 3, weighted(10, 1))
	checkImpossible(t, added)
}

// TestAddedDatingsCanMakeSumsTooGreat: they make no record have more datings.
func TestAddedDatingsCanMakeSumsTooGreat(t *testing.T) {
	none := impl.Distribution{}
	full := summing(100000, 100000, 100000)
	for i, number := range []int{3, 5, 7} {
		checkAddedDating(t, full, number, even(i, 2), weighted(i, 1, 99999))
		checkAddedDating(t, full, number, weighted(i, 3, 1), weighted(i, 1, 33333))
		checkAddedDating(t, full, number, weighted(i, 2, 1), none)
		checkAddedDating(t, full, number, weighted(i, 1, 2), none)
		checkAddedDating(t, full, number, weighted(i, 1), weighted(i, 1))
	}
	fewer := summing(100000, 10, 100000)
	checkAddedDating(t, fewer, 5, weighted(1, 1, 11111), weighted(1, 1, 99999))
	checkAddedDating(t, fewer, 5, weighted(1, 2, 11111), none)
	checkAddedDating(t, fewer, 5, weighted(1, 1, 11112), none)
	checkAddedDating(t, fewer, 5, weighted(1, 1, 11110), weighted(1, 1, 99990))
	most := allEven(50, 50, 2)
	checkAddedDating(t, most, 3, weighted(0, slices.Repeat([]int{1, 2}, 30)...), weighted(0, slices.Repeat([]int{1, 2}, 25)...))
}

// plainDatings are lists of one year of each distribution, with their weights, also those with
// the weight 0.
type plainDatings struct {
	years   [][]int
	weights []int
}

func plainlyRespects(d impl.DatedRecord, years []int) bool {
	yearOf := map[int]int{}
	for i, c := range d.Record.Contexts {
		yearOf[c.Number] = years[i]
	}
	for _, x := range d.Record.Relations {
		if yearOf[x.Upper] < yearOf[x.Lower] {
			return false
		}
	}
	return true
}

// plainDatingsOf counts through all lists of years in lexicographic order.
func plainDatingsOf(d impl.DatedRecord) plainDatings {
	all := plainDatings{}
	count := 1
	for _, x := range d.Dates {
		count *= len(x.Weights)
	}
	for n := range count {
		years, weight := make([]int, len(d.Dates)), 1
		for i := len(d.Dates) - 1; i >= 0; i-- {
			x := d.Dates[i]
			years[i] = x.First + n%len(x.Weights)
			weight *= x.Weights[n%len(x.Weights)]
			n /= len(x.Weights)
		}
		if !plainlyRespects(d, years) {
			weight = 0
		}
		all.years = append(all.years, years)
		all.weights = append(all.weights, weight)
	}
	return all
}

// sumOf returns the sum of the weights of the datings that a condition chooses.
func (all plainDatings) sumOf(chosen func(years []int) bool) int {
	sum := 0
	for n, years := range all.years {
		if chosen(years) {
			sum += all.weights[n]
		}
	}
	return sum
}

func (all plainDatings) sum() int {
	return all.sumOf(func([]int) bool { return true })
}

func (all plainDatings) count() int {
	count := 0
	for _, weight := range all.weights {
		count += min(weight, 1)
	}
	return count
}

func (all plainDatings) marginal(i int, x impl.Distribution) impl.Distribution {
	weights := make([]int, len(x.Weights))
	for k := range weights {
		weights[k] = all.sumOf(func(years []int) bool { return years[i] == x.First+k })
	}
	return plainlyReduced(x.First, weights)
}

// bounds returns empty lists if no dating has a positive weight.
func (all plainDatings) bounds(contexts int) ([]int, []int) {
	smallest, greatest := []int{}, []int{}
	for i := range contexts {
		years := []int{}
		for n, weight := range all.weights {
			if weight > 0 {
				years = append(years, all.years[n][i])
			}
		}
		if len(years) > 0 {
			smallest, greatest = append(smallest, slices.Min(years)), append(greatest, slices.Max(years))
		}
	}
	return smallest, greatest
}

// likeliest has the weight 0 if no dating has a positive weight.
func (all plainDatings) likeliest() ([]int, int) {
	greatest := slices.Max(all.weights)
	if greatest == 0 {
		return nil, 0
	}
	return all.years[slices.Index(all.weights, greatest)], greatest
}

// checkAllDatings holds every function that reads a dated record against the list of all its
// datings, and returns their number.
func checkAllDatings(t *testing.T, d impl.DatedRecord) int {
	t.Helper()
	if !impl.IsValidDated(d) {
		t.Fatalf("%v is not valid", d)
	}
	all := plainDatingsOf(d)
	for n, years := range all.years {
		checkDatingWeight(t, d, years, all.weights[n], true)
	}
	checkDatings(t, d, all.count(), all.sum(), true)
	for i, a := range numbersOf(d.Record) {
		checkMarginal(t, d, a, all.marginal(i, d.Dates[i]))
		for k, b := range numbersOf(d.Record) {
			earlier := all.sumOf(func(years []int) bool { return years[i] < years[k] })
			checkOrderChance(t, d, a, b, earlier, all.sum(), true)
		}
	}
	smallest, greatest := all.bounds(len(d.Dates))
	checkDateBounds(t, d, smallest, greatest, all.count() > 0)
	best, weight := all.likeliest()
	checkLikeliest(t, d, best, weight)
	return all.count()
}

// datingCounts tells how many dated records have no dating, one, or more.
type datingCounts [3]int

func (c *datingCounts) add(count int) {
	c[min(count, 2)]++
}

func (c *datingCounts) check(t *testing.T, none, one, more int) {
	t.Helper()
	if c[0] < none || c[1] < one || c[2] < more {
		t.Errorf("%d records have no dating, %d have one, and %d have more", c[0], c[1], c[2])
	}
}

func TestEveryRecordOfTwoDatedContexts(t *testing.T) {
	counts := datingCounts{}
	for _, a := range smallDistributions(0, 3, 2) {
		for _, b := range smallDistributions(0, 3, 2) {
			for first := -3; first <= 3; first++ {
				b.First = first
				for bits := range 4 {
					counts.add(checkAllDatings(t, datedRecord(recordOfBits([]int{9, 10}, bits), a, b)))
				}
			}
		}
	}
	counts.check(t, 1000, 900, 3000)
}

// chosenDates gives every context of a record a distribution of up to three years near 0, or
// more if the weights are to be as many as they can be.
func chosenDates(source *rand.Rand, r impl.Record, high int, many bool) impl.DatedRecord {
	d := impl.DatedRecord{Record: r, Dates: make([]impl.Distribution, len(r.Contexts))}
	left := impl.MaxDatings
	for place, i := range source.Perm(len(r.Contexts)) {
		count := min(3, left)
		if many && place < 2 {
			count = min(60, left)
		}
		x := chosenDistribution(source, count, high)
		x.First = source.Intn(5) - min(len(x.Weights)/2, 10)
		d.Dates[i] = x
		left /= len(x.Weights)
	}
	return d
}

func TestEveryRecordOfThreeDatedContexts(t *testing.T) {
	source := rand.New(rand.NewSource(12))
	counts := datingCounts{}
	for bits := range 64 {
		for range 40 {
			d := chosenDates(source, recordOfBits([]int{7, 8, 30}, bits), 4, false)
			counts.add(checkAllDatings(t, d))
		}
	}
	counts.check(t, 500, 150, 600)
}

func TestEveryRecordOfFourDatedContexts(t *testing.T) {
	source := rand.New(rand.NewSource(121))
	counts := datingCounts{}
	for _, r := range recordsOfFewContexts() {
		counts.add(checkAllDatings(t, chosenDates(source, r, 3, false)))
	}
	counts.check(t, 3000, 250, 300)
}

// datedRecords returns dated records of up to 10 contexts, most of them with many datings.
func datedRecords(source *rand.Rand) []impl.DatedRecord {
	all := []impl.DatedRecord{{}, stairs(), inverted()}
	for _, count := range []int{0, 1, 2, 3, 5, 8, 12, impl.MaxRelations} {
		all = append(all, chosenDates(source, chosenRecord(source, count, true), 2, false))
		all = append(all, chosenDates(source, chosenRecord(source, count, true), 3, true))
		all = append(all, chosenDates(source, chosenRecord(source, min(count, 4), false), 3, true))
	}
	for _, r := range []impl.Record{pit(), trench(), diamond(), loose(), fullKnot(), fullSite(), slope()} {
		all = append(all, chosenDates(source, r, 3, false), chosenDates(source, r, 2, true))
	}
	return all
}

func TestManyDatedRecords(t *testing.T) {
	source := rand.New(rand.NewSource(122))
	counts := datingCounts{}
	for range 2 {
		for _, d := range datedRecords(source) {
			counts.add(checkAllDatings(t, d))
		}
	}
	counts.check(t, 5, 1, 30)
}

// checkPromisedSums checks the first part of promise 12 in the results alone: the weights of a
// marginal date are, but for a common factor, the sums over all datings with a year, which are
// also those of the record in which this year is fixed, times the weight of the year.
func checkPromisedSums(t *testing.T, d impl.DatedRecord, number int) bool {
	t.Helper()
	i := slices.Index(numbersOf(d.Record), number)
	marginal, ok := impl.MarginalDate(d, number)
	_, all, _ := impl.CountDatings(d)
	if !ok {
		return false
	}
	for k, weight := range d.Dates[i].Weights {
		year := d.Dates[i].First + k
		fixed, _ := impl.FixDate(d, number, year)
		_, sum, _ := impl.CountDatings(fixed)
		part, whole, _ := impl.WeightAt(marginal, year)
		if part*all != weight*sum*whole {
			t.Errorf("the weight of %d in %v of %v is not %d*%d of %d", year, marginal, d, weight, sum, all)
		}
	}
	return true
}

// checkPromisedBounds checks the second part of promise 12 in the results alone.
func checkPromisedBounds(t *testing.T, d impl.DatedRecord) bool {
	t.Helper()
	smallest, greatest, ok := impl.DateBounds(d)
	best, weight, found := impl.LikeliestDating(d)
	if ok != found || !ok {
		return false
	}
	checkDatingWeight(t, d, best, weight, true)
	for i, number := range numbersOf(d.Record) {
		if best[i] < smallest[i] || best[i] > greatest[i] {
			t.Errorf("the likeliest dating of %v is %v, not within %v and %v", d, best, smallest, greatest)
		}
		marginal, valid := impl.MarginalDate(d, number)
		if valid && (marginal.First != smallest[i] || marginal.First+len(marginal.Weights)-1 != greatest[i]) {
			t.Errorf("the marginal date of %d in %v is %v, not from %d to %d", number, d, marginal, smallest[i], greatest[i])
		}
	}
	return true
}

// checkPromisedOrder: the strata are respected, so that no upper context is earlier.
func checkPromisedOrder(t *testing.T, d impl.DatedRecord) {
	t.Helper()
	for _, x := range d.Record.Relations {
		_, all, _ := impl.CountDatings(d)
		checkOrderChance(t, d, x.Upper, x.Lower, 0, all, true)
	}
}

func TestMarginalDatesAreExactSums(t *testing.T) {
	source := rand.New(rand.NewSource(123))
	sums, bounds := 0, 0
	for range 5 {
		for _, d := range datedRecords(source) {
			for _, number := range numbersOf(d.Record) {
				if checkPromisedSums(t, d, number) {
					sums++
				}
			}
			if checkPromisedBounds(t, d) {
				bounds++
			}
			checkPromisedOrder(t, d)
		}
	}
	if sums < 500 || bounds < 70 {
		t.Errorf("only %d marginal dates and %d likeliest datings were checked", sums, bounds)
	}
}

// TestAddedDatingsAreCombined: the datings of a record with a further distribution have the
// products of their weights and those of the year in it, but for a common factor.
func TestAddedDatingsAreCombined(t *testing.T) {
	source := rand.New(rand.NewSource(124))
	tested := 0
	for range 500 {
		d := chosenDates(source, recordOfBits([]int{7, 8, 30}, source.Intn(64)), 4, false)
		x := chosenDistribution(source, 5, 4)
		x.First = source.Intn(5) - 2
		i := source.Intn(3)
		number := numbersOf(d.Record)[i]
		combined, _ := impl.CombineDistributions(d.Dates[i], x)
		checkAddedDating(t, d, number, x, combined)
		added, ok := impl.AddDating(d, number, x)
		if !ok {
			continue
		}
		first := added.Dates[i].First
		before, _, _ := impl.WeightAt(d.Dates[i], first)
		further, _, _ := impl.WeightAt(x, first)
		all := plainDatingsOf(d)
		for n, years := range all.years {
			weight, _, _ := impl.WeightAt(x, years[i])
			got, _ := impl.DatingWeight(added, years)
			if got*before*further != all.weights[n]*weight*added.Dates[i].Weights[0] {
				t.Errorf("DatingWeight(%v, %v) = %d; before it was %d", added, years, got, all.weights[n])
			}
			tested += min(got, 1)
		}
	}
	if tested < 200 {
		t.Errorf("only %d datings have a weight", tested)
	}
}

// chronologyLists calls every function of the chapter that returns lists of numbers, most of
// them twice.
func chronologyLists(d impl.DatedRecord, x impl.Distribution) [][]int {
	lists := [][]int{}
	add := func(d impl.DatedRecord) {
		for _, date := range d.Dates {
			lists = append(lists, date.Weights)
		}
	}
	for range 2 {
		smallest, greatest, _ := impl.DateBounds(d)
		best, _, _ := impl.LikeliestDating(d)
		lists = append(lists, smallest, greatest, best)
		for _, number := range numbersOf(d.Record) {
			marginal, _ := impl.MarginalDate(d, number)
			lists = append(lists, marginal.Weights)
			fixed, _ := impl.FixDate(d, number, 1)
			add(fixed)
			added, _ := impl.AddDating(d, number, x)
			add(added)
		}
	}
	return lists
}

// changedRecords calls every function of the chapter that returns a record.
func changedRecords(d impl.DatedRecord, x impl.Distribution) []impl.Record {
	records := []impl.Record{}
	for _, number := range numbersOf(d.Record) {
		fixed, _ := impl.FixDate(d, number, 1)
		again, _ := impl.FixDate(d, number, 1)
		added, _ := impl.AddDating(d, number, x)
		records = append(records, fixed.Record, again.Record, added.Record)
	}
	return records
}

func contextsAndRelations(records []impl.Record) ([][]impl.Context, [][]impl.Relation) {
	contexts, relations := [][]impl.Context{}, [][]impl.Relation{}
	for _, r := range records {
		contexts, relations = append(contexts, r.Contexts), append(relations, r.Relations)
	}
	return contexts, relations
}

// longDated returns a copy of a dated record whose slices all have more elements beyond their
// lengths, and before it the one with these elements.
func longDated(plain impl.DatedRecord) (impl.DatedRecord, impl.DatedRecord) {
	whole, part := impl.DatedRecord{}, impl.DatedRecord{}
	whole.Record, part.Record = lengthened(plain.Record)
	for _, x := range plain.Dates {
		weights := append(slices.Clone(x.Weights), 4, -1, 0, impl.MaxWeight+1)
		whole.Dates = append(whole.Dates, weighted(x.First, weights...))
	}
	whole.Dates = append(whole.Dates, weighted(7, 0, -1), weighted(3, 1, 1))
	shortened := append(slices.Clone(whole.Dates), weighted(7, 0, -1), weighted(3, 1, 1))
	part.Dates = shortened[:len(plain.Dates)]
	for i, x := range plain.Dates {
		part.Dates[i].Weights = whole.Dates[i].Weights[:len(x.Weights)]
	}
	return whole, part
}

func checkMemoryOfChronology(t *testing.T, plain impl.DatedRecord, plainX impl.Distribution) {
	t.Helper()
	whole, d := longDated(plain)
	before := copyOfDated(whole)
	weights := append(slices.Clone(plainX.Weights), 5, 0, -1)
	weightsBefore := slices.Clone(weights)
	x := weighted(plainX.First, weights[:len(plainX.Weights)]...)
	name := "results for dated records"
	want := chronologyLists(plain, plainX)
	checkSeparate(t, name, chronologyLists(d, x), want)
	checkSeparate(t, name, backward(chronologyLists(d, x)), backward(want))
	contexts, relations := contextsAndRelations(changedRecords(plain, plainX))
	gotContexts, gotRelations := contextsAndRelations(changedRecords(d, x))
	checkSeparate(t, name, gotContexts, contexts)
	checkSeparate(t, name, gotRelations, relations)
	gotContexts, gotRelations = contextsAndRelations(changedRecords(d, x))
	checkSeparate(t, name, backward(gotContexts), backward(contexts))
	checkSeparate(t, name, backward(gotRelations), backward(relations))
	checkAllDatings(t, d)
	if !sameDated(whole, before) || !slices.Equal(weights, weightsBefore) {
		t.Errorf("the arguments became %v, %v; they were %v, %v", whole, weights, before, weightsBefore)
	}
}

// TestMemoryOfChronology includes added distributions that change nothing, or fail, and records
// with a single dating.
func TestMemoryOfChronology(t *testing.T) {
	checkMemoryOfChronology(t, datedRecord(strata([]int{1, 2}, [2]int{1, 2}), weighted(6, 1), weighted(5, 1)), even(4, 3))
	checkMemoryOfChronology(t, datedRecord(strata([]int{7}), weighted(6, 1)), even(4, 3))
	checkMemoryOfChronology(t, stairs(), even(9, 3))
	checkMemoryOfChronology(t, stairs(), weighted(20, 1, 2))
	checkMemoryOfChronology(t, stairs(), weighted(10, 2, 4))
	checkMemoryOfChronology(t, impl.DatedRecord{}, even(9, 3))
	source := rand.New(rand.NewSource(125))
	for i, d := range datedRecords(source) {
		x := even(-10, 30)
		if i%3 == 0 {
			x = chosenDistribution(source, 5, 4)
		}
		checkMemoryOfChronology(t, d, x)
	}
}

// TestResultsOfFixingShareNoMemory overwrites the distributions themselves, not the weights.
func TestResultsOfFixingShareNoMemory(t *testing.T) {
	d, x := stairs(), even(0, 20)
	fixed, _ := impl.FixDate(d, 5, 10)
	again, _ := impl.FixDate(d, 5, 10)
	added, _ := impl.AddDating(d, 5, x)
	for _, result := range []impl.DatedRecord{fixed, added} {
		clear(result.Dates[:cap(result.Dates)])
	}
	checkDated(t, "FixDate again", again, true, datedRecord(d.Record, d.Dates[0], weighted(10, 1), d.Dates[2]), true)
	if !sameDated(d, stairs()) || !sameDistribution(x, even(0, 20)) {
		t.Errorf("the arguments became %v and %v", d, x)
	}
}

// TestDatingsStayTheSame: the list of years is an argument as well.
func TestDatingsStayTheSame(t *testing.T) {
	for _, plain := range [][]int{{11, 10, 9}, {10, 11, 9}, {0, 0, 0}, {11, 10}, {11, 10, 9, 9}, {}} {
		whole := append(slices.Clone(plain), 9, 10, -1)
		before := slices.Clone(whole)
		want, wantOk := impl.DatingWeight(stairs(), plain)
		checkDatingWeight(t, stairs(), whole[:len(plain)], want, wantOk)
		if !slices.Equal(whole, before) {
			t.Errorf("the years became %v; they were %v", whole, before)
		}
	}
}
