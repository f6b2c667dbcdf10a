package tests

import (
	"maps"
	"math"
	"math/big"
	"math/rand"
	"slices"
	"testing"

	"loop.example/g00876/impl"
)

func event(phase, outlier int, date impl.Distribution) impl.DatedEvent {
	return impl.DatedEvent{Phase: phase, Date: date, Outlier: outlier}
}

func model(first, years, phases int, events ...impl.DatedEvent) impl.PhaseModel {
	return impl.PhaseModel{First: first, Years: years, Phases: phases, Events: events}
}

// hut has an event in each of two phases.
func hut() impl.PhaseModel {
	return model(100, 3, 2, event(0, 0, weighted(100, 1, 2, 1)), event(1, 10, weighted(101, 1, 3)))
}

// barn has dates that lie partly outside of the range or have a weight of 0 between others.
func barn() impl.PhaseModel {
	return model(100, 3, 2, event(1, 20, weighted(100, 1, 0, 2)), event(0, 50, weighted(98, 4, 3, 2, 1)), event(1, 0, weighted(102, 1, 1)))
}

func copyOfModel(m impl.PhaseModel) impl.PhaseModel {
	result := model(m.First, m.Years, m.Phases, slices.Clone(m.Events)...)
	for i, e := range m.Events {
		result.Events[i].Date.Weights = slices.Clone(e.Date.Weights)
	}
	return result
}

func sameEvent(a, b impl.DatedEvent) bool {
	return a.Phase == b.Phase && a.Outlier == b.Outlier && sameDistribution(a.Date, b.Date)
}

func sameModel(a, b impl.PhaseModel) bool {
	return a.First == b.First && a.Years == b.Years && a.Phases == b.Phases && slices.EqualFunc(a.Events, b.Events, sameEvent)
}

func checkModelWeight(t *testing.T, m impl.PhaseModel, sum, count int, wantOk bool) {
	t.Helper()
	if got, lists, ok := impl.ModelWeight(m); got != sum || lists != count || ok != wantOk {
		t.Errorf("ModelWeight(%v) = %d, %d, %v; want %d, %d, %v", m, got, lists, ok, sum, count, wantOk)
	}
}

func checkBoundary(t *testing.T, m impl.PhaseModel, k int, want impl.Distribution) {
	t.Helper()
	got, ok := impl.BoundaryDate(m, k)
	checkDistribution(t, got, ok, want, "BoundaryDate", m, k)
}

func checkEventDate(t *testing.T, m impl.PhaseModel, i int, want impl.Distribution) {
	t.Helper()
	got, ok := impl.EventDate(m, i)
	checkDistribution(t, got, ok, want, "EventDate", m, i)
}

func checkPhaseSpan(t *testing.T, m impl.PhaseModel, p int, want impl.Distribution) {
	t.Helper()
	got, ok := impl.PhaseSpan(m, p)
	checkDistribution(t, got, ok, want, "PhaseSpan", m, p)
}

func checkOutlier(t *testing.T, m impl.PhaseModel, i, want int, wantOk bool) {
	t.Helper()
	if got, ok := impl.OutlierChance(m, i); got != want || ok != wantOk {
		t.Errorf("OutlierChance(%v, %d) = %d, %v; want %d, %v", m, i, got, ok, want, wantOk)
	}
}

func checkLatestOf(t *testing.T, list []impl.Distribution, want impl.Distribution) {
	t.Helper()
	got, ok := impl.LatestOf(list)
	checkDistribution(t, got, ok, want, "LatestOf", list)
}

func checkTerminus(t *testing.T, list []impl.Distribution, num, den, want int, wantOk bool) {
	t.Helper()
	if got, ok := impl.TerminusPostQuem(list, num, den); got != want || ok != wantOk {
		t.Errorf("TerminusPostQuem(%v, %d, %d) = %d, %v; want %d, %v", list, num, den, got, ok, want, wantOk)
	}
}

func checkResidual(t *testing.T, find, deposit impl.Distribution, older, all int, wantOk bool) {
	t.Helper()
	if got, sum, ok := impl.ResidualChance(find, deposit); got != older || sum != all || ok != wantOk {
		t.Errorf("ResidualChance(%v, %v) = %d, %d, %v; want %d, %d, %v", find, deposit, got, sum, ok, older, all, wantOk)
	}
}

// modelResults has what the functions of a model return. If the sum is 0, nothing but the count
// is read, since the other functions fail.
type modelResults struct {
	sum, count                int
	boundaries, spans, events []impl.Distribution
	chances                   []int
}

// checkModel wants that m is valid, and that there is nothing beside its boundaries, phases and
// events.
func checkModel(t *testing.T, m impl.PhaseModel, want modelResults) {
	t.Helper()
	none := impl.Distribution{}
	if !impl.IsValidModel(m) {
		t.Errorf("%v is not valid", m)
	}
	checkModelWeight(t, m, want.sum, want.count, true)
	if want.sum == 0 {
		want.boundaries, want.spans = make([]impl.Distribution, m.Phases+1), make([]impl.Distribution, m.Phases)
		want.events, want.chances = make([]impl.Distribution, len(m.Events)), make([]int, len(m.Events))
	}
	for k, x := range want.boundaries {
		checkBoundary(t, m, k, x)
	}
	for p, x := range want.spans {
		checkPhaseSpan(t, m, p, x)
	}
	for i, x := range want.events {
		checkEventDate(t, m, i, x)
		checkOutlier(t, m, i, want.chances[i], want.sum > 0)
	}
	for _, beside := range []int{math.MinInt, -100, -2, -1, 0, 1, 2, 3, 4, 5, 100, math.MaxInt} {
		if beside < 0 || beside > m.Phases {
			checkBoundary(t, m, beside, none)
		}
		if beside < 0 || beside >= m.Phases {
			checkPhaseSpan(t, m, beside, none)
		}
		if beside < 0 || beside >= len(m.Events) {
			checkEventDate(t, m, beside, none)
			checkOutlier(t, m, beside, 0, false)
		}
	}
}

// checkNoModel wants that every function refuses m.
func checkNoModel(t *testing.T, name string, m impl.PhaseModel) {
	t.Helper()
	before := copyOfModel(m)
	if impl.IsValidModel(m) {
		t.Errorf("%s: %v is valid", name, m)
	}
	checkModelWeight(t, m, 0, 0, false)
	for i := -1; i <= 5; i++ {
		checkBoundary(t, m, i, impl.Distribution{})
		checkPhaseSpan(t, m, i, impl.Distribution{})
		checkEventDate(t, m, i, impl.Distribution{})
		checkOutlier(t, m, i, 0, false)
	}
	if !sameModel(m, before) {
		t.Errorf("%s: %v became %v", name, before, m)
	}
}

func TestHut(t *testing.T) {
	checkModel(t, hut(), modelResults{
		sum: 4722000, count: 10,
		boundaries: []impl.Distribution{weighted(100, 940, 549, 85), weighted(100, 159, 735, 680), weighted(100, 2, 95, 690)},
		spans:      []impl.Distribution{weighted(0, 269, 348, 170), weighted(0, 839, 615, 120)},
		events:     []impl.Distribution{weighted(100, 391, 928, 255), weighted(100, 6, 186, 595)},
		chances:    []int{0, 73},
	})
}

func TestBarn(t *testing.T) {
	checkModel(t, barn(), modelResults{
		sum: 1177200000, count: 10,
		boundaries: []impl.Distribution{weighted(100, 999873, 382471, 102143), weighted(100, 369863, 647260, 998630), weighted(102, 1)},
		spans:      []impl.Distribution{weighted(0, 924107, 998437, 705133), weighted(0, 998630, 647260, 369863)},
		events:     []impl.Distribution{weighted(100, 17094, 12393, 250000), weighted(100, 999183, 907346, 495918), weighted(102, 1)},
		chances:    []int{155, 756, 0},
	})
}

// TestSinglePhase: a phase that begins and ends in 10 has the weight 200, one that ends in 11
// has 600, and one that begins in 11 has 400; with outliers, these are 225, 600 and 375.
func TestSinglePhase(t *testing.T) {
	checkModel(t, model(10, 2, 1, event(0, 0, weighted(10, 1, 2))), modelResults{
		sum: 1200, count: 3,
		boundaries: []impl.Distribution{weighted(10, 2, 1), weighted(10, 1, 5)},
		spans:      []impl.Distribution{weighted(0, 1, 1)},
		events:     []impl.Distribution{weighted(10, 1, 2)},
		chances:    []int{0},
	})
	checkModel(t, model(10, 2, 1, event(0, 25, weighted(10, 1, 2))), modelResults{
		sum: 1200, count: 3,
		boundaries: []impl.Distribution{weighted(10, 11, 5), weighted(10, 3, 13)},
		spans:      []impl.Distribution{weighted(0, 1, 1)},
		events:     []impl.Distribution{weighted(10, 3, 5)},
		chances:    []int{250},
	})
}

func triangle(n int) int {
	return n * (n + 1) / 2
}

// TestModelsWithoutEvents: all lists of boundaries are equally likely.
func TestModelsWithoutEvents(t *testing.T) {
	for years := 1; years <= impl.MaxRange; years++ {
		firsts, seconds, lasts, lengths := []int{}, []int{}, []int{}, []int{}
		starts, ends := []int{}, []int{}
		for i := range years {
			starts, ends = append(starts, years-i), append(ends, i+1)
			firsts, lasts = append(firsts, triangle(years-i)), append(lasts, triangle(i+1))
			seconds, lengths = append(seconds, (i+1)*(years-i)), append(lengths, triangle(years-i))
		}
		for _, first := range []int{-7, impl.MinYear, impl.MaxYear - years + 1} {
			count := triangle(years)
			checkModel(t, model(first, years, 1), modelResults{
				sum: count, count: count,
				boundaries: []impl.Distribution{plainlyReduced(first, starts), plainlyReduced(first, ends)},
				spans:      []impl.Distribution{plainlyReduced(0, starts)},
			})
			count = years * (years + 1) * (years + 2) / 6
			checkModel(t, model(first, years, 2), modelResults{
				sum: count, count: count,
				boundaries: []impl.Distribution{plainlyReduced(first, firsts), plainlyReduced(first, seconds), plainlyReduced(first, lasts)},
				spans:      []impl.Distribution{plainlyReduced(0, lengths), plainlyReduced(0, lengths)},
			})
		}
	}
	checkModelWeight(t, model(0, 20, 2, []impl.DatedEvent{}...), 1540, 1540, true)
}

// TestPhasesWithoutEvents: one phase of two has events, the other one has none.
func TestPhasesWithoutEvents(t *testing.T) {
	// The first boundary is 10 and the second one 10 or 11, or both are 11.
	checkModel(t, model(10, 2, 2, event(0, 0, weighted(10, 1, 2))), modelResults{
		sum: 1400, count: 4,
		boundaries: []impl.Distribution{weighted(10, 5, 2), weighted(10, 2, 5), weighted(10, 1, 6)},
		spans:      []impl.Distribution{weighted(0, 4, 3), weighted(0, 6, 1)},
		events:     []impl.Distribution{weighted(10, 3, 4)},
		chances:    []int{0},
	})
	checkModel(t, model(10, 2, 2, event(1, 0, weighted(10, 1, 2))), modelResults{
		sum: 1600, count: 4,
		boundaries: []impl.Distribution{weighted(10, 3, 1), weighted(10, 1, 1), weighted(10, 1, 7)},
		spans:      []impl.Distribution{weighted(0, 3, 1), weighted(0, 5, 3)},
		events:     []impl.Distribution{weighted(10, 1, 3)},
		chances:    []int{0},
	})
	// Several events lie in the same phase.
	checkModel(t, model(10, 2, 2, event(1, 0, weighted(10, 1)), event(1, 0, weighted(10, 1))), modelResults{
		sum: 80000, count: 4,
		boundaries: []impl.Distribution{weighted(10, 1), weighted(10, 1), weighted(10, 1, 1)},
		spans:      []impl.Distribution{weighted(0, 1), weighted(0, 1, 1)},
		events:     []impl.Distribution{weighted(10, 1), weighted(10, 1)},
		chances:    []int{0, 0},
	})
}

// TestEventsInTheOrderOfPhases: the boundary between two phases lies between their events.
func TestEventsInTheOrderOfPhases(t *testing.T) {
	checkModel(t, model(10, 2, 2, event(0, 0, weighted(10, 1)), event(1, 0, weighted(11, 1))), modelResults{
		sum: 80000, count: 4,
		boundaries: []impl.Distribution{weighted(10, 1), weighted(10, 1, 1), weighted(11, 1)},
		spans:      []impl.Distribution{weighted(0, 1, 1), weighted(0, 1, 1)},
		events:     []impl.Distribution{weighted(10, 1), weighted(11, 1)},
		chances:    []int{0, 0},
	})
	// In the same year, both lie in it together with the boundary.
	checkModel(t, model(10, 3, 2, event(1, 0, weighted(11, 1)), event(0, 0, weighted(11, 1))), modelResults{
		sum: 360000, count: 10,
		boundaries: []impl.Distribution{weighted(10, 1, 1), weighted(11, 1), weighted(11, 1, 1)},
		spans:      []impl.Distribution{weighted(0, 1, 1), weighted(0, 1, 1)},
		events:     []impl.Distribution{weighted(11, 1), weighted(11, 1)},
		chances:    []int{0, 0},
	})
	// In the wrong order, no list of boundaries has a weight, though both dates lie in the range.
	checkModel(t, model(10, 2, 2, event(1, 0, weighted(10, 1)), event(0, 0, weighted(11, 1))), modelResults{count: 4})
	checkModel(t, model(10, 5, 2, event(0, 0, weighted(13, 1, 1)), event(1, 0, weighted(10, 1, 1, 1))), modelResults{count: 35})
}

// TestDatesOutsideOfTheRange: only the outlier part is left of them, or nothing at all.
func TestDatesOutsideOfTheRange(t *testing.T) {
	for _, date := range []impl.Distribution{
		weighted(8, 1, 2), weighted(9, 1), weighted(12, 1), weighted(12, 1, 2), weighted(1000, 2, 1), weighted(impl.MinYear, 1, 2), weighted(impl.MaxYear-1, 1, 2),
		weighted(9, 1, 0, 0, 2), weighted(8, 1, 0, 0, 0, 2),
	} {
		checkModel(t, model(10, 2, 1, event(0, 0, date)), modelResults{count: 3})
		checkModel(t, model(10, 2, 2, event(1, 0, date)), modelResults{count: 4})
		checkModel(t, model(10, 2, 2, event(0, 50, weighted(10, 1)), event(1, 0, date)), modelResults{count: 4})
		for _, outlier := range []int{1, 20, 99, 100} {
			checkModel(t, model(10, 2, 1, event(0, outlier, date)), modelResults{
				sum: 4 * outlier * plainSum(date), count: 3,
				boundaries: []impl.Distribution{weighted(10, 3, 1), weighted(10, 1, 3)},
				spans:      []impl.Distribution{weighted(0, 1, 1)},
				events:     []impl.Distribution{weighted(10, 1, 1)},
				chances:    []int{1000},
			})
		}
	}
}

func TestDatesPartlyOutsideOfTheRange(t *testing.T) {
	checkModel(t, model(10, 2, 1, event(0, 0, weighted(11, 1, 2))), modelResults{
		sum: 400, count: 3,
		boundaries: []impl.Distribution{weighted(10, 1, 1), weighted(11, 1)},
		spans:      []impl.Distribution{weighted(0, 1, 1)},
		events:     []impl.Distribution{weighted(11, 1)},
		chances:    []int{0},
	})
	checkModel(t, model(10, 2, 1, event(0, 20, weighted(9, 1, 2))), modelResults{
		sum: 880, count: 3,
		boundaries: []impl.Distribution{weighted(10, 41, 3), weighted(10, 19, 25)},
		spans:      []impl.Distribution{weighted(0, 1, 1)},
		events:     []impl.Distribution{weighted(10, 19, 3)},
		chances:    []int{272},
	})
	checkModel(t, model(10, 3, 2, event(1, 0, weighted(9, 1, 2))), modelResults{
		sum: 1800, count: 10,
		boundaries: []impl.Distribution{weighted(10, 1), weighted(10, 1), weighted(10, 1, 1, 1)},
		spans:      []impl.Distribution{weighted(0, 1), weighted(0, 1, 1, 1)},
		events:     []impl.Distribution{weighted(10, 1)},
		chances:    []int{0},
	})
	checkModel(t, model(10, 3, 2, event(0, 0, weighted(9, 1, 2)), event(1, 50, weighted(12, 3, 1))), modelResults{
		sum: 2010000, count: 10,
		boundaries: []impl.Distribution{weighted(10, 1), weighted(10, 33, 21, 13), weighted(10, 4, 12, 51)},
		spans:      []impl.Distribution{weighted(0, 33, 21, 13), weighted(0, 21, 25, 21)},
		events:     []impl.Distribution{weighted(10, 1), weighted(10, 12, 16, 39)},
		chances:    []int{0, 597},
	})
}

// TestSingleYears: all boundaries are equal, and so a phase has a single year.
func TestSingleYears(t *testing.T) {
	for _, first := range []int{10, impl.MinYear, impl.MaxYear} {
		one := weighted(first, 1)
		checkModel(t, model(first, 1, 1), modelResults{
			sum: 1, count: 1,
			boundaries: []impl.Distribution{one, one},
			spans:      []impl.Distribution{weighted(0, 1)},
		})
		for outlier, chance := range map[int]int{0: 0, 1: 10, 37: 370, 100: 1000} {
			checkModel(t, model(first, 1, 2, event(0, outlier, one), event(1, 50, one)), modelResults{
				sum: 10000, count: 1,
				boundaries: []impl.Distribution{one, one, one},
				spans:      []impl.Distribution{weighted(0, 1), weighted(0, 1)},
				events:     []impl.Distribution{one, one},
				chances:    []int{chance, 500},
			})
		}
	}
	checkModel(t, model(10, 1, 2, event(0, 10, weighted(9, 1, 2)), event(1, 50, weighted(10, 3, 1))), modelResults{
		sum: 73500, count: 1,
		boundaries: []impl.Distribution{weighted(10, 1), weighted(10, 1), weighted(10, 1)},
		spans:      []impl.Distribution{weighted(0, 1), weighted(0, 1)},
		events:     []impl.Distribution{weighted(10, 1), weighted(10, 1)},
		chances:    []int{142, 571},
	})
	// Without outliers, events in a single year let all boundaries between them be that year.
	checkModel(t, model(10, 3, 1, event(0, 0, weighted(10, 1)), event(0, 0, weighted(9, 1, 3))), modelResults{
		sum: 300 * 900 * 3, count: 6,
		boundaries: []impl.Distribution{weighted(10, 1), weighted(10, 1, 1, 1)},
		spans:      []impl.Distribution{weighted(0, 1, 1, 1)},
		events:     []impl.Distribution{weighted(10, 1), weighted(10, 1)},
		chances:    []int{0, 0},
	})
}

// TestScalingByTheGreatestWeight: 10^6 and what is not above it stays as it is, 10^6 + 1 is
// divided by 2, as 2*10^6 is, and 2*10^6 + 1 by 3.
func TestScalingByTheGreatestWeight(t *testing.T) {
	checkModel(t, model(10, 2, 2, event(0, 1, weighted(9, 249899, 0, 2))), modelResults{
		sum: 1250297, count: 4,
		boundaries: []impl.Distribution{weighted(10, 1000000, 250297), weighted(10, 499802, 750495), weighted(10, 62475, 250099)},
		spans:      []impl.Distribution{weighted(0, 750099, 500198), weighted(0, 250099, 62475)},
		events:     []impl.Distribution{weighted(10, 749703, 500594)},
		chances:    []int{999},
	})
	checkModel(t, model(10, 2, 1, event(0, 3, weighted(9, 111022, 1, 2))), modelResults{
		sum: 1333464, count: 3,
		boundaries: []impl.Distribution{weighted(10, 500000, 166731), weighted(10, 12818, 38469)},
		spans:      []impl.Distribution{weighted(0, 1, 1)},
		events:     []impl.Distribution{weighted(10, 333269, 333463)},
		chances:    []int{999},
	})
	checkEventDate(t, model(10, 3, 1, event(0, 1, weighted(9, 249702, 0, 1))), 0, weighted(10, 749109, 1000000, 749109))
	checkEventDate(t, model(10, 3, 1, event(0, 1, weighted(9, 35333, 1000, 0, 0, 1))), 0, weighted(10, 500001, 72668, 54501))
	checkPhaseSpan(t, model(0, 2, 2, event(1, 11, weighted(0, 2, 3)), event(1, 33, weighted(0, 3, 2))), 1, weighted(0, 743111, 1000000))
	checkPhaseSpan(t, model(0, 3, 1, event(0, 77, weighted(-1, 970, 1807, 2287))), 0, weighted(0, 484090, 666667, 484090))
	checkBoundary(t, model(0, 3, 2, event(0, 9, weighted(0, 110, 295, 2047))), 1, weighted(0, 52098, 171536, 666667))
	// Far above, 40000 becomes 0, and what is left is reduced.
	checkModel(t, model(10, 2, 1, event(0, 0, weighted(10, 1, 100000)), event(0, 0, weighted(10, 1, 100000))), modelResults{
		sum: 800008000080000, count: 3,
		boundaries: []impl.Distribution{weighted(10, 999999, 999979), weighted(11, 1)},
		spans:      []impl.Distribution{weighted(0, 999979, 999999)},
		events:     []impl.Distribution{weighted(10, 1, 200000), weighted(10, 1, 200000)},
		chances:    []int{0, 0},
	})
}

func TestOutlierChances(t *testing.T) {
	one := weighted(10, 1)
	for outlier, chance := range map[int]int{0: 0, 1: 10, 2: 20, 3: 30, 50: 500, 99: 990, 100: 1000} {
		checkOutlier(t, model(10, 2, 1, event(0, outlier, one)), 0, chance, true)
	}
	// A third of the date lies in the range: the chance is 3*Outlier of 100 + 2*Outlier.
	for outlier, chance := range map[int]int{0: 0, 1: 29, 2: 57, 50: 750, 97: 989, 98: 993, 99: 996, 100: 1000} {
		checkOutlier(t, model(10, 2, 1, event(0, outlier, weighted(9, 2, 1))), 0, chance, true)
	}
	// With this outlier, it is w+1 of w+100.
	for w, chance := range map[int]int{1: 19, 2: 29, 98: 500, 890: 900, 889: 899, 98900: 999, 98899: 998, 98901: 999, 1000000: 999} {
		checkOutlier(t, model(10, 2, 1, event(0, 1, weighted(9, w, 1))), 0, chance, true)
	}
	// The phase of the event has a single year, for which the date has 20 times as much weight.
	for outlier, chance := range map[int]int{0: 0, 1: 0, 2: 1, 19: 11, 95: 487, 99: 831, 100: 1000} {
		checkOutlier(t, model(10, 20, 2, event(0, outlier, one), event(1, 0, one)), 0, chance, true)
		checkOutlier(t, model(-9, 20, 2, event(0, 0, one), event(1, outlier, one)), 1, chance, true)
	}
	// The other events count with both parts.
	checkOutlier(t, model(10, 2, 2, event(0, 0, one), event(1, 50, one)), 1, 500, true)
	checkOutlier(t, model(10, 2, 2, event(0, 100, one), event(1, 50, one)), 1, 600, true)
}

// TestSumsThatAreNoIntsTimesAThousand: the weights of models can be as great as 10^17.
func TestSumsThatAreNoIntsTimesAThousand(t *testing.T) {
	for _, outlier := range []int{0, 1, 37, 50, 99, 100} {
		for _, other := range []int{0, 50, 100} {
			long, short := summing(25000).Dates[0], summing(10000).Dates[0]
			m := model(0, 20, 2, event(0, outlier, long), event(1, other, short))
			checkAgainstPlain(t, m)
			checkAgainstPlain(t, model(-20, 20, 2, event(1, outlier, long), event(1, 100, short)))
			if sum, _, _ := impl.ModelWeight(m); other == 100 && sum < math.MaxInt/1000 {
				t.Errorf("the sum is only %d", sum)
			}
		}
	}
}

func TestRangesOfModels(t *testing.T) {
	if impl.MaxRange != 20 || impl.MaxEvents != 4 {
		t.Errorf("MaxRange is %d, and MaxEvents is %d", impl.MaxRange, impl.MaxEvents)
	}
	for _, phases := range []int{1, 2} {
		for _, c := range [][2]int{
			{0, 1}, {0, 2}, {0, 19}, {0, 20}, {-5, 20}, {impl.MinYear, 1}, {impl.MinYear, 20}, {impl.MinYear + 1, 20}, {impl.MaxYear, 1}, {impl.MaxYear - 1, 2},
			{impl.MaxYear - 1, 1}, {impl.MaxYear - 19, 20}, {impl.MaxYear - 20, 20}, {impl.MaxYear - 18, 19},
		} {
			checkAgainstPlain(t, model(c[0], c[1], phases, event(0, 30, weighted(c[0], 1)), event(phases-1, 40, weighted(c[0]+c[1]-1, 1))))
		}
		for _, c := range [][2]int{
			{0, 0}, {0, -1}, {0, -20}, {0, 21}, {0, 1000}, {0, math.MaxInt}, {0, math.MinInt}, {5, math.MaxInt}, {-5, math.MinInt}, {1, math.MaxInt},
			{impl.MinYear, 0}, {impl.MinYear, 21}, {impl.MinYear - 1, 1}, {impl.MinYear - 1, 2}, {impl.MinYear - 1, 20}, {impl.MinYear - 19, 20}, {impl.MinYear - 20, 20},
			{impl.MaxYear, 0}, {impl.MaxYear, 2}, {impl.MaxYear, 20}, {impl.MaxYear - 1, 3}, {impl.MaxYear - 18, 20}, {impl.MaxYear - 20, 21},
			{impl.MaxYear + 1, 1}, {impl.MaxYear + 1, 20}, {impl.MaxYear + 1, 0},
			{-100000, 1}, {100000, 1}, {math.MinInt, 1}, {math.MinInt, 20}, {math.MaxInt, 1}, {math.MaxInt, 2}, {math.MaxInt, 20}, {math.MaxInt - 18, 20},
			{math.MinInt, math.MaxInt}, {math.MaxInt, math.MaxInt}, {math.MinInt, math.MinInt}, {math.MaxInt, math.MinInt}, {math.MinInt + 20, math.MinInt}, {math.MaxInt - 9, 20},
		} {
			checkNoModel(t, "range", model(c[0], c[1], phases))
			checkNoModel(t, "range", model(c[0], c[1], phases, event(0, 30, weighted(5, 1))))
		}
	}
}

// TestFlawedModels passes models that have one flaw each.
func TestFlawedModels(t *testing.T) {
	for _, phases := range []int{0, -1, 3, 4, 20, math.MinInt, math.MaxInt} {
		checkNoModel(t, "phases", model(10, 3, phases))
		checkNoModel(t, "phases", model(10, 3, phases, event(0, 0, weighted(10, 1))))
		checkNoModel(t, "phases", model(10, 1, phases, event(phases-1, 0, weighted(10, 1))))
	}
	for _, phases := range []int{1, 2} {
		for count := range 9 {
			events := slices.Repeat([]impl.DatedEvent{event(phases-1, 20, weighted(10, 1))}, count)
			m := model(10, 2, phases, events...)
			if count <= impl.MaxEvents {
				checkAgainstPlain(t, m)
			} else {
				checkNoModel(t, "events", m)
			}
			for i := range min(count, impl.MaxEvents) {
				flawed := copyOfModel(m)
				for _, phase := range []int{-1, -2, phases, phases + 1, math.MinInt, math.MaxInt} {
					flawed.Events[i].Phase = phase
					checkNoModel(t, "phase of an event", flawed)
				}
				flawed = copyOfModel(m)
				for _, outlier := range []int{-1, -100, 101, 200, 1000, math.MinInt, math.MaxInt} {
					flawed.Events[i].Outlier = outlier
					checkNoModel(t, "outlier", flawed)
				}
				flawed = copyOfModel(m)
				for name, date := range flawedDistributions() {
					flawed.Events[i].Date = date
					checkNoModel(t, name, flawed)
				}
			}
		}
	}
	checkNoModel(t, "zero value", impl.PhaseModel{})
	checkNoModel(t, "far too many events", model(10, 2, 1, slices.Repeat([]impl.DatedEvent{event(0, 20, weighted(10, 1))}, 100000)...))
}

// TestDatesAtEveryLimit: what is valid as a distribution is so as a date.
func TestDatesAtEveryLimit(t *testing.T) {
	for _, date := range soundDistributions() {
		for _, first := range []int{date.First, date.First + len(date.Weights) - 1, date.First - 1, 5} {
			first = min(max(first, impl.MinYear), impl.MaxYear-19)
			for _, outlier := range []int{0, 1, 100} {
				checkAgainstPlain(t, model(first, 20, 2, event(1, outlier, date)))
			}
		}
	}
}

// limited has an event for every sum of weights.
func limited(years int, sums ...int) impl.PhaseModel {
	m := model(0, years, 2)
	for i, date := range summing(sums...).Dates {
		m.Events = append(m.Events, event(i%2, 40*i%101, date))
	}
	return m
}

// TestProductsOfModels: the product of 100 * Years * S may be 10^15, but not greater.
func TestProductsOfModels(t *testing.T) {
	for _, c := range []struct {
		years int
		sums  []int
	}{
		// These are 10^15.
		{1, []int{100000, 1000000}}, {1, []int{1000, 1000, 1000}}, {1, []int{10, 1000, 10, 100}}, {1, []int{1000000, 10, 1, 1}}, {2, []int{50000, 500000}}, {2, []int{500, 500, 500}},
		{10, []int{10000, 100000}}, {10, []int{100, 100, 100}}, {10, []int{10, 10, 10, 1}}, {20, []int{25000, 10000}}, {20, []int{50, 50, 50}}, {20, []int{125000, 1, 1}},
		{5, []int{40, 2, 200, 1}},
		// These are the greatest products below 10^15.
		{20, []int{31, 2, 1, 1}}, {20, []int{1, 1, 62, 1}}, {3, []int{21649, 513239}}, {7, []int{12, 347, 1, 1}}, {19, []int{31, 4703, 1}}, {9, []int{7 * 31 * 613, 9281}},
		{20, []int{59000001}}, {1, []int{59000001}},
	} {
		checkAgainstPlain(t, limited(c.years, c.sums...))
	}
	for _, c := range []struct {
		years int
		sums  []int
	}{
		// With one less in the product of the sums, these would be valid.
		{1, []int{11 * 23 * 4093, 11 * 8779}}, {1, []int{1001, 19, 52579}}, {1, []int{52579, 1001, 19}}, {1, []int{11, 909091, 1, 1}}, {1, []int{1, 11, 1, 909091}},
		{20, []int{41 * 41, 148721}}, {20, []int{153, 19, 43}}, {20, []int{125001, 1, 1}}, {20, []int{7, 9, 1, 1}}, {20, []int{1, 1, 1, 63}}, {7, []int{5, 7, 7, 17}},
		{19, []int{66, 47, 47}}, {9, []int{2 * 3 * 19 * 53, 204331}},
		{1, []int{100000, 1000001}}, {1, []int{1000001, 100000}}, {20, []int{25001, 10000}}, {20, []int{25000, 10001}}, {20, []int{50, 50, 51}}, {20, []int{2, 31, 1, 2}}, {11, []int{10, 10, 10, 1}},
	} {
		checkNoModel(t, "product", limited(c.years, c.sums...))
	}
}

// TestProductsOfModelsThatAreNoInts: in 64 bits, they would be 0, within the limit, or negative.
func TestProductsOfModelsThatAreNoInts(t *testing.T) {
	for _, c := range []struct {
		years int
		sums  []int
	}{
		{16, []int{1048576, 1048576, 1048576, 1048576}}, {16, []int{1 << 25, 1 << 25, 1}}, {16, []int{1 << 25, 1 << 25}}, {8, []int{1 << 24, 1 << 24, 1 << 24, 1 << 24}},
		{20, []int{51993098, 20932741}}, {20, []int{8232859, 31413325, 12884187}}, {16, []int{34888955, 22952586, 31816803, 33178774}}, {1, []int{12396758, 26994641, 37962897}},
		{20, []int{43822656, 37847105, 3943559, 37405695}}, {1, []int{15036152, 45827037, 24606842, 44037873}},
		{20, []int{8655189, 18503137}}, {20, []int{13186860, 7547635, 11186731}}, {16, []int{15179686, 45932628, 22969015, 13911972}}, {1, []int{34948037, 56650130, 36244014}},
		{20, []int{12938175, 24578031, 55130857, 23053431}}, {1, []int{37055630, 45161609, 52197581, 25529301}}, {20, []int{59000001, 59000001, 59000001, 59000001}},
	} {
		checkNoModel(t, "product", limited(c.years, c.sums...))
	}
	for _, phases := range []int{1, 2} {
		checkNoModel(t, "product", model(0, 20, phases, slices.Repeat([]impl.DatedEvent{event(0, 10, heaviest(0))}, 4)...))
		checkNoModel(t, "product", model(0, 1, phases, slices.Repeat([]impl.DatedEvent{event(0, 0, heaviest(0))}, 2)...))
		checkAgainstPlain(t, model(0, 20, phases, event(phases-1, 10, heaviest(0))))
	}
}

func TestLatestOf(t *testing.T) {
	none := impl.Distribution{}
	for _, d := range soundDistributions() {
		checkLatestOf(t, []impl.Distribution{d}, d)
	}
	for _, c := range []struct {
		list []impl.Distribution
		want impl.Distribution
	}{
		{nil, none}, {[]impl.Distribution{}, none},
		{[]impl.Distribution{even(1, 2), even(1, 2)}, weighted(1, 1, 3)},
		{[]impl.Distribution{weighted(5, 1, 2, 1), weighted(6, 1, 1)}, weighted(6, 3, 5)},
		{[]impl.Distribution{weighted(5, 1, 2, 1), weighted(5, 1, 0, 1)}, weighted(5, 1, 2, 5)},
		{[]impl.Distribution{weighted(5, 1, 2, 1), weighted(6, 1)}, weighted(6, 3, 1)},
		{[]impl.Distribution{weighted(5, 1, 2, 1), weighted(7, 1)}, weighted(7, 1)},
		{[]impl.Distribution{weighted(5, 1, 2, 1), weighted(8, 3, 4)}, weighted(8, 3, 4)},
		{[]impl.Distribution{even(1, 2), even(1, 2), even(1, 2)}, weighted(1, 1, 7)},
		{[]impl.Distribution{even(1, 2), even(1, 2), even(1, 2), even(1, 2)}, weighted(1, 1, 15)},
		{[]impl.Distribution{even(1, 2), even(2, 2), even(3, 2), even(4, 2)}, even(4, 2)},
		{[]impl.Distribution{even(4, 2), even(3, 2), even(2, 2), even(1, 4)}, weighted(4, 1, 1)},
		{[]impl.Distribution{even(1, 2), even(1, 2), even(1, 2), even(1, 2), even(1, 2)}, none},
		{slices.Repeat([]impl.Distribution{even(1, 1)}, 4), even(1, 1)},
		{slices.Repeat([]impl.Distribution{even(1, 1)}, 5), none},
		{slices.Repeat([]impl.Distribution{even(1, 1)}, 100000), none},
		{[]impl.Distribution{weighted(impl.MinYear, 1, 1), weighted(impl.MinYear, 1, 1)}, weighted(impl.MinYear, 1, 3)},
		{[]impl.Distribution{weighted(impl.MaxYear-1, 1, 1), weighted(impl.MaxYear-1, 1, 1)}, weighted(impl.MaxYear-1, 1, 3)},
		// The greatest weight is 10^6, 10^6 + 1, or far above it.
		{[]impl.Distribution{weighted(5, 1, 2), weighted(5, 499997, 2)}, weighted(5, 499997, 1000000)},
		{[]impl.Distribution{weighted(5, 1, 2), weighted(5, 499999, 1)}, weighted(5, 249999, 500000)},
		{[]impl.Distribution{weighted(5, 1, 1), weighted(5, 1, 500000)}, weighted(6, 1)},
		{[]impl.Distribution{weighted(5, 1, 1), weighted(5, 1, 499999)}, weighted(5, 1, 999999)},
		{[]impl.Distribution{weighted(5, 1, 1), weighted(5, 1, 250000, 250000)}, weighted(5, 1, 500001, 500000)},
		{[]impl.Distribution{weighted(5, 1, 1000000), weighted(5, 1, 1000000)}, weighted(6, 1)},
		{[]impl.Distribution{heaviest(0), even(59, 2)}, weighted(59, 1, 1)},
	} {
		checkLatestOf(t, c.list, c.want)
		checkLatestOf(t, backward(c.list), c.want)
	}
}

// TestYearsThatLatestOfSpans: 200 years are not too many, even if most of them have no weight.
func TestYearsThatLatestOfSpans(t *testing.T) {
	none := impl.Distribution{}
	for _, first := range []int{0, -100, impl.MinYear, impl.MaxYear - 200} {
		for _, c := range []struct {
			list []impl.Distribution
			want impl.Distribution
		}{
			{[]impl.Distribution{weighted(first, 1), weighted(first+199, 1)}, weighted(first+199, 1)},
			{[]impl.Distribution{weighted(first, 1), weighted(first+200, 1)}, none},
			{[]impl.Distribution{even(first, 60), even(first+140, 60)}, even(first+140, 60)},
			{[]impl.Distribution{even(first, 60), even(first+141, 60)}, none},
			{[]impl.Distribution{even(first, 2), weighted(first+198, 3, 4)}, weighted(first+198, 3, 4)},
			{[]impl.Distribution{even(first, 2), weighted(first+199, 3, 4)}, none},
			{[]impl.Distribution{weighted(first+80, 1), weighted(first, 1), weighted(first+199, 1), weighted(first+90, 1)}, weighted(first+199, 1)},
			{[]impl.Distribution{weighted(first+80, 1), weighted(first, 1), weighted(first+200, 1), weighted(first+90, 1)}, none},
			{[]impl.Distribution{even(first+141, 59), even(first+150, 50), even(first+160, 40), even(first, 1)}, plainlyLatest(even(first+141, 59), even(first+150, 50), even(first+160, 40))},
			{[]impl.Distribution{even(first+141, 59), even(first+150, 50), even(first+160, 41), even(first, 1)}, none},
		} {
			checkLatestOf(t, c.list, c.want)
			checkLatestOf(t, backward(c.list), c.want)
			checkTerminus(t, c.list, 1, 1, c.want.First+max(len(c.want.Weights), 1)-1, len(c.want.Weights) > 0)
		}
	}
	checkLatestOf(t, []impl.Distribution{weighted(impl.MinYear, 1), weighted(impl.MaxYear, 1)}, none)
	checkLatestOf(t, []impl.Distribution{weighted(impl.MaxYear, 1), weighted(impl.MinYear, 1)}, none)
}

func TestProductsOfSumsOfLatestOf(t *testing.T) {
	none := impl.Distribution{}
	for _, sums := range [][]int{
		{100000, 100000, 100000}, {1000, 1000000, 1000000}, {1000000, 1000000, 1000}, {1000, 1000, 1000, 1000000}, {25000000, 40000000}, {1000000, 1000, 1000, 1000},
		// This is 10^15 - 1.
		{27 * 31 * 37, 41 * 271, 2906161}, {2906161, 27 * 31, 37 * 41, 271},
	} {
		list := summing(sums...).Dates
		checkLatestOf(t, list, plainlyLatest(list...))
		checkTerminus(t, list, 1, 1, plainlyLatest(list...).First+len(plainlyLatest(list...).Weights)-1, true)
	}
	for _, sums := range [][]int{
		// These are 10^15 + 1.
		{1001 * 241, 211 * 2161, 9091}, {9091, 211 * 2161, 1001 * 241}, {1001, 211 * 241, 2161, 9091}, {9091, 2161, 211 * 241, 1001},
		{100000, 100000, 100001}, {100001, 100000, 100000}, {25000000, 40000001}, {40000001, 25000000}, {1000, 1000, 1000, 1000001},
		// In 64 bits, they would be 0, within the limit, or negative.
		{65536, 65536, 65536, 65536}, {65536, 65536, 641, 6700417}, {6700417, 641, 65536, 65536}, {65536, 65536, 65536, 32768}, {2000001, 2000001, 2000001, 2000001},
		{59000001, 59000001, 59000001}, {59000001, 59000001, 59000001, 59000001},
	} {
		checkLatestOf(t, summing(sums...).Dates, none)
		checkTerminus(t, summing(sums...).Dates, 1, 2, 0, false)
	}
	checkLatestOf(t, []impl.Distribution{heaviest(0), heaviest(0)}, none)
}

func TestFlawedDistributionsHaveNoLatestYear(t *testing.T) {
	for _, flawed := range flawedDistributions() {
		for count := 1; count <= 5; count++ {
			for i := range count {
				list := slices.Repeat([]impl.Distribution{weighted(5, 1)}, count)
				list[i] = flawed
				checkLatestOf(t, list, impl.Distribution{})
				checkTerminus(t, list, 1, 2, 0, false)
				checkTerminus(t, list, 1, 1, 0, false)
			}
		}
		for _, other := range append(soundDistributions(), flawed) {
			checkResidual(t, flawed, other, 0, 0, false)
			checkResidual(t, other, flawed, 0, 0, false)
		}
	}
}

func TestTerminusPostQuem(t *testing.T) {
	pair := []impl.Distribution{even(1, 2), even(1, 2)}
	for _, c := range []struct{ num, den, want int }{{1, 1000, 1}, {1, 4, 1}, {250, 1000, 1}, {251, 1000, 2}, {1, 3, 2}, {1, 2, 2}, {1, 1, 2}, {1000, 1000, 2}} {
		checkTerminus(t, pair, c.num, c.den, c.want, true)
	}
	three := []impl.Distribution{weighted(5, 1, 2, 1), weighted(6, 1, 1), weighted(0, 1)}
	for _, c := range []struct{ num, den, want int }{{1, 1000, 6}, {375, 1000, 6}, {3, 8, 6}, {376, 1000, 7}, {1, 1, 7}} {
		checkTerminus(t, three, c.num, c.den, c.want, true)
	}
	for _, f := range flawedFractions() {
		checkTerminus(t, pair, f[0], f[1], 0, false)
		checkTerminus(t, three, f[0], f[1], 0, false)
		checkTerminus(t, pair[:1], f[0], f[1], 0, false)
		checkTerminus(t, nil, f[0], f[1], 0, false)
	}
	for _, d := range soundDistributions() {
		for _, f := range [][2]int{{1, 1000}, {1, 2}, {2, 3}, {999, 1000}, {1, 1}} {
			year, _ := impl.QuantileYear(d, f[0], f[1])
			checkTerminus(t, []impl.Distribution{d}, f[0], f[1], year, true)
		}
	}
	for _, list := range [][]impl.Distribution{nil, {}, slices.Repeat(pair, 3), slices.Repeat(pair, 100)} {
		checkTerminus(t, list, 1, 2, 0, false)
		checkTerminus(t, list, 1, 1, 0, false)
	}
}

func TestResidualChance(t *testing.T) {
	great := plainSum(heaviest(0))
	for _, c := range []struct {
		find, deposit impl.Distribution
		older, all    int
	}{
		{even(1, 2), even(1, 2), 1, 3},
		{weighted(5, 1, 2, 1), weighted(6, 1, 1), 4, 7},
		{weighted(6, 1, 1), weighted(5, 1, 2, 1), 1, 4},
		{weighted(6, 3, 5), weighted(5, 1, 2, 4), 12, 38},
		{weighted(5, 2, 0, 3), weighted(6, 1), 2, 2},
		{weighted(5, 2, 0, 3), weighted(6, 4, 0, 1), 13, 13},
		{weighted(6, 1), weighted(5, 2, 0, 3), 3, 3},
		{weighted(5, 1), weighted(5, 1), 0, 1},
		// They lie apart, the find first, or have one pair at their ends.
		{weighted(5, 2, 1), weighted(7, 1, 3), 12, 12},
		{weighted(5, 2, 1), weighted(50, 1, 3), 12, 12},
		{weighted(5, 2, 3), weighted(4, 3, 7), 0, 14},
		{weighted(5, 2, 3), weighted(6, 7, 5), 39, 60},
		{weighted(impl.MinYear, 1, 2), weighted(impl.MaxYear-1, 3, 1), 12, 12},
		{heaviest(0), heaviest(60), great * great, great * great},
		{heaviest(0), heaviest(59), great*great - 1000000*1000000, great * great},
		{even(0, 60), even(0, 60), 60 * 59 / 2, 60 * 61 / 2},
		{even(59, 60), even(0, 60), 0, 1},
		{even(58, 60), even(0, 60), 1, 3},
	} {
		checkResidual(t, c.find, c.deposit, c.older, c.all, true)
	}
	// There is no pair in which the find is not younger.
	for _, c := range [][2]impl.Distribution{
		{weighted(6, 1), weighted(5, 1)}, {weighted(7, 1, 3), weighted(5, 2, 1)}, {weighted(50, 1, 3), weighted(5, 2, 1)}, {weighted(8, 1), weighted(5, 1, 0, 1)},
		{weighted(impl.MaxYear, 1), weighted(impl.MinYear, 1)}, {heaviest(60), heaviest(0)}, {even(60, 60), even(0, 60)},
	} {
		checkResidual(t, c[0], c[1], 0, 0, false)
	}
}

// plainEventWeight is the weight of an event for a year, without the regular part if that is not
// wanted.
func plainEventWeight(m impl.PhaseModel, e impl.DatedEvent, year int, regular bool) int {
	weight := e.Outlier * plainSum(e.Date)
	for i, w := range e.Date.Weights {
		if regular && e.Date.First+i == year {
			weight += (100 - e.Outlier) * m.Years * w
		}
	}
	return weight
}

// plainList is a list of boundaries with its weight.
type plainList struct {
	boundaries []int
	weight     *big.Int
}

type plainLists []plainList

// plainListsOf counts through all lists of years. One event can be left out, or have only its
// outlier part; there is none at the index -1.
func plainListsOf(m impl.PhaseModel, leftOut, outlierOnly int) plainLists {
	all, count := plainLists{}, m.Years
	for range m.Phases {
		count *= m.Years
	}
	for n := range count {
		boundaries, weight := make([]int, m.Phases+1), big.NewInt(1)
		for k := range boundaries {
			boundaries[k] = m.First + n%m.Years
			n /= m.Years
		}
		if !slices.IsSorted(boundaries) {
			continue
		}
		for i, e := range m.Events {
			sum := 0
			for year := boundaries[e.Phase]; year <= boundaries[e.Phase+1]; year++ {
				sum += plainEventWeight(m, e, year, i != outlierOnly)
			}
			if i != leftOut {
				weight.Mul(weight, big.NewInt(int64(sum)))
			}
		}
		all = append(all, plainList{boundaries, weight})
	}
	return all
}

// sumOf returns the sum of the weights of the lists that a condition chooses.
func (all plainLists) sumOf(chosen func(boundaries []int) bool) *big.Int {
	sum := new(big.Int)
	for _, x := range all {
		if chosen(x.boundaries) {
			sum.Add(sum, x.weight)
		}
	}
	return sum
}

func (all plainLists) sum() *big.Int {
	return all.sumOf(func([]int) bool { return true })
}

// plainlyScaled returns the zero value if all weights are 0.
func plainlyScaled(first int, weights []*big.Int) impl.Distribution {
	greatest := new(big.Int)
	for _, weight := range weights {
		if weight.Cmp(greatest) > 0 {
			greatest = weight
		}
	}
	// This is the greatest weight divided by 10^6, rounded up.
	divisor := new(big.Int).Add(greatest, big.NewInt(999999))
	divisor.Quo(divisor, big.NewInt(1000000))
	if divisor.Sign() == 0 {
		return impl.Distribution{}
	}
	scaled := []int{}
	for _, weight := range weights {
		scaled = append(scaled, int(new(big.Int).Quo(weight, divisor).Int64()))
	}
	return plainlyReduced(first, scaled)
}

// eachYearOf returns the sums for the years of the range, or for the numbers of years from 0 on.
func eachYearOf(m impl.PhaseModel, first int, sumFor func(year int) *big.Int) impl.Distribution {
	sums := []*big.Int{}
	for i := range m.Years {
		sums = append(sums, sumFor(first+i))
	}
	return plainlyScaled(first, sums)
}

func plainEventDate(m impl.PhaseModel, i int) impl.Distribution {
	others, e := plainListsOf(m, i, -1), m.Events[i]
	return eachYearOf(m, m.First, func(year int) *big.Int {
		sum := others.sumOf(func(boundaries []int) bool {
			return boundaries[e.Phase] <= year && year <= boundaries[e.Phase+1]
		})
		return sum.Mul(sum, big.NewInt(int64(plainEventWeight(m, e, year, true))))
	})
}

// plainThousandths rounds down, and is 0 if the whole is 0.
func plainThousandths(part, whole *big.Int) int {
	if whole.Sign() == 0 {
		return 0
	}
	thousandths := new(big.Int).Mul(part, big.NewInt(1000))
	return int(thousandths.Quo(thousandths, whole).Int64())
}

func plainResultsOf(m impl.PhaseModel) modelResults {
	all := plainListsOf(m, -1, -1)
	results := modelResults{sum: int(all.sum().Int64()), count: len(all)}
	for k := range m.Phases + 1 {
		results.boundaries = append(results.boundaries, eachYearOf(m, m.First, func(year int) *big.Int {
			return all.sumOf(func(boundaries []int) bool { return boundaries[k] == year })
		}))
	}
	for p := range m.Phases {
		results.spans = append(results.spans, eachYearOf(m, 0, func(years int) *big.Int {
			return all.sumOf(func(boundaries []int) bool { return boundaries[p+1]-boundaries[p] == years })
		}))
	}
	for i := range m.Events {
		results.events = append(results.events, plainEventDate(m, i))
		results.chances = append(results.chances, plainThousandths(plainListsOf(m, -1, i).sum(), all.sum()))
	}
	return results
}

// plainlyLatest takes the greater one of each pair of years, one distribution after the other.
func plainlyLatest(list ...impl.Distribution) impl.Distribution {
	weights := map[int]*big.Int{impl.MinYear: big.NewInt(1)}
	for _, d := range list {
		longer := map[int]*big.Int{}
		for year, weight := range weights {
			for i, w := range d.Weights {
				latest := max(year, d.First+i)
				if longer[latest] == nil {
					longer[latest] = new(big.Int)
				}
				longer[latest].Add(longer[latest], new(big.Int).Mul(weight, big.NewInt(int64(w))))
			}
		}
		weights = longer
	}
	years := slices.Sorted(maps.Keys(weights))
	sums := []*big.Int{}
	for year := years[0]; year <= years[len(years)-1]; year++ {
		sum := weights[year]
		if sum == nil {
			sum = new(big.Int)
		}
		sums = append(sums, sum)
	}
	return plainlyScaled(years[0], sums)
}

// checkAgainstPlain holds every function that reads a model against all lists of boundaries.
func checkAgainstPlain(t *testing.T, m impl.PhaseModel) bool {
	t.Helper()
	want := plainResultsOf(m)
	checkModel(t, m, want)
	return want.sum > 0
}

// TestEverySmallModelOfOneEvent includes dates that lie wholly or partly outside of the range.
func TestEverySmallModelOfOneEvent(t *testing.T) {
	tested := map[bool]int{}
	for _, date := range smallDistributions(0, 3, 2) {
		for date.First = -3; date.First <= 3; date.First++ {
			for years := 1; years <= 3; years++ {
				for _, outlier := range []int{0, 30, 100} {
					tested[checkAgainstPlain(t, model(0, years, 1, event(0, outlier, date)))]++
					tested[checkAgainstPlain(t, model(0, years, 2, event(0, outlier, date)))]++
					tested[checkAgainstPlain(t, model(0, years, 2, event(1, outlier, date)))]++
				}
			}
		}
	}
	if tested[true] < 2000 || tested[false] < 300 {
		t.Errorf("%d models have a weight, and %d have none", tested[true], tested[false])
	}
}

// chosenModel has up to MaxEvents events near its range; the product of their sums is limited.
func chosenModel(source *rand.Rand, years, events int) impl.PhaseModel {
	m := model(source.Intn(41)-20, years, 1+source.Intn(2))
	left := big.NewInt(1_000_000_000_000_000)
	for range events {
		count, high := 1+source.Intn([]int{60, 60, 20, 6, 3}[events]), 1+source.Intn([]int{1, 1000000, 3000, 20, 4}[events])
		date := chosenDistribution(source, count, high)
		date.First = m.First - len(date.Weights) + source.Intn(years+len(date.Weights)+2)
		left.Quo(left, big.NewInt(int64(100*years*plainSum(date))))
		if left.Sign() == 0 {
			return m
		}
		outlier := []int{0, 100, 1, 50, 99, source.Intn(101)}[source.Intn(6)]
		m.Events = append(m.Events, event(source.Intn(m.Phases), outlier, date))
	}
	return m
}

// chosenModels calls use with seeded models of every number of events.
func chosenModels(seed int64, rounds int, ranges []int, use func(m impl.PhaseModel)) {
	source := rand.New(rand.NewSource(seed))
	for range rounds {
		for events := range impl.MaxEvents + 1 {
			for _, years := range ranges {
				use(chosenModel(source, years, events))
			}
		}
	}
}

func TestChosenModels(t *testing.T) {
	tested, events := map[bool]int{}, map[int]int{}
	check := func(m impl.PhaseModel) {
		tested[checkAgainstPlain(t, m)]++
		events[len(m.Events)]++
	}
	chosenModels(13, 100, []int{1, 2, 3, 4, 5}, check)
	chosenModels(130, 12, []int{7, 13, 19, 20}, check)
	if tested[true] < 1500 || tested[false] < 100 {
		t.Errorf("%d models have a weight, and %d have none", tested[true], tested[false])
	}
	for count := range impl.MaxEvents + 1 {
		if events[count] < 200 {
			t.Errorf("only %d models have %d events", events[count], count)
		}
	}
}

func TestChosenLatestYears(t *testing.T) {
	source := rand.New(rand.NewSource(131))
	failed := 0
	for range 300 {
		for count := 1; count <= impl.MaxEvents; count++ {
			list, product := []impl.Distribution{}, big.NewInt(1)
			for range count {
				d := chosenDistribution(source, []int{1, 60, 60, 30, 20}[count], []int{1, 1000000, 1000000, 20000, 1500}[count])
				d.First = source.Intn(30)
				list = append(list, d)
				product.Mul(product, big.NewInt(int64(plainSum(d))))
			}
			want := plainlyLatest(list...)
			if product.Cmp(big.NewInt(1_000_000_000_000_000)) > 0 {
				want = impl.Distribution{}
				failed++
			}
			checkLatestOf(t, list, want)
			year, ok := impl.QuantileYear(want, 2, 3)
			checkTerminus(t, list, 2, 3, year, ok)
		}
	}
	if failed < 10 || failed > 900 {
		t.Errorf("%d lists have too great sums", failed)
	}
}

// checkPlainResidual counts all pairs of years.
func checkPlainResidual(t *testing.T, find, deposit impl.Distribution) {
	t.Helper()
	older, all := 0, 0
	for i, w := range find.Weights {
		for k, x := range deposit.Weights {
			if find.First+i < deposit.First+k {
				older += w * x
			}
			if find.First+i <= deposit.First+k {
				all += w * x
			}
		}
	}
	checkResidual(t, find, deposit, older, all, all > 0)
}

func TestEveryResidualChance(t *testing.T) {
	small := smallDistributions(0, 3, 3)
	for _, find := range small {
		for _, deposit := range small {
			for deposit.First = -4; deposit.First <= 4; deposit.First++ {
				checkPlainResidual(t, find, deposit)
			}
		}
	}
	source := rand.New(rand.NewSource(132))
	for range 500 {
		for _, high := range []int{3, 1000, impl.MaxWeight} {
			checkPlainResidual(t, chosenDistribution(source, 60, high), chosenDistribution(source, 60, high))
		}
	}
}

// upTo returns the sum of the weights up to a year, and that of all.
func upTo(d impl.Distribution, year int) (float64, float64) {
	part := 0
	for i, weight := range d.Weights {
		if d.First+i <= year {
			part += weight
		}
	}
	return float64(part), float64(plainSum(d))
}

// checkNotLater wants that the year of a has at least the chance of that of b to lie at every
// year or before it, but for what scaling leaves out.
func checkNotLater(t *testing.T, m impl.PhaseModel, what string, a, b impl.Distribution, exact bool) {
	t.Helper()
	tolerance := 1e-12
	if !exact {
		tolerance = 1e-4
	}
	for year := m.First - 1; year <= m.First+m.Years; year++ {
		partOfA, allOfA := upTo(a, year)
		partOfB, allOfB := upTo(b, year)
		if partOfA/allOfA < partOfB/allOfB-tolerance {
			t.Errorf("%s of %v: up to %d, the chance of %v is less than that of %v", what, m, year, a, b)
		}
	}
}

func meanOf(d impl.Distribution) *big.Rat {
	sum := 0
	for i, weight := range d.Weights {
		sum += (d.First + i) * weight
	}
	return big.NewRat(int64(sum), int64(plainSum(d)))
}

// checkPromisedBoundaries checks the first part of promise 13 in the results alone: boundaries
// never decrease, and events lie between those of their phases; without scaling, the mean
// numbers of years of phases are the differences of the mean boundaries.
func checkPromisedBoundaries(t *testing.T, m impl.PhaseModel) (bool, bool) {
	t.Helper()
	all, _, _ := impl.ModelWeight(m)
	exact := all <= impl.MaxWeight
	if all == 0 {
		return false, exact
	}
	boundaries := []impl.Distribution{}
	for k := range m.Phases + 1 {
		d, _ := impl.BoundaryDate(m, k)
		boundaries = append(boundaries, d)
	}
	for p := range m.Phases {
		checkNotLater(t, m, "boundaries", boundaries[p], boundaries[p+1], exact)
		span, _ := impl.PhaseSpan(m, p)
		difference := new(big.Rat).Sub(meanOf(boundaries[p+1]), meanOf(boundaries[p]))
		if exact && difference.Cmp(meanOf(span)) != 0 {
			t.Errorf("the span %v of phase %d of %v has not the mean %v", span, p, m, difference)
		}
	}
	for i, e := range m.Events {
		d, _ := impl.EventDate(m, i)
		checkNotLater(t, m, "events", boundaries[e.Phase], d, exact)
		checkNotLater(t, m, "events", d, boundaries[e.Phase+1], exact)
	}
	return true, exact
}

// checkPromisedChances checks the second part of promise 13 in the results alone: a date with the
// same weights, all of them outside of the range, leaves the outlier part alone.
func checkPromisedChances(t *testing.T, m impl.PhaseModel) {
	t.Helper()
	all, _, _ := impl.ModelWeight(m)
	for i := range m.Events {
		outside := copyOfModel(m)
		outside.Events[i].Date.First -= 1000
		part, _, _ := impl.ModelWeight(outside)
		checkOutlier(t, m, i, plainThousandths(big.NewInt(int64(part)), big.NewInt(int64(all))), all > 0)
		if m.Events[i].Outlier%100 == 0 && all > 0 {
			checkOutlier(t, m, i, 10*m.Events[i].Outlier, true)
		}
	}
}

func mirroredDistribution(d impl.Distribution) impl.Distribution {
	return weighted(1-d.First-len(d.Weights), backward(d.Weights)...)
}

// checkMirrored wants that a model in which time runs backward has the same results backward.
func checkMirrored(t *testing.T, m impl.PhaseModel) {
	t.Helper()
	mirrored := model(1-m.First-m.Years, m.Years, m.Phases)
	for _, e := range m.Events {
		mirrored.Events = append(mirrored.Events, event(m.Phases-1-e.Phase, e.Outlier, mirroredDistribution(e.Date)))
	}
	sum, count, ok := impl.ModelWeight(m)
	checkModelWeight(t, mirrored, sum, count, ok)
	if sum == 0 {
		return
	}
	for k := range m.Phases + 1 {
		d, _ := impl.BoundaryDate(m, k)
		checkBoundary(t, mirrored, m.Phases-k, mirroredDistribution(d))
	}
	for p := range m.Phases {
		d, _ := impl.PhaseSpan(m, p)
		checkPhaseSpan(t, mirrored, m.Phases-1-p, d)
	}
	for i := range m.Events {
		d, _ := impl.EventDate(m, i)
		checkEventDate(t, mirrored, i, mirroredDistribution(d))
		chance, ok := impl.OutlierChance(m, i)
		checkOutlier(t, mirrored, i, chance, ok)
	}
}

func TestBoundariesNeverDecreaseAndChancesAreExact(t *testing.T) {
	exactly, scaled := 0, 0
	check := func(m impl.PhaseModel) {
		checked, exact := checkPromisedBoundaries(t, m)
		if checked && exact {
			exactly++
		} else if checked {
			scaled++
		}
		checkPromisedChances(t, m)
		checkMirrored(t, m)
	}
	check(hut())
	check(barn())
	chosenModels(133, 100, []int{1, 2, 3, 4, 5, 6}, check)
	chosenModels(134, 6, []int{8, 20}, check)
	if exactly < 500 || scaled < 1000 {
		t.Errorf("only %d models without scaling and %d with it were checked", exactly, scaled)
	}
}

// TestResidualChancesAreConditions: of all pairs of years, those with a younger find are left out.
func TestResidualChancesAreConditions(t *testing.T) {
	source := rand.New(rand.NewSource(135))
	for range 1000 {
		find, deposit := chosenDistribution(source, 20, 50), chosenDistribution(source, 20, 50)
		older, whole, _ := impl.ChanceEarlier(find, deposit)
		younger, _, _ := impl.ChanceEarlier(deposit, find)
		if younger == whole {
			checkResidual(t, find, deposit, 0, 0, false)
		} else {
			checkResidual(t, find, deposit, older, whole-younger, true)
		}
	}
}

// modelLists calls every function of the chapter that returns a distribution, twice.
func modelLists(m impl.PhaseModel, list []impl.Distribution) [][]int {
	lists := [][]int{}
	for range 2 {
		for i := range impl.MaxEvents {
			boundary, _ := impl.BoundaryDate(m, i)
			span, _ := impl.PhaseSpan(m, i)
			date, _ := impl.EventDate(m, i)
			latest, _ := impl.LatestOf(list[:min(i, len(list))])
			lists = append(lists, boundary.Weights, span.Weights, date.Weights, latest.Weights)
		}
		latest, _ := impl.LatestOf(list)
		lists = append(lists, latest.Weights)
	}
	return lists
}

// longDistribution has more weights beyond its length; the second result is all of them.
func longDistribution(d impl.Distribution) (impl.Distribution, []int) {
	whole := append(slices.Clone(d.Weights), 4, -1, 0, impl.MaxWeight+1)
	return weighted(d.First, whole[:len(d.Weights)]...), whole
}

// checkMemoryOfModels passes slices that have more elements beyond their lengths.
func checkMemoryOfModels(t *testing.T, plain impl.PhaseModel) {
	t.Helper()
	m, dates, plainDates, weights := copyOfModel(plain), []impl.Distribution{}, []impl.Distribution{}, [][]int{}
	for i, e := range plain.Events {
		date, whole := longDistribution(e.Date)
		m.Events[i].Date = date
		dates, plainDates, weights = append(dates, date), append(plainDates, e.Date), append(weights, whole)
	}
	m.Events = append(m.Events, event(9, 101, impl.Distribution{}), event(0, 0, weighted(m.First, 1)))
	dates = append(dates, weighted(5, 0, -1), weighted(5, 1))
	wholeModel, wholeDates := copyOfModel(m), slices.Clone(dates)
	weightsBefore := cloneRows(weights)
	m.Events, dates = m.Events[:len(plain.Events)], dates[:len(plain.Events)]
	want := modelLists(plain, plainDates)
	name := "results for models"
	checkSeparate(t, name, modelLists(m, dates), want)
	checkSeparate(t, name, backward(modelLists(m, dates)), backward(want))
	checkAgainstPlain(t, m)
	terminus, ok := impl.TerminusPostQuem(plainDates, 1, 2)
	checkTerminus(t, dates, 1, 2, terminus, ok)
	for i := range dates {
		checkPlainResidual(t, dates[0], dates[i])
	}
	m.Events, dates = m.Events[:len(wholeModel.Events)], dates[:len(wholeDates)]
	if !sameModel(m, wholeModel) || !slices.EqualFunc(dates, wholeDates, sameDistribution) || !sameRows(weights, weightsBefore) {
		t.Errorf("the arguments became %v, %v, %v; they were %v, %v, %v", m, dates, weights, wholeModel, wholeDates, weightsBefore)
	}
}

// TestMemoryOfModels includes results that are equal to an argument.
func TestMemoryOfModels(t *testing.T) {
	checkMemoryOfModels(t, model(10, 3, 1))
	checkMemoryOfModels(t, model(10, 3, 1, event(0, 0, weighted(10, 1, 2))))
	checkMemoryOfModels(t, model(10, 1, 2, event(1, 0, weighted(10, 1))))
	checkMemoryOfModels(t, model(10, 2, 2, event(1, 0, weighted(12, 1))))
	checkMemoryOfModels(t, hut())
	checkMemoryOfModels(t, barn())
	chosenModels(136, 20, []int{1, 3, 6}, func(m impl.PhaseModel) { checkMemoryOfModels(t, m) })
}
