package tests

import (
	"math"
	"math/rand"
	"slices"
	"testing"

	"loop.example/g00876/impl"
)

func between(from, to int) impl.Interval {
	return impl.Interval{From: from, To: to}
}

func dated(number, from, to int) impl.Dated {
	return impl.Dated{Number: number, Interval: between(from, to)}
}

// since and until are evidence for one of both ends alone.
func since(number, year int) impl.Dated { return dated(number, year, impl.MaxYear) }
func until(number, year int) impl.Dated { return dated(number, impl.MinYear, year) }

// anyTime is the Interval of contexts without evidence.
func anyTime() impl.Interval {
	return between(impl.MinYear, impl.MaxYear)
}

// pitEvidence leaves 7 and 999 of the pit without evidence of their own.
func pitEvidence() []impl.Dated {
	return []impl.Dated{dated(4, -300, 80), dated(9, 50, 400), dated(10, -100, 150), dated(30, -500, 300), dated(200, 20, 90)}
}

func checkEvidence(t *testing.T, r impl.Record, list []impl.Dated, want bool) {
	t.Helper()
	if got := impl.IsValidEvidence(r, list); got != want {
		t.Errorf("IsValidEvidence(%v, %v) = %v", r, list, got)
	}
}

func checkPossible(t *testing.T, r impl.Record, list []impl.Dated, dates []int, want, wantOk bool) {
	t.Helper()
	if got, ok := impl.ArePossible(r, list, dates); got != want || ok != wantOk {
		t.Errorf("ArePossible(%v, %v, %v) = %v, %v; want %v, %v", r, list, dates, got, ok, want, wantOk)
	}
}

// checkConflict wants that there is no conflict if the pair is {0, 0}.
func checkConflict(t *testing.T, r impl.Record, list []impl.Dated, pair [2]int, wantOk bool) {
	t.Helper()
	a, b, found, ok := impl.FirstConflict(r, list)
	if a != pair[0] || b != pair[1] || found != (pair[0] != 0) || ok != wantOk {
		t.Errorf("FirstConflict(%v, %v) = %d, %d, %v, %v; want %v, %v", r, list, a, b, found, ok, pair, wantOk)
	}
}

func checkPropagated(t *testing.T, r impl.Record, list []impl.Dated, want []impl.Interval, wantOk bool) {
	t.Helper()
	if got, ok := impl.PropagateDates(r, list); !slices.Equal(got, want) || ok != wantOk {
		t.Errorf("PropagateDates(%v, %v) = %v, %v; want %v, %v", r, list, got, ok, want, wantOk)
	}
}

func checkEarliest(t *testing.T, r impl.Record, list []impl.Dated, want []int, wantOk bool) {
	t.Helper()
	if got, ok := impl.EarliestDates(r, list); !slices.Equal(got, want) || ok != wantOk {
		t.Errorf("EarliestDates(%v, %v) = %v, %v; want %v, %v", r, list, got, ok, want, wantOk)
	}
}

func checkLatest(t *testing.T, r impl.Record, list []impl.Dated, want []int, wantOk bool) {
	t.Helper()
	if got, ok := impl.LatestDates(r, list); !slices.Equal(got, want) || ok != wantOk {
		t.Errorf("LatestDates(%v, %v) = %v, %v; want %v, %v", r, list, got, ok, want, wantOk)
	}
}

func checkAdded(t *testing.T, r impl.Record, list []impl.Dated, x impl.Dated, want []impl.Dated, wantOk bool) {
	t.Helper()
	if got, ok := impl.AddEvidence(r, list, x); !slices.Equal(got, want) || ok != wantOk {
		t.Errorf("AddEvidence(%v, %v, %v) = %v, %v; want %v, %v", r, list, x, got, ok, want, wantOk)
	}
}

func checkSpan(t *testing.T, r impl.Record, list []impl.Dated, want int, wantOk bool) {
	t.Helper()
	if got, ok := impl.ShortestSpan(r, list); got != want || ok != wantOk {
		t.Errorf("ShortestSpan(%v, %v) = %d, %v; want %d, %v", r, list, got, ok, want, wantOk)
	}
}

func checkDecisive(t *testing.T, r impl.Record, list []impl.Dated, want []int, wantOk bool) {
	t.Helper()
	if got, ok := impl.DecisiveEvidence(r, list); !slices.Equal(got, want) || ok != wantOk {
		t.Errorf("DecisiveEvidence(%v, %v) = %v, %v; want %v, %v", r, list, got, ok, want, wantOk)
	}
}

// checkDates wants that there are possible dates, in which the contexts have these intervals.
func checkDates(t *testing.T, r impl.Record, list []impl.Dated, intervals ...impl.Interval) {
	t.Helper()
	earliest, latest := []int{}, []int{}
	for _, x := range intervals {
		earliest = append(earliest, x.From)
		latest = append(latest, x.To)
	}
	checkEvidence(t, r, list, true)
	checkConflict(t, r, list, [2]int{}, true)
	checkPropagated(t, r, list, intervals, true)
	checkEarliest(t, r, list, earliest, true)
	checkLatest(t, r, list, latest, true)
	checkPossible(t, r, list, earliest, true, true)
	checkPossible(t, r, list, latest, true, true)
}

// checkRefused wants that no function which needs possible dates has a result.
func checkRefused(t *testing.T, r impl.Record, list []impl.Dated) {
	t.Helper()
	checkPropagated(t, r, list, nil, false)
	checkEarliest(t, r, list, nil, false)
	checkLatest(t, r, list, nil, false)
	checkSpan(t, r, list, 0, false)
	checkDecisive(t, r, list, nil, false)
}

// checkNoDates wants that the evidence is valid, but has this first conflict.
func checkNoDates(t *testing.T, r impl.Record, list []impl.Dated, a, b int) {
	t.Helper()
	checkEvidence(t, r, list, true)
	checkConflict(t, r, list, [2]int{a, b}, true)
	checkRefused(t, r, list)
	for _, year := range []int{impl.MinYear, list[0].Interval.From, list[0].Interval.To, impl.MaxYear} {
		checkPossible(t, r, list, slices.Repeat([]int{year}, len(r.Contexts)), false, true)
	}
	checkAdded(t, r, list, list[0], list, true)
}

// checkNoEvidence wants that every function refuses these arguments, and leaves the list as it is.
func checkNoEvidence(t *testing.T, r impl.Record, list []impl.Dated) {
	t.Helper()
	before := slices.Clone(list)
	checkEvidence(t, r, list, false)
	checkConflict(t, r, list, [2]int{}, false)
	checkRefused(t, r, list)
	for _, year := range []int{impl.MinYear, 0, 100, impl.MaxYear, impl.MaxYear + 1} {
		for n := range len(r.Contexts) + 2 {
			checkPossible(t, r, list, slices.Repeat([]int{year}, n), false, false)
		}
	}
	for _, number := range append(numbersOf(r), 0, 1, 2) {
		checkAdded(t, r, list, dated(number, 0, 100), nil, false)
		checkAdded(t, r, list, dated(number, 100, 0), nil, false)
	}
	if !slices.Equal(list, before) {
		t.Errorf("the evidence became %v", list)
	}
}

func TestValidEvidence(t *testing.T) {
	for name, list := range map[string][]impl.Dated{
		"none":             nil,
		"empty":            {},
		"some contexts":    pitEvidence(),
		"all contexts":     {dated(4, 1, 2), dated(7, 3, 4), dated(9, 5, 6), dated(10, 7, 8), dated(30, 9, 10), dated(200, 11, 12), dated(999, 13, 14)},
		"the first one":    {dated(4, 0, 0)},
		"the last one":     {dated(999, 0, 1)},
		"both ends":        {dated(4, -1, 1), dated(999, -1, 1)},
		"one year":         {dated(9, 100, 100)},
		"the year 0":       {dated(9, 0, 0)},
		"all years":        {{Number: 9, Interval: anyTime()}},
		"the first year":   {dated(9, impl.MinYear, impl.MinYear)},
		"the last year":    {dated(9, impl.MaxYear, impl.MaxYear)},
		"the second year":  {dated(9, impl.MinYear+1, impl.MinYear+1)},
		"a conflict":       {dated(4, 100, 200), dated(30, 1, 2)},
		"several of them":  {dated(4, 300, 300), dated(9, 7, 7), dated(10, 6, 6), dated(30, 5, 5)},
		"equal intervals":  {dated(4, 7, 8), dated(7, 7, 8), dated(9, 7, 8)},
		"its own order":    {dated(4, 900, 901), dated(7, 10, 11), dated(9, -90, -89)},
		"as strings after": {dated(9, 1, 2), dated(10, 1, 2), dated(30, 1, 2), dated(200, 1, 2)},
	} {
		if !impl.IsValidEvidence(pit(), list) {
			t.Errorf("%s: %v is not valid", name, list)
		}
	}
	for name, r := range matrixSites() {
		if !impl.IsValidEvidence(r, nil) || !impl.IsValidEvidence(r, []impl.Dated{}) {
			t.Errorf("%s: no evidence is not valid", name)
		}
		list := []impl.Dated{}
		for _, n := range numbersOf(r) {
			list = append(list, dated(n, -n, n))
			checkEvidence(t, r, list, true)
		}
	}
}

// flawedIntervals have no year, or bounds that are no years.
func flawedIntervals() []impl.Interval {
	return []impl.Interval{
		between(1, 0), between(101, 100), between(0, -1), between(impl.MaxYear, impl.MinYear),
		between(impl.MinYear+1, impl.MinYear), between(impl.MaxYear, impl.MaxYear-1),
		between(impl.MinYear-1, 0), between(impl.MinYear-1, impl.MinYear), between(impl.MinYear-1, impl.MinYear-1),
		between(impl.MinYear-1, impl.MaxYear), between(0, impl.MaxYear+1), between(impl.MaxYear, impl.MaxYear+1),
		between(impl.MaxYear+1, impl.MaxYear+1), between(impl.MinYear, impl.MaxYear+1), between(impl.MinYear-1, impl.MaxYear+1),
		between(math.MinInt, 0), between(0, math.MaxInt), between(math.MinInt, math.MaxInt), between(math.MaxInt, math.MinInt),
		between(math.MinInt, math.MinInt), between(math.MaxInt, math.MaxInt), between(impl.MaxYear+1, impl.MinYear-1),
	}
}

// noNumbers are Numbers that the pit does not have.
func noNumbers() []int {
	return []int{0, -1, -9, 1, 5, 8, 11, 99, 998, 1000, math.MinInt, math.MaxInt}
}

func TestInvalidEvidence(t *testing.T) {
	list := pitEvidence()
	for i := range list {
		for _, flawed := range flawedIntervals() {
			changed := slices.Clone(list)
			changed[i].Interval = flawed
			checkNoEvidence(t, pit(), changed)
			checkNoEvidence(t, pit(), changed[i:i+1])
		}
		for _, number := range noNumbers() {
			changed := slices.Clone(list)
			changed[i].Number = number
			checkNoEvidence(t, pit(), changed)
			checkNoEvidence(t, pit(), []impl.Dated{dated(number, 1, 2)})
			checkNoEvidence(t, pit(), slices.Insert(slices.Clone(list), i, dated(number, 1, 2)))
		}
		twice := slices.Insert(slices.Clone(list), i, list[i])
		checkNoEvidence(t, pit(), twice)
		twice[i].Interval = between(60, 70)
		checkNoEvidence(t, pit(), twice)
		checkNoEvidence(t, pit(), slices.Concat(list, list[i:i+1]))
		for k := range i {
			swapped := slices.Clone(list)
			swapped[i], swapped[k] = swapped[k], swapped[i]
			checkNoEvidence(t, pit(), swapped)
		}
	}
	checkNoEvidence(t, pit(), backward(list))
	checkNoEvidence(t, pit(), slices.Repeat(list, 2))
	checkNoEvidence(t, pit(), slices.Repeat(list, 1000))
	checkNoEvidence(t, pit(), make([]impl.Dated, 1))
	checkNoEvidence(t, pit(), make([]impl.Dated, 11))
}

// TestNoEvidenceForOtherRecords: every record is without the contexts of another one.
func TestNoEvidenceForOtherRecords(t *testing.T) {
	for name, r := range matrixSites() {
		if name != "pit" {
			checkNoEvidence(t, r, pitEvidence())
		}
	}
	checkNoEvidence(t, impl.Record{}, []impl.Dated{dated(1, 0, 1)})
	checkNoEvidence(t, impl.Record{}, []impl.Dated{dated(0, 0, 0)})
	checkNoEvidence(t, impl.Record{}, make([]impl.Dated, 1))
}

func TestRecordsWithoutDates(t *testing.T) {
	for name, r := range sitesWithoutOrder() {
		before := copyOf(r)
		numbers := numbersOf(r)
		whole := []impl.Dated{}
		for _, n := range numbers {
			whole = append(whole, dated(n, 0, 100))
		}
		checkNoEvidence(t, r, nil)
		checkNoEvidence(t, r, []impl.Dated{})
		checkNoEvidence(t, r, whole)
		for i := range whole {
			checkNoEvidence(t, r, whole[i:i+1])
		}
		checkNoEvidence(t, r, []impl.Dated{dated(1, 0, 100), dated(2, 0, 100)})
		if !sameRecord(r, before) {
			t.Errorf("%s: the argument became %v", name, r)
		}
	}
}

func TestDates(t *testing.T) {
	r, list := pit(), pitEvidence()
	checkDates(t, r, list,
		between(-300, 80), between(impl.MinYear, 150), between(50, 300), between(20, 150), between(50, 300), between(20, 90), anyTime())
	checkSpan(t, r, list, 0, true)
	checkDecisive(t, r, list, []int{4, 9, 10, 30, 200}, true)
	checkPossible(t, r, list, []int{80, 80, 80, 80, 80, 80, 80}, true, true)
	checkPossible(t, r, list, []int{0, 0, 50, 20, 50, 20, 2000}, true, true)
}

func TestDatesWithoutEvidence(t *testing.T) {
	for _, r := range matrixSites() {
		all := slices.Repeat([]impl.Interval{anyTime()}, len(r.Contexts))
		for _, list := range [][]impl.Dated{nil, {}} {
			checkDates(t, r, list, all...)
			checkSpan(t, r, list, 0, true)
			checkDecisive(t, r, list, nil, true)
		}
		for _, n := range numbersOf(r) {
			list := []impl.Dated{{Number: n, Interval: anyTime()}}
			checkDates(t, r, list, all...)
			checkDecisive(t, r, list, nil, true)
		}
	}
}

func TestDatesOfTheEmptyRecord(t *testing.T) {
	for _, r := range []impl.Record{{}, {Contexts: []impl.Context{}, Relations: []impl.Relation{}}} {
		for _, list := range [][]impl.Dated{nil, {}} {
			checkDates(t, r, list)
			checkPossible(t, r, list, nil, true, true)
			checkPossible(t, r, list, []int{}, true, true)
			checkPossible(t, r, list, []int{0}, false, false)
			checkSpan(t, r, list, 0, true)
			checkDecisive(t, r, list, nil, true)
			checkAdded(t, r, list, dated(1, 0, 1), nil, false)
			checkAdded(t, r, list, impl.Dated{}, nil, false)
		}
	}
}

func TestDatesOfOneContext(t *testing.T) {
	r := strata([]int{7})
	for _, x := range []impl.Interval{anyTime(), between(-5, 30), between(0, 0), between(impl.MinYear, impl.MinYear), between(impl.MaxYear, impl.MaxYear), between(impl.MinYear, 4), between(4, impl.MaxYear)} {
		list := []impl.Dated{{Number: 7, Interval: x}}
		checkDates(t, r, list, x)
		checkSpan(t, r, list, 0, true)
		if x == anyTime() {
			checkDecisive(t, r, list, nil, true)
		} else {
			checkDecisive(t, r, list, []int{7}, true)
		}
		checkPossible(t, r, list, []int{x.From - 1}, false, x.From > impl.MinYear)
		checkPossible(t, r, list, []int{x.To + 1}, false, x.To < impl.MaxYear)
	}
}

// TestDatesWithoutRelations: nothing is propagated, and nothing conflicts.
func TestDatesWithoutRelations(t *testing.T) {
	r := strata([]int{3, 20, 100, 300})
	list := []impl.Dated{dated(3, 500, 600), dated(20, 100, 200), dated(100, -700, -650)}
	checkDates(t, r, list, between(500, 600), between(100, 200), between(-700, -650), anyTime())
	checkSpan(t, r, list, 1150, true)
	checkDecisive(t, r, list, []int{3, 20, 100}, true)
	checkPossible(t, r, list, []int{500, 200, -680, 2100}, true, true)
	checkPossible(t, r, list, []int{500, 99, -680, 2100}, false, true)
}

func TestEqualYears(t *testing.T) {
	r := strata([]int{1, 2, 3}, [2]int{2, 1}, [2]int{1, 3})
	for _, year := range []int{impl.MinYear, -1, 0, 1, impl.MaxYear} {
		list := []impl.Dated{dated(1, year, year), dated(2, year, year), dated(3, year, year)}
		for n := range len(list) + 1 {
			checkPossible(t, r, list[:n], []int{year, year, year}, true, true)
			checkSpan(t, r, list[:n], 0, true)
		}
		checkDates(t, r, list, between(year, year), between(year, year), between(year, year))
	}
	checkPossible(t, r, nil, []int{4, 4, 3}, true, true)
	checkPossible(t, r, nil, []int{4, 5, 4}, true, true)
	checkPossible(t, r, nil, []int{4, 5, 3}, true, true)
	checkPossible(t, r, nil, []int{4, 3, 4}, false, true)
	checkPossible(t, r, nil, []int{4, 4, 5}, false, true)
	checkPossible(t, r, nil, []int{4, 3, 5}, false, true)
}

// TestDatesOfUnrelatedContexts: a chain orders 2 and 8, but none 4 and 6.
func TestDatesOfUnrelatedContexts(t *testing.T) {
	r := diamond()
	checkPossible(t, r, nil, []int{9, 7, 5, 3, 1}, true, true)
	checkPossible(t, r, nil, []int{9, 5, 7, 3, 1000}, true, true)
	checkPossible(t, r, nil, []int{7, 5, 7, 5, -1000}, true, true)
	checkPossible(t, r, nil, []int{7, 8, 7, 5, 0}, false, true)
	checkPossible(t, r, nil, []int{7, 5, 7, 6, 0}, false, true)
	list := []impl.Dated{dated(2, 0, 100), dated(8, 50, 200)}
	checkDates(t, r, list, between(50, 100), between(50, 100), between(50, 100), between(50, 100), anyTime())
	list = []impl.Dated{dated(4, 10, 20), dated(6, 30, 40)}
	checkDates(t, r, list, since(2, 30).Interval, between(10, 20), between(30, 40), until(8, 20).Interval, anyTime())
	checkSpan(t, r, list, 10, true)
}

func TestDatesInTheirIntervals(t *testing.T) {
	r := strata([]int{1, 2}, [2]int{1, 2})
	list := []impl.Dated{dated(1, 100, 200), dated(2, 50, 150)}
	for _, dates := range [][]int{{100, 50}, {200, 150}, {150, 150}, {100, 100}, {200, 50}} {
		checkPossible(t, r, list, dates, true, true)
	}
	for _, dates := range [][]int{{99, 50}, {201, 150}, {100, 49}, {200, 151}, {100, 101}, {149, 150}, {impl.MinYear, impl.MinYear}, {impl.MaxYear, impl.MaxYear}} {
		checkPossible(t, r, list, dates, false, true)
	}
	checkPossible(t, r, nil, []int{impl.MaxYear, impl.MinYear}, true, true)
	checkPossible(t, r, nil, []int{impl.MinYear, impl.MinYear}, true, true)
	checkPossible(t, r, nil, []int{impl.MaxYear, impl.MaxYear}, true, true)
	checkPossible(t, r, nil, []int{impl.MinYear, impl.MaxYear}, false, true)
}

// TestListsThatAreNoDates: with and without evidence and conflicts, the functions fail.
func TestListsThatAreNoDates(t *testing.T) {
	r := pit()
	for _, list := range [][]impl.Dated{nil, pitEvidence(), {dated(4, 100, 200), dated(30, 1, 2)}} {
		for n := range 20 {
			if n != len(r.Contexts) {
				checkPossible(t, r, list, slices.Repeat([]int{80}, n), false, false)
			}
		}
		checkPossible(t, r, list, nil, false, false)
		checkPossible(t, r, list, slices.Repeat([]int{80}, 10000), false, false)
		for i := range r.Contexts {
			for _, year := range []int{impl.MinYear - 1, impl.MaxYear + 1, math.MinInt, math.MaxInt, -100000, 100000} {
				dates := slices.Repeat([]int{80}, len(r.Contexts))
				dates[i] = year
				checkPossible(t, r, list, dates, false, false)
			}
		}
	}
}

func TestIntervalsThatShareOneYear(t *testing.T) {
	r := strata([]int{1, 2}, [2]int{1, 2})
	list := []impl.Dated{dated(1, 100, 200), dated(2, 200, 300)}
	checkDates(t, r, list, between(200, 200), between(200, 200))
	checkDecisive(t, r, list, []int{1, 2}, true)
	checkSpan(t, r, list, 0, true)
	list[1].Interval.From++
	checkNoDates(t, r, list, 1, 2)
	list[0].Interval.To++
	checkDates(t, r, list, between(201, 201), between(201, 201))
	// In the other order, they may lie apart.
	list = []impl.Dated{dated(1, 200, 300), dated(2, 100, 199)}
	checkDates(t, r, list, between(200, 300), between(100, 199))
	checkSpan(t, r, list, 1, true)
	list[1].Interval.To++
	checkDates(t, r, list, between(200, 300), between(100, 200))
	checkSpan(t, r, list, 0, true)
}

func TestIntervalsOfOneYear(t *testing.T) {
	r := strata([]int{1, 2}, [2]int{2, 1})
	for _, year := range []int{impl.MinYear + 1, -1, 0, 1, impl.MaxYear - 1} {
		list := []impl.Dated{dated(1, year, year), dated(2, year, year)}
		checkDates(t, r, list, between(year, year), between(year, year))
		checkSpan(t, r, list, 0, true)
		checkDecisive(t, r, list, []int{1, 2}, true)
		list[1] = dated(2, year-1, year-1)
		checkNoDates(t, r, list, 2, 1)
		list[1] = dated(2, year+1, year+1)
		checkDates(t, r, list, between(year, year), between(year+1, year+1))
		checkSpan(t, r, list, 1, true)
	}
	checkNoDates(t, r, []impl.Dated{dated(1, impl.MinYear+1, impl.MinYear+1), dated(2, impl.MinYear, impl.MinYear)}, 2, 1)
	checkNoDates(t, r, []impl.Dated{dated(1, impl.MaxYear, impl.MaxYear), dated(2, impl.MinYear, impl.MinYear)}, 2, 1)
	whole := []impl.Dated{dated(1, impl.MinYear, impl.MinYear), dated(2, impl.MaxYear, impl.MaxYear)}
	checkDates(t, r, whole, whole[0].Interval, whole[1].Interval)
	checkSpan(t, r, whole, impl.MaxYear-impl.MinYear, true)
}

// TestOneYearForEveryContext: the years fall along a chain, and then one of them is too high.
func TestOneYearForEveryContext(t *testing.T) {
	r := ladder(10)
	list, want := []impl.Dated{}, []impl.Interval{}
	for n := 1; n <= 10; n++ {
		list = append(list, dated(n, -10*n, -10*n))
		want = append(want, between(-10*n, -10*n))
	}
	checkDates(t, r, list, want...)
	checkSpan(t, r, list, 90, true)
	checkDecisive(t, r, list, numbersOf(r), true)
	for i := 1; i < 10; i++ {
		changed := slices.Clone(list)
		changed[i].Interval = list[i-1].Interval
		if i < 9 {
			checkDates(t, r, changed, slices.Concat(want[:i], want[i-1:i], want[i+1:])...)
			checkSpan(t, r, changed, 90, true)
		}
		changed[i] = dated(i+1, -10*i+1, -10*i+1)
		checkNoDates(t, r, changed, i, i+1)
	}
}

func TestYearsAtTheEnds(t *testing.T) {
	r := ladder(3)
	first, last := between(impl.MinYear, impl.MinYear), between(impl.MaxYear, impl.MaxYear)
	checkDates(t, r, []impl.Dated{{Number: 1, Interval: first}}, first, first, first)
	checkDates(t, r, []impl.Dated{{Number: 3, Interval: last}}, last, last, last)
	checkDates(t, r, []impl.Dated{{Number: 1, Interval: last}}, last, anyTime(), anyTime())
	checkDates(t, r, []impl.Dated{{Number: 3, Interval: first}}, anyTime(), anyTime(), first)
	checkDates(t, r, []impl.Dated{{Number: 2, Interval: first}}, anyTime(), first, first)
	checkDates(t, r, []impl.Dated{{Number: 2, Interval: last}}, last, last, anyTime())
	checkNoDates(t, r, []impl.Dated{{Number: 1, Interval: first}, {Number: 3, Interval: last}}, 1, 3)
	checkDecisive(t, r, []impl.Dated{{Number: 1, Interval: last}}, []int{1}, true)
	checkDecisive(t, r, []impl.Dated{{Number: 3, Interval: last}}, []int{3}, true)
}

// TestConflictAlongAChain: no relation leads from 1 to 9, and the contexts between have no
// evidence, or some that conflicts with neither of them.
func TestConflictAlongAChain(t *testing.T) {
	r := strata([]int{1, 5, 7, 9}, [2]int{1, 5}, [2]int{5, 7}, [2]int{7, 9})
	list := []impl.Dated{dated(1, 0, 99), dated(9, 100, 200)}
	checkNoDates(t, r, list, 1, 9)
	list = []impl.Dated{dated(1, 0, 99), dated(5, 50, 150), dated(7, 50, 150), dated(9, 100, 200)}
	checkNoDates(t, r, list, 1, 9)
	list[0].Interval.To = 100
	hundred := between(100, 100)
	checkDates(t, r, list, hundred, hundred, hundred, hundred)
	list[0].Interval.To = 120
	checkDates(t, r, list, between(100, 120), between(100, 120), between(100, 120), between(100, 120))
	for n := 2; n <= 10; n++ {
		checkNoDates(t, ladder(n), []impl.Dated{dated(1, 0, 99), dated(n, 100, 200)}, 1, n)
	}
}

func TestConflictAlongARelation(t *testing.T) {
	for _, numbers := range [][]int{{3, 5}, {5, 3}} {
		r := strata([]int{1, 3, 5, 7}, [2]int{numbers[0], numbers[1]})
		list := []impl.Dated{dated(3, 100, 200), dated(5, 100, 200)}
		for i := range list {
			if list[i].Number == numbers[0] {
				list[i].Interval = between(50, 99)
			}
		}
		checkNoDates(t, r, list, numbers[0], numbers[1])
	}
	// The relation is redundant, too.
	checkNoDates(t, with(ladder(4), [2]int{1, 4}), []impl.Dated{until(1, -1), since(4, 0)}, 1, 4)
}

// TestNumbersOfAConflict: every two contexts conflict at first; as strings, 10 and 100 come
// before 9.
func TestNumbersOfAConflict(t *testing.T) {
	r := strata([]int{9, 10, 100}, [2]int{100, 10}, [2]int{10, 9}, [2]int{100, 9})
	list := []impl.Dated{dated(9, 300, 400), dated(10, 200, 250), dated(100, 0, 100)}
	checkNoDates(t, r, list, 10, 9)
	list[1].Interval.To = 300
	checkNoDates(t, r, list, 100, 9)
	list[0].Interval.From = 100
	checkNoDates(t, r, list, 100, 10)
	list[1].Interval.From = 100
	checkDates(t, r, list, between(100, 100), between(100, 100), between(100, 100))
}

// TestFirstOfSeveralConflicts: the pairs are compared by a and then by b, whatever relations
// they have and wherever they stand in the order of the contexts.
func TestFirstOfSeveralConflicts(t *testing.T) {
	r := strata([]int{2, 4, 6, 8}, [2]int{8, 2}, [2]int{6, 4}, [2]int{4, 2})
	list := []impl.Dated{dated(2, 90, 90), dated(4, 70, 70), dated(6, 60, 60), dated(8, 10, 10)}
	checkNoDates(t, r, list, 4, 2)
	list[1].Interval.To = 95
	checkNoDates(t, r, list, 6, 2)
	list[2].Interval.To = 95
	checkNoDates(t, r, list, 8, 2)
	list[3].Interval.To = 95
	checkDates(t, r, list, between(90, 90), between(90, 95), between(90, 95), between(90, 95))
	// Of those of one context, the chain to 3 comes before the relations to 5 and 7.
	r = strata([]int{1, 3, 5, 7}, [2]int{1, 5}, [2]int{1, 7}, [2]int{5, 3})
	list = []impl.Dated{dated(1, 0, 9), dated(3, 10, 20), dated(5, 10, 20), dated(7, 10, 20)}
	checkNoDates(t, r, list, 1, 3)
	list[1].Interval.From = 9
	checkNoDates(t, r, list, 1, 5)
	list[2].Interval.From = 9
	checkNoDates(t, r, list, 1, 7)
	list[3].Interval.From = 9
	checkDates(t, r, list, between(9, 9), between(9, 9), between(9, 9), between(9, 9))
}

// TestPropagationByChains: evidence reaches every context that a chain leads to, in its direction.
func TestPropagationByChains(t *testing.T) {
	r := ladder(10)
	for n := 1; n <= 10; n++ {
		want := []impl.Interval{}
		for m := 1; m <= 10; m++ {
			x := anyTime()
			if m <= n {
				x.From = 100
			}
			if m >= n {
				x.To = 200
			}
			want = append(want, x)
		}
		list := []impl.Dated{dated(n, 100, 200)}
		checkDates(t, r, list, want...)
		checkDecisive(t, r, list, []int{n}, true)
		checkSpan(t, r, list, 0, true)
	}
	// Numbers say nothing about the order: here 1 is the earliest one.
	upward := strata([]int{1, 2, 3}, [2]int{3, 2}, [2]int{2, 1})
	checkDates(t, upward, []impl.Dated{dated(1, 5, 7)}, between(5, 7), since(2, 5).Interval, since(3, 5).Interval)
	checkDates(t, upward, []impl.Dated{dated(3, 5, 7)}, until(1, 7).Interval, until(2, 7).Interval, between(5, 7))
	mixed := strata([]int{1, 2, 3}, [2]int{2, 3}, [2]int{3, 1})
	checkDates(t, mixed, []impl.Dated{dated(1, 5, 7)}, between(5, 7), since(2, 5).Interval, since(3, 5).Interval)
	checkDates(t, mixed, []impl.Dated{dated(2, 5, 7)}, until(1, 7).Interval, between(5, 7), until(3, 7).Interval)
}

func TestAddEvidence(t *testing.T) {
	r, list := pit(), []impl.Dated{dated(7, 100, 200), dated(30, 300, 400)}
	for _, n := range []int{4, 9, 10, 200, 999} {
		for _, x := range []impl.Dated{dated(n, 500, 600), dated(n, 100, 200), dated(n, 8, 8), {Number: n, Interval: anyTime()}} {
			want := slices.Clone(list)
			i := 0
			for i < len(want) && want[i].Number < n {
				i++
			}
			checkAdded(t, r, list, x, slices.Insert(want, i, x), true)
			checkAdded(t, r, nil, x, []impl.Dated{x}, true)
			checkAdded(t, r, []impl.Dated{}, x, []impl.Dated{x}, true)
		}
	}
	for _, c := range []struct{ added, want impl.Interval }{
		{between(150, 300), between(150, 200)},
		{between(50, 150), between(100, 150)},
		{between(120, 130), between(120, 130)},
		{between(50, 300), between(100, 200)},
		{between(100, 200), between(100, 200)},
		{between(200, 300), between(200, 200)},
		{between(0, 100), between(100, 100)},
		{between(150, 150), between(150, 150)},
		{between(100, 100), between(100, 100)},
		{between(200, 200), between(200, 200)},
		{anyTime(), between(100, 200)},
		{between(impl.MinYear, 101), between(100, 101)},
		{between(199, impl.MaxYear), between(199, 200)},
	} {
		want := []impl.Dated{{Number: 7, Interval: c.want}, list[1]}
		checkAdded(t, r, list, impl.Dated{Number: 7, Interval: c.added}, want, true)
	}
	for _, x := range []impl.Interval{between(201, 300), between(0, 99), between(201, 201), between(99, 99), between(impl.MinYear, 99), between(201, impl.MaxYear), between(impl.MinYear, impl.MinYear), between(impl.MaxYear, impl.MaxYear)} {
		checkAdded(t, r, list, impl.Dated{Number: 7, Interval: x}, nil, false)
	}
}

// TestAddEvidenceInAConflict: evidence may conflict, before and after.
func TestAddEvidenceInAConflict(t *testing.T) {
	r := ladder(3)
	list := []impl.Dated{dated(1, 0, 10), dated(3, 20, 30)}
	checkAdded(t, r, list[:1], list[1], list, true)
	checkAdded(t, r, list[1:], list[0], list, true)
	checkAdded(t, r, list, dated(2, 15, 15), []impl.Dated{list[0], dated(2, 15, 15), list[1]}, true)
	checkAdded(t, r, list, dated(3, 0, 25), []impl.Dated{list[0], dated(3, 20, 25)}, true)
	checkAdded(t, r, list, dated(3, 0, 10), nil, false)
}

func TestAddInvalidEvidence(t *testing.T) {
	r := pit()
	for _, list := range [][]impl.Dated{nil, pitEvidence(), {dated(4, 100, 200), dated(30, 1, 2)}} {
		for _, number := range numbersOf(r) {
			for _, x := range flawedIntervals() {
				checkAdded(t, r, list, impl.Dated{Number: number, Interval: x}, nil, false)
			}
		}
		for _, number := range noNumbers() {
			checkAdded(t, r, list, dated(number, 1, 2), nil, false)
		}
		checkAdded(t, r, list, impl.Dated{}, nil, false)
	}
}

func TestShortestSpan(t *testing.T) {
	apart := []impl.Dated{dated(3, 500, 600), dated(20, -100, 200), dated(100, 250, 450)}
	r := strata([]int{3, 20, 100})
	checkSpan(t, r, apart, 300, true)
	checkSpan(t, r, apart[:2], 300, true)
	checkSpan(t, r, apart[1:], 50, true)
	checkSpan(t, r, apart[:1], 0, true)
	checkSpan(t, r, nil, 0, true)
	apart[1].Interval.To = 500
	checkSpan(t, r, apart, 50, true)
	apart[2].Interval.To = 500
	checkSpan(t, r, apart, 0, true)
	apart[0].Interval.From = 501
	checkSpan(t, r, apart, 1, true)
	// Relations let the intervals be as they are.
	checkSpan(t, ladder(3), []impl.Dated{dated(1, 500, 600), dated(2, -100, 550), dated(3, -100, 200)}, 300, true)
	checkSpan(t, ladder(3), []impl.Dated{dated(1, 500, 600), dated(3, -100, 200)}, 300, true)
	checkSpan(t, ladder(3), []impl.Dated{dated(1, 150, 600), dated(3, -100, 200)}, 0, true)
	checkSpan(t, ladder(3), []impl.Dated{dated(1, 5, 6), dated(2, 5, 6), dated(3, 5, 6)}, 0, true)
}

func TestDecisiveEvidence(t *testing.T) {
	r := ladder(3)
	first, last := dated(1, 100, 200), dated(3, 100, 200)
	checkDecisive(t, r, []impl.Dated{first, last}, []int{1, 3}, true)
	checkDecisive(t, r, []impl.Dated{first, dated(2, 100, 200), last}, []int{1, 3}, true)
	checkDecisive(t, r, []impl.Dated{first, dated(2, 50, 250), last}, []int{1, 3}, true)
	checkDecisive(t, r, []impl.Dated{first, dated(2, 101, 200), last}, []int{1, 2, 3}, true)
	checkDecisive(t, r, []impl.Dated{first, dated(2, 100, 199), last}, []int{1, 2, 3}, true)
	checkDecisive(t, r, []impl.Dated{dated(2, 100, 200)}, []int{2}, true)
	checkDecisive(t, r, []impl.Dated{first, dated(2, 100, 200)}, []int{1, 2}, true)
	checkDecisive(t, r, []impl.Dated{dated(2, 100, 200), last}, []int{2, 3}, true)
	// One end alone can decide, or both can be known from others.
	checkDecisive(t, r, []impl.Dated{until(1, 200), until(2, 200)}, []int{1}, true)
	checkDecisive(t, r, []impl.Dated{until(1, 200), until(2, 199)}, []int{1, 2}, true)
	checkDecisive(t, r, []impl.Dated{since(2, 100), since(3, 100)}, []int{3}, true)
	checkDecisive(t, r, []impl.Dated{since(2, 101), since(3, 100)}, []int{2, 3}, true)
	checkDecisive(t, r, []impl.Dated{since(1, 100), since(3, 100)}, []int{3}, true)
	checkDecisive(t, r, []impl.Dated{until(1, 100), until(3, 100)}, []int{1}, true)
}

// TestEvidenceThatDecidesNothing: all years are no restriction, beside others as well as alone.
func TestEvidenceThatDecidesNothing(t *testing.T) {
	r := pit()
	for _, n := range numbersOf(r) {
		list, ok := impl.AddEvidence(r, []impl.Dated{dated(10, 100, 200)}, impl.Dated{Number: n, Interval: anyTime()})
		if !ok {
			t.Errorf("no evidence for %d is added", n)
		}
		checkDecisive(t, r, list, []int{10}, true)
	}
	all := []impl.Dated{}
	for _, n := range numbersOf(r) {
		all = append(all, impl.Dated{Number: n, Interval: anyTime()})
	}
	checkDecisive(t, r, all, nil, true)
}

// TestEvidenceThatDecidesTogether: only both give the one year of 2; what says it again then
// decides nothing, but without one of them it does.
func TestEvidenceThatDecidesTogether(t *testing.T) {
	r := ladder(3)
	last, year, first := until(1, 100), dated(2, 100, 100), since(3, 100)
	hundred := between(100, 100)
	checkDates(t, r, []impl.Dated{last, first}, hundred, hundred, hundred)
	checkDates(t, r, []impl.Dated{last}, last.Interval, last.Interval, last.Interval)
	checkDates(t, r, []impl.Dated{first}, first.Interval, first.Interval, first.Interval)
	checkDecisive(t, r, []impl.Dated{last, first}, []int{1, 3}, true)
	checkDecisive(t, r, []impl.Dated{last, year, first}, []int{1, 3}, true)
	checkDecisive(t, r, []impl.Dated{last, year}, []int{1, 2}, true)
	checkDecisive(t, r, []impl.Dated{year, first}, []int{2, 3}, true)
	checkDecisive(t, r, []impl.Dated{year}, []int{2}, true)
	// The years of 2 are those of 1 and 3 together, and 2 decides only if one of these is missing.
	list := []impl.Dated{dated(1, 0, 70), dated(2, 30, 70), dated(3, 30, 90)}
	checkDecisive(t, r, list, []int{1, 3}, true)
	checkDecisive(t, r, list[:2], []int{1, 2}, true)
	checkDecisive(t, r, list[1:], []int{2, 3}, true)
}

// plainDates holds a consistent record, evidence for it, and the years in which possible dates
// are looked for.
type plainDates struct {
	r     impl.Record
	list  []impl.Dated
	years []int
	later map[[2]int]bool
}

func (p plainDates) interval(number int) impl.Interval {
	for _, x := range p.list {
		if x.Number == number {
			return x.Interval
		}
	}
	return anyTime()
}

// possible lists the possible dates; allowed reports whether a year fits those of the contexts before.
func (p plainDates) possible() [][]int {
	all := [][]int{}
	numbers := numbersOf(p.r)
	allowed := func(start []int, year int) bool {
		n := numbers[len(start)]
		for i, before := range start {
			if p.later[[2]int{n, numbers[i]}] && year < before || p.later[[2]int{numbers[i], n}] && before < year {
				return false
			}
		}
		return true
	}
	var extend func(start []int)
	extend = func(start []int) {
		if len(start) == len(numbers) {
			all = append(all, slices.Clone(start))
			return
		}
		x := p.interval(numbers[len(start)])
		for _, year := range p.years {
			if x.From <= year && year <= x.To && allowed(start, year) {
				extend(append(start, year))
			}
		}
	}
	extend([]int{})
	return all
}

func (p plainDates) conflict() [2]int {
	for _, a := range numbersOf(p.r) {
		for _, b := range numbersOf(p.r) {
			if p.later[[2]int{a, b}] && p.interval(a).To < p.interval(b).From {
				return [2]int{a, b}
			}
		}
	}
	return [2]int{}
}

// bounds returns the smallest and greatest year of every context, and the shortest span.
func (p plainDates) bounds() ([]impl.Interval, int) {
	all := p.possible()
	intervals := []impl.Interval{}
	for i := range p.r.Contexts {
		x := between(all[0][i], all[0][i])
		for _, dates := range all {
			x = between(min(x.From, dates[i]), max(x.To, dates[i]))
		}
		intervals = append(intervals, x)
	}
	span := 0
	for i, dates := range all {
		if len(dates) > 0 && (i == 0 || slices.Max(dates)-slices.Min(dates) < span) {
			span = slices.Max(dates) - slices.Min(dates)
		}
	}
	return intervals, span
}

func (p plainDates) decisive(intervals []impl.Interval) []int {
	numbers := []int{}
	for i, x := range p.list {
		q := p
		q.list = slices.Delete(slices.Clone(p.list), i, i+1)
		if others, _ := q.bounds(); !slices.Equal(others, intervals) {
			numbers = append(numbers, x.Number)
		}
	}
	return numbers
}

// checkWholeDates holds every function against the list of all possible dates, and reports
// whether there are any.
func (p plainDates) checkWholeDates(t *testing.T) bool {
	t.Helper()
	all, pair := p.possible(), p.conflict()
	if (len(all) > 0) != (pair == [2]int{}) {
		t.Errorf("%v, %v: %d possible dates, and the conflict %v", p.r, p.list, len(all), pair)
	}
	if len(all) == 0 {
		checkNoDates(t, p.r, p.list, pair[0], pair[1])
		return false
	}
	intervals, span := p.bounds()
	checkDates(t, p.r, p.list, intervals...)
	checkSpan(t, p.r, p.list, span, true)
	checkDecisive(t, p.r, p.list, p.decisive(intervals), true)
	return true
}

// checkEveryDate passes every list of the years.
func (p plainDates) checkEveryDate(t *testing.T) {
	t.Helper()
	free := plainDates{strata(numbersOf(p.r)), nil, p.years, nil}
	possible := p.possible()
	for _, dates := range free.possible() {
		// Both lists are in the same order.
		want := len(possible) > 0 && slices.Equal(possible[0], dates)
		if want {
			possible = possible[1:]
		}
		checkPossible(t, p.r, p.list, dates, want, true)
	}
}

// intervalsWithin returns all intervals of the years 1 to last, and before them nil.
func intervalsWithin(last int) []*impl.Interval {
	intervals := []*impl.Interval{nil}
	for from := 1; from <= last; from++ {
		for to := from; to <= last; to++ {
			x := between(from, to)
			intervals = append(intervals, &x)
		}
	}
	return intervals
}

// yearsUpTo returns 1 to last, and the years that no evidence is needed for.
func yearsUpTo(last int) []int {
	years := []int{impl.MinYear}
	for year := 1; year <= last; year++ {
		years = append(years, year)
	}
	return append(years, impl.MaxYear)
}

// eachEvidence calls use with every evidence for contexts in the years 1 to last.
func eachEvidence(numbers []int, last int, use func(list []impl.Dated)) {
	intervals := intervalsWithin(last)
	var extend func(list []impl.Dated, left []int)
	extend = func(list []impl.Dated, left []int) {
		if len(left) == 0 {
			use(list)
			return
		}
		for _, x := range intervals {
			if x == nil {
				extend(list, left[1:])
			} else {
				extend(append(slices.Clone(list), impl.Dated{Number: left[0], Interval: *x}), left[1:])
			}
		}
	}
	extend([]impl.Dated{}, numbers)
}

func TestEveryEvidenceForFewContexts(t *testing.T) {
	tested := [2]int{}
	for _, r := range recordsOfFewContexts() {
		consistent, _ := impl.IsConsistent(r)
		numbers := numbersOf(r)
		if !consistent || len(numbers) > 3 {
			continue
		}
		later := laterPairs(r)
		last := 6 - len(numbers)
		eachEvidence(numbers, last, func(list []impl.Dated) {
			p := plainDates{r, list, yearsUpTo(last), later}
			if p.checkWholeDates(t) {
				tested[0]++
			} else {
				tested[1]++
			}
			p.checkEveryDate(t)
		})
	}
	if tested[0] < 1000 || tested[1] < 100 {
		t.Errorf("of all evidence, %d have possible dates, and %d have none", tested[0], tested[1])
	}
}

// chosenEvidence leaves one context in four without evidence; if it is to be possible, the
// intervals contain years that fall with the order of the contexts, from high to 0.
func chosenEvidence(source *rand.Rand, r impl.Record, high int, possible bool) []impl.Dated {
	order, _ := impl.ContextOrder(r)
	list := []impl.Dated{}
	for _, n := range numbersOf(r) {
		if source.Intn(4) == 0 {
			continue
		}
		year := source.Intn(high + 1)
		if possible {
			year = high - high*slices.Index(order, n)/len(order)
		}
		from, to := year, year
		if source.Intn(4) > 0 {
			from, to = max(0, year-source.Intn(high)), min(high, year+source.Intn(high))
		}
		list = append(list, dated(n, from, to))
	}
	return list
}

func TestChosenEvidenceForFourContexts(t *testing.T) {
	source := rand.New(rand.NewSource(9))
	tested := [2]int{}
	for _, r := range recordsOfFewContexts() {
		consistent, _ := impl.IsConsistent(r)
		if !consistent || len(r.Contexts) < 4 {
			continue
		}
		later := laterPairs(r)
		for _, possible := range []bool{false, true} {
			list := chosenEvidence(source, r, 4, possible)
			p := plainDates{r, list, append(yearsUpTo(4), 0), later}
			slices.Sort(p.years)
			if p.checkWholeDates(t) {
				tested[0]++
			} else {
				tested[1]++
			}
			if source.Intn(20) == 0 {
				p.checkEveryDate(t)
			}
		}
	}
	if tested[0] < 500 || tested[1] < 100 {
		t.Errorf("of the chosen evidence, %d have possible dates, and %d have none", tested[0], tested[1])
	}
}

// hasDates reports whether there are possible dates with further evidence for a context.
func hasDates(t *testing.T, r impl.Record, list []impl.Dated, more ...impl.Dated) bool {
	t.Helper()
	for _, x := range more {
		added, ok := impl.AddEvidence(r, list, x)
		if !ok {
			return false
		}
		checkEvidence(t, r, added, true)
		list = added
	}
	_, _, found, ok := impl.FirstConflict(r, list)
	if !ok {
		t.Errorf("FirstConflict(%v, %v) fails", r, list)
	}
	return !found
}

// checkBounds checks in the results alone that the intervals of the contexts are the closest ones.
func checkBounds(t *testing.T, r impl.Record, list []impl.Dated, intervals []impl.Interval) {
	t.Helper()
	for i, n := range numbersOf(r) {
		x := intervals[i]
		for _, year := range []int{x.From, (x.From + x.To) / 2, x.To} {
			if !hasDates(t, r, list, dated(n, year, year)) {
				t.Errorf("%v, %v: %d cannot have the year %d of %v", r, list, n, year, x)
			}
		}
		if x.From > impl.MinYear && hasDates(t, r, list, until(n, x.From-1)) || x.To < impl.MaxYear && hasDates(t, r, list, since(n, x.To+1)) {
			t.Errorf("%v, %v: %d can have a year outside %v", r, list, n, x)
		}
	}
}

// checkDatesWithin passes dates that lie as close to a year as the intervals let them, and the
// same with one year outside its interval.
func checkDatesWithin(t *testing.T, r impl.Record, list []impl.Dated, intervals []impl.Interval, year int) {
	t.Helper()
	dates := []int{}
	for _, x := range intervals {
		dates = append(dates, max(x.From, min(year, x.To)))
	}
	checkPossible(t, r, list, dates, true, true)
	for i, x := range intervals {
		changed := slices.Clone(dates)
		changed[i] = x.From - 1
		checkPossible(t, r, list, changed, false, x.From > impl.MinYear)
		changed[i] = x.To + 1
		checkPossible(t, r, list, changed, false, x.To < impl.MaxYear)
	}
}

// checkWindows checks in the results alone that dates fit in a window of the span, and in none
// that is a year shorter.
func checkWindows(t *testing.T, r impl.Record, list []impl.Dated) {
	t.Helper()
	span, ok := impl.ShortestSpan(r, list)
	if !ok || span < 0 {
		t.Errorf("ShortestSpan(%v, %v) = %d, %v", r, list, span, ok)
	}
	fits := func(from, length int) bool {
		more := []impl.Dated{}
		for _, n := range numbersOf(r) {
			more = append(more, dated(n, max(impl.MinYear, from), min(impl.MaxYear, from+length)))
		}
		return hasDates(t, r, list, more...)
	}
	found := len(list) == 0
	for _, x := range list {
		for _, from := range []int{x.Interval.From, x.Interval.To, x.Interval.From - span, x.Interval.To - span} {
			found = found || fits(from, span)
			if span > 0 && (fits(from, span-1) || fits(from+1, span-1)) {
				t.Errorf("%v, %v: the span %d is not the shortest", r, list, span)
			}
		}
	}
	if !found {
		t.Errorf("%v, %v: no dates have the span %d", r, list, span)
	}
}

// checkDeciding checks in the results alone which evidence is decisive, and that the rest can be
// left out together.
func checkDeciding(t *testing.T, r impl.Record, list []impl.Dated, intervals []impl.Interval) {
	t.Helper()
	decisive, ok := impl.DecisiveEvidence(r, list)
	if !ok {
		t.Errorf("DecisiveEvidence(%v, %v) fails", r, list)
	}
	kept := []impl.Dated{}
	for i, x := range list {
		others, _ := impl.PropagateDates(r, slices.Delete(slices.Clone(list), i, i+1))
		if slices.Contains(decisive, x.Number) == slices.Equal(others, intervals) {
			t.Errorf("DecisiveEvidence(%v, %v) = %v; without %v: %v", r, list, decisive, x, others)
		}
		if slices.Contains(decisive, x.Number) {
			kept = append(kept, x)
		}
	}
	checkPropagated(t, r, kept, intervals, true)
	if len(kept) != len(decisive) || !slices.IsSorted(decisive) {
		t.Errorf("DecisiveEvidence(%v, %v) = %v", r, list, decisive)
	}
}

// checkPromisedDates checks promise 9 in the results alone, and reports whether there are dates.
func checkPromisedDates(t *testing.T, source *rand.Rand, r impl.Record, list []impl.Dated, high int) bool {
	t.Helper()
	a, b, found, ok := impl.FirstConflict(r, list)
	intervals, has := impl.PropagateDates(r, list)
	if !ok || has == found {
		t.Errorf("%v, %v: conflict %v, %v, possible dates %v", r, list, found, ok, has)
	}
	if found {
		checkNoDates(t, r, list, a, b)
		p := plainDates{r, list, nil, nil}
		if later, _ := impl.IsLater(r, a, b); !later || p.interval(a).To >= p.interval(b).From {
			t.Errorf("%v, %v: %d and %d do not conflict", r, list, a, b)
		}
		for range 10 {
			dates := []int{}
			for _, n := range numbersOf(r) {
				x := p.interval(n)
				dates = append(dates, x.From+source.Intn(x.To-x.From+1))
			}
			checkPossible(t, r, list, dates, false, true)
		}
		return false
	}
	checkDates(t, r, list, intervals...)
	checkBounds(t, r, list, intervals)
	for range 5 {
		checkDatesWithin(t, r, list, intervals, source.Intn(high+1))
	}
	checkWindows(t, r, list)
	checkDeciding(t, r, list, intervals)
	return true
}

func TestPossibleDatesExactlyWithoutConflict(t *testing.T) {
	source := rand.New(rand.NewSource(99))
	tested := [2]int{}
	for _, r := range consistentRecords(source) {
		for _, high := range []int{8, 1000} {
			for _, possible := range []bool{false, true, true} {
				list := chosenEvidence(source, r, high, possible)
				if checkPromisedDates(t, source, r, list, high) {
					tested[0]++
				} else {
					tested[1]++
				}
			}
		}
	}
	if tested[0] < 300 || tested[1] < 100 {
		t.Errorf("of the chosen evidence, %d have possible dates, and %d have none", tested[0], tested[1])
	}
}

// TestAddedEvidence holds added evidence against the common years of both intervals.
func TestAddedEvidence(t *testing.T) {
	r := strata([]int{2, 9, 10, 111}, [2]int{2, 9}, [2]int{111, 9})
	source := rand.New(rand.NewSource(999))
	for range 500 {
		list := chosenEvidence(source, r, 6, false)
		for _, x := range chosenEvidence(source, r, 6, false) {
			want, known := []impl.Dated{}, false
			for _, n := range numbersOf(r) {
				p := plainDates{r: r, list: list}
				i := slices.IndexFunc(list, func(y impl.Dated) bool { return y.Number == n })
				known = known || i >= 0 && n == x.Number
				years := p.interval(n)
				if n == x.Number {
					years = between(max(years.From, x.Interval.From), min(years.To, x.Interval.To))
				}
				if i >= 0 || n == x.Number {
					want = append(want, impl.Dated{Number: n, Interval: years})
				}
			}
			i := slices.IndexFunc(want, func(y impl.Dated) bool { return y.Interval.From > y.Interval.To })
			if i >= 0 {
				want = nil
			}
			checkAdded(t, r, list, x, want, i < 0)
			if !known && i >= 0 {
				t.Errorf("%v has no evidence for %d", list, x.Number)
			}
		}
	}
}

// dateLists calls every function of the chapter that returns lists of numbers.
func dateLists(r impl.Record, list []impl.Dated) [][]int {
	earliest, _ := impl.EarliestDates(r, list)
	latest, _ := impl.LatestDates(r, list)
	decisive, _ := impl.DecisiveEvidence(r, list)
	return [][]int{earliest, latest, decisive}
}

func propagatedLists(r impl.Record, list []impl.Dated) [][]impl.Interval {
	first, _ := impl.PropagateDates(r, list)
	second, _ := impl.PropagateDates(r, list)
	return [][]impl.Interval{first, second}
}

// evidenceLists adds evidence for contexts with and without some.
func evidenceLists(r impl.Record, list []impl.Dated) [][]impl.Dated {
	all := [][]impl.Dated{}
	for _, n := range numbersOf(r) {
		whole, _ := impl.AddEvidence(r, list, impl.Dated{Number: n, Interval: anyTime()})
		part, _ := impl.AddEvidence(r, list, dated(n, 3, 6))
		all = append(all, whole, part)
	}
	return all
}

// checkMemoryOfDates passes slices that have more elements beyond their lengths.
func checkMemoryOfDates(t *testing.T, name string, plain impl.Record, list []impl.Dated) {
	t.Helper()
	whole, r := lengthened(plain)
	wholeList := append(slices.Clone(list), dated(1000, 5, 4), dated(1, 8, 9))
	wholeDates := append(slices.Repeat([]int{7}, len(r.Contexts)), impl.MaxYear+1, 6)
	before, listBefore, datesBefore := copyOf(whole), slices.Clone(wholeList), slices.Clone(wholeDates)
	part, dates := wholeList[:len(list)], wholeDates[:len(r.Contexts)]
	wantDates, wantIntervals, wantEvidence := dateLists(plain, list), propagatedLists(plain, list), evidenceLists(plain, list)
	checkSeparate(t, name, dateLists(r, part), wantDates)
	checkSeparate(t, name, backward(dateLists(r, part)), backward(wantDates))
	checkSeparate(t, name, propagatedLists(r, part), wantIntervals)
	checkSeparate(t, name, evidenceLists(r, part), wantEvidence)
	checkSeparate(t, name, backward(evidenceLists(r, part)), backward(wantEvidence))
	checkEvidence(t, r, part, true)
	wantPossible, _ := impl.ArePossible(plain, list, slices.Clone(dates))
	checkPossible(t, r, part, dates, wantPossible, true)
	a, b, _, _ := impl.FirstConflict(plain, list)
	checkConflict(t, r, part, [2]int{a, b}, true)
	span, ok := impl.ShortestSpan(plain, list)
	checkSpan(t, r, part, span, ok)
	if !sameRecord(whole, before) || !slices.Equal(wholeList, listBefore) || !slices.Equal(wholeDates, datesBefore) {
		t.Errorf("%s: the arguments became %v, %v, %v", name, whole, wholeList, wholeDates)
	}
}

func TestMemoryOfDates(t *testing.T) {
	checkMemoryOfDates(t, "pit", pit(), pitEvidence())
	source := rand.New(rand.NewSource(9999))
	for name, r := range matrixSites() {
		checkMemoryOfDates(t, name, r, nil)
		for range 10 {
			checkMemoryOfDates(t, name, r, chosenEvidence(source, r, 9, false))
			checkMemoryOfDates(t, name, r, chosenEvidence(source, r, 9, true))
		}
	}
}

// TestDateFunctionsLeaveTheirArguments passes dates in every order, most of them not possible.
func TestDateFunctionsLeaveTheirArguments(t *testing.T) {
	r := diamond()
	list := []impl.Dated{dated(2, 1, 5), dated(6, 2, 4)}
	for _, order := range allOrders([]int{1, 2, 3, 4, 5}) {
		dates := slices.Clone(order)
		impl.ArePossible(r, list, dates)
		impl.ArePossible(r, nil, dates)
		if !slices.Equal(dates, order) {
			t.Errorf("the dates became %v", dates)
		}
	}
	if !sameRecord(r, diamond()) || !slices.Equal(list, []impl.Dated{dated(2, 1, 5), dated(6, 2, 4)}) {
		t.Errorf("the arguments became %v, %v", r, list)
	}
}
