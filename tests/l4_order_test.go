package tests

import (
	"cmp"
	"math"
	"math/rand"
	"slices"
	"testing"

	"loop.example/g00876/impl"
)

// strata returns the record of deposits with these numbers and relations, each in any order.
func strata(numbers []int, relations ...[2]int) impl.Record {
	r := impl.Record{}
	for _, n := range slices.Sorted(slices.Values(numbers)) {
		r.Contexts = append(r.Contexts, impl.Context{Number: n, Kind: impl.KindDeposit})
	}
	for _, x := range relations {
		r.Relations = append(r.Relations, impl.Relation{Upper: x[0], Lower: x[1]})
	}
	slices.SortFunc(r.Relations, func(a, b impl.Relation) int {
		return cmp.Or(cmp.Compare(a.Upper, b.Upper), cmp.Compare(a.Lower, b.Lower))
	})
	return r
}

// pit has no contradiction; its Numbers have one, two and three digits.
func pit() impl.Record {
	return strata([]int{4, 7, 9, 10, 30, 200, 999},
		[2]int{30, 9}, [2]int{30, 10}, [2]int{9, 200}, [2]int{10, 200}, [2]int{10, 7}, [2]int{200, 4}, [2]int{30, 200})
}

// fullKnot meets both limits, and each of its contexts is later than all of them: every context
// lies above the next one, 10 above 1, and the first seven above the second and third one after
// them as well.
func fullKnot() impl.Record {
	relations := [][2]int{}
	for i := range 10 {
		relations = append(relations, [2]int{1 + i, 1 + (i+1)%10})
	}
	for i := range 7 {
		relations = append(relations, [2]int{1 + i, 1 + (i+2)%10}, [2]int{1 + i, 1 + (i+3)%10})
	}
	return strata([]int{1, 2, 3, 4, 5, 6, 7, 8, 9, 10}, relations...)
}

func numbersOf(r impl.Record) []int {
	list := []int{}
	for _, c := range r.Contexts {
		list = append(list, c.Number)
	}
	return list
}

func checkLater(t *testing.T, r impl.Record, a, b int, want, wantOk bool) {
	t.Helper()
	if got, ok := impl.IsLater(r, a, b); got != want || ok != wantOk {
		t.Errorf("IsLater(%v, %d, %d) = %v, %v; want %v, %v", r, a, b, got, ok, want, wantOk)
	}
}

func checkConsistent(t *testing.T, r impl.Record, want, wantOk bool) {
	t.Helper()
	if got, ok := impl.IsConsistent(r); got != want || ok != wantOk {
		t.Errorf("IsConsistent(%v) = %v, %v; want %v, %v", r, got, ok, want, wantOk)
	}
}

func checkLaterContexts(t *testing.T, r impl.Record, number int, want []int, wantOk bool) {
	t.Helper()
	if got, ok := impl.LaterContexts(r, number); !slices.Equal(got, want) || ok != wantOk {
		t.Errorf("LaterContexts(%v, %d) = %v, %v; want %v, %v", r, number, got, ok, want, wantOk)
	}
}

func checkEarlierContexts(t *testing.T, r impl.Record, number int, want []int, wantOk bool) {
	t.Helper()
	if got, ok := impl.EarlierContexts(r, number); !slices.Equal(got, want) || ok != wantOk {
		t.Errorf("EarlierContexts(%v, %d) = %v, %v; want %v, %v", r, number, got, ok, want, wantOk)
	}
}

// checkChain wants that there is no chain if want is empty.
func checkChain(t *testing.T, r impl.Record, a, b int, want []int, wantOk bool) {
	t.Helper()
	got, found, ok := impl.ShortestChain(r, a, b)
	if !slices.Equal(got, want) || found != (len(want) > 0) || ok != wantOk {
		t.Errorf("ShortestChain(%v, %d, %d) = %v, %v, %v; want %v, %v", r, a, b, got, found, ok, want, wantOk)
	}
}

// checkCycle wants that there is no cycle if want is empty.
func checkCycle(t *testing.T, r impl.Record, want []int, wantOk bool) {
	t.Helper()
	got, found, ok := impl.ShortestCycle(r)
	if !slices.Equal(got, want) || found != (len(want) > 0) || ok != wantOk {
		t.Errorf("ShortestCycle(%v) = %v, %v, %v; want %v, %v", r, got, found, ok, want, wantOk)
	}
}

func checkOrder(t *testing.T, r impl.Record, want []int, wantOk bool) {
	t.Helper()
	if got, ok := impl.ContextOrder(r); !slices.Equal(got, want) || ok != wantOk {
		t.Errorf("ContextOrder(%v) = %v, %v; want %v, %v", r, got, ok, want, wantOk)
	}
}

func checkPairs(t *testing.T, r impl.Record, want [][2]int, wantOk bool) {
	t.Helper()
	if got, ok := impl.UnrelatedPairs(r); !slices.Equal(got, want) || ok != wantOk {
		t.Errorf("UnrelatedPairs(%v) = %v, %v; want %v, %v", r, got, ok, want, wantOk)
	}
}

func checkEnds(t *testing.T, r impl.Record, latest, earliest []int, wantOk bool) {
	t.Helper()
	a, b, ok := impl.EndContexts(r)
	if !slices.Equal(a, latest) || !slices.Equal(b, earliest) || ok != wantOk {
		t.Errorf("EndContexts(%v) = %v, %v, %v; want %v, %v, %v", r, a, b, ok, latest, earliest, wantOk)
	}
}

// checkNoContexts calls the functions of contexts with a context that r does not have, alone and
// together with contexts of r.
func checkNoContexts(t *testing.T, r impl.Record, number int) {
	t.Helper()
	checkLaterContexts(t, r, number, nil, false)
	checkEarlierContexts(t, r, number, nil, false)
	for _, other := range append(numbersOf(r), number) {
		checkLater(t, r, number, other, false, false)
		checkLater(t, r, other, number, false, false)
		checkChain(t, r, number, other, nil, false)
		checkChain(t, r, other, number, nil, false)
	}
}

// checkEarlier holds what the functions say about being later against the contexts that every
// context of r is later than.
func checkEarlier(t *testing.T, r impl.Record, earlier map[int][]int) {
	t.Helper()
	consistent := true
	for _, a := range numbersOf(r) {
		later := []int{}
		for _, b := range numbersOf(r) {
			checkLater(t, r, a, b, slices.Contains(earlier[a], b), true)
			if slices.Contains(earlier[b], a) {
				later = append(later, b)
			}
		}
		checkLaterContexts(t, r, a, later, true)
		checkEarlierContexts(t, r, a, earlier[a], true)
		consistent = consistent && !slices.Contains(earlier[a], a)
	}
	checkConsistent(t, r, consistent, true)
}

func TestBeingLater(t *testing.T) {
	checkEarlier(t, pit(), map[int][]int{
		4: {}, 7: {}, 9: {4, 200}, 10: {4, 7, 200}, 30: {4, 7, 9, 10, 200}, 200: {4}, 999: {},
	})
	checkEarlier(t, trench(), map[int][]int{
		2: {2, 3, 5, 13, 21}, 3: {2, 3, 5, 13, 21}, 5: {13, 21}, 8: {13}, 13: {}, 21: {13}, 34: {},
	})
	checkEarlier(t, strata([]int{5, 6}, [2]int{6, 5}), map[int][]int{5: {}, 6: {5}})
	checkEarlier(t, strata([]int{5, 6}, [2]int{5, 6}, [2]int{6, 5}), map[int][]int{5: {5, 6}, 6: {5, 6}})
	checkEarlier(t, strata([]int{1, 2, 3}, [2]int{1, 3}, [2]int{3, 2}, [2]int{2, 1}), map[int][]int{1: {1, 2, 3}, 2: {1, 2, 3}, 3: {1, 2, 3}})
	checkEarlier(t, strata([]int{1, 2, 3, 4}, [2]int{1, 2}, [2]int{2, 3}, [2]int{3, 2}, [2]int{3, 4}), map[int][]int{1: {2, 3, 4}, 2: {2, 3, 4}, 3: {2, 3, 4}, 4: {}})
}

func TestShortestChain(t *testing.T) {
	r := pit()
	checkChain(t, r, 30, 9, []int{30, 9}, true)
	checkChain(t, r, 30, 200, []int{30, 200}, true)
	checkChain(t, r, 30, 4, []int{30, 200, 4}, true)
	checkChain(t, r, 30, 7, []int{30, 10, 7}, true)
	checkChain(t, r, 9, 4, []int{9, 200, 4}, true)
	checkChain(t, r, 4, 9, nil, true)
	checkChain(t, r, 9, 10, nil, true)
	checkChain(t, r, 999, 4, nil, true)
	checkChain(t, r, 4, 999, nil, true)
	for _, n := range numbersOf(r) {
		checkChain(t, r, n, n, nil, true)
	}
}

func TestShortestOfSeveralChains(t *testing.T) {
	texts := strata([]int{1, 9, 10, 100}, [2]int{1, 9}, [2]int{1, 10}, [2]int{9, 100}, [2]int{10, 100})
	checkChain(t, texts, 1, 100, []int{1, 9, 100}, true)
	// The context before the last one is smaller in the other chain.
	crossed := strata([]int{1, 2, 3, 4, 5, 6}, [2]int{1, 2}, [2]int{1, 3}, [2]int{2, 5}, [2]int{3, 4}, [2]int{4, 6}, [2]int{5, 6})
	checkChain(t, crossed, 1, 6, []int{1, 2, 5, 6}, true)
	// The smallest second context begins a longer chain, or leads nowhere.
	longer := strata([]int{1, 2, 3, 4, 5, 6}, [2]int{1, 2}, [2]int{2, 3}, [2]int{3, 6}, [2]int{1, 4}, [2]int{1, 5}, [2]int{4, 6}, [2]int{5, 6})
	checkChain(t, longer, 1, 6, []int{1, 4, 6}, true)
	checkChain(t, longer, 1, 5, []int{1, 5}, true)
	upward := strata([]int{1, 2, 3, 4, 5}, [2]int{5, 2}, [2]int{5, 3}, [2]int{5, 4}, [2]int{3, 1}, [2]int{4, 1})
	checkChain(t, upward, 5, 1, []int{5, 3, 1}, true)
	checkChain(t, upward, 1, 5, nil, true)
}

func TestChainsThatEndWhereTheyBegin(t *testing.T) {
	r := trench()
	checkChain(t, r, 2, 2, []int{2, 3, 2}, true)
	checkChain(t, r, 3, 3, []int{3, 2, 3}, true)
	checkChain(t, r, 5, 5, nil, true)
	checkChain(t, r, 34, 34, nil, true)
	checkChain(t, r, 2, 13, []int{2, 3, 13}, true)
	checkChain(t, r, 3, 21, []int{3, 5, 21}, true)
	// 1 is above the cycle, 6 below it.
	loop := strata([]int{1, 2, 3, 4, 5, 6}, [2]int{1, 4}, [2]int{4, 3}, [2]int{3, 5}, [2]int{3, 2}, [2]int{2, 4}, [2]int{5, 4}, [2]int{5, 6})
	checkChain(t, loop, 1, 1, nil, true)
	checkChain(t, loop, 6, 6, nil, true)
	checkChain(t, loop, 4, 4, []int{4, 3, 2, 4}, true)
	checkChain(t, loop, 3, 3, []int{3, 2, 4, 3}, true)
	checkChain(t, loop, 5, 5, []int{5, 4, 3, 5}, true)
	checkChain(t, loop, 1, 6, []int{1, 4, 3, 5, 6}, true)
	// A longer way back is no better than the direct one.
	two := strata([]int{1, 2, 3}, [2]int{3, 1}, [2]int{1, 2}, [2]int{2, 3}, [2]int{3, 2})
	checkChain(t, two, 3, 3, []int{3, 2, 3}, true)
	checkChain(t, two, 1, 1, []int{1, 2, 3, 1}, true)
}

func TestShortestCycle(t *testing.T) {
	checkCycle(t, pit(), nil, true)
	checkCycle(t, trench(), []int{2, 3}, true)
	checkCycle(t, strata([]int{5, 6}, [2]int{5, 6}, [2]int{6, 5}), []int{5, 6}, true)
	checkCycle(t, strata([]int{1, 2, 3}, [2]int{1, 3}, [2]int{3, 2}, [2]int{2, 1}), []int{1, 3, 2}, true)
	checkCycle(t, strata([]int{1, 2, 3}, [2]int{1, 2}, [2]int{2, 3}, [2]int{3, 1}), []int{1, 2, 3}, true)
	// 1 is above the cycle and reaches it at 9, its greatest Number.
	checkCycle(t, strata([]int{1, 3, 5, 9}, [2]int{1, 9}, [2]int{9, 3}, [2]int{3, 5}, [2]int{5, 9}), []int{3, 5, 9}, true)
	checkCycle(t, strata([]int{1, 3, 9}, [2]int{1, 9}, [2]int{9, 3}, [2]int{3, 9}), []int{3, 9}, true)
}

func TestShortestOfSeveralCycles(t *testing.T) {
	// The cycle with fewer contexts has greater Numbers.
	fewer := strata([]int{1, 2, 3, 8, 9}, [2]int{1, 2}, [2]int{2, 3}, [2]int{3, 1}, [2]int{9, 8}, [2]int{8, 9})
	checkCycle(t, fewer, []int{8, 9}, true)
	apart := strata([]int{9, 10, 100, 101}, [2]int{9, 101}, [2]int{101, 9}, [2]int{10, 100}, [2]int{100, 10})
	checkCycle(t, apart, []int{9, 101}, true)
	common := strata([]int{1, 2, 3, 4}, [2]int{1, 2}, [2]int{1, 3}, [2]int{2, 4}, [2]int{3, 4}, [2]int{4, 1})
	checkCycle(t, common, []int{1, 2, 4}, true)
	// The second context decides before the third one does.
	second := strata([]int{1, 2, 3, 4, 5}, [2]int{1, 4}, [2]int{4, 2}, [2]int{2, 1}, [2]int{1, 3}, [2]int{3, 5}, [2]int{5, 1})
	checkCycle(t, second, []int{1, 3, 5}, true)
	digits := strata([]int{1, 9, 10}, [2]int{1, 9}, [2]int{1, 10}, [2]int{9, 1}, [2]int{10, 1})
	checkCycle(t, digits, []int{1, 9}, true)
	// The shortest cycle through 1 is longer than that through 2.
	inner := strata([]int{1, 2, 3, 4}, [2]int{1, 2}, [2]int{2, 3}, [2]int{3, 2}, [2]int{3, 4}, [2]int{4, 1})
	checkCycle(t, inner, []int{2, 3}, true)
	both := strata([]int{1, 2, 3}, [2]int{1, 3}, [2]int{3, 1}, [2]int{1, 2}, [2]int{2, 3}, [2]int{3, 2}, [2]int{2, 1})
	checkCycle(t, both, []int{1, 2}, true)
}

func TestContextOrder(t *testing.T) {
	checkOrder(t, pit(), []int{30, 9, 10, 7, 200, 4, 999}, true)
	checkOrder(t, strata([]int{1, 2, 3}, [2]int{3, 1}), []int{2, 3, 1}, true)
	checkOrder(t, strata([]int{9, 10, 100}, [2]int{100, 9}), []int{10, 100, 9}, true)
	checkOrder(t, strata([]int{1, 2, 3, 4}, [2]int{4, 1}, [2]int{3, 2}), []int{3, 2, 4, 1}, true)
	checkOrder(t, strata([]int{1, 2, 3, 4}, [2]int{4, 3}, [2]int{3, 2}, [2]int{2, 1}), []int{4, 3, 2, 1}, true)
	checkOrder(t, trench(), nil, false)
	checkOrder(t, fullKnot(), nil, false)
	checkOrder(t, strata([]int{1, 2, 3}, [2]int{2, 3}, [2]int{3, 2}), nil, false)
	checkOrder(t, strata([]int{1, 2, 3}, [2]int{1, 2}, [2]int{2, 1}, [2]int{2, 3}), nil, false)
}

func TestUnrelatedPairs(t *testing.T) {
	checkPairs(t, pit(), [][2]int{{4, 7}, {4, 999}, {7, 9}, {7, 200}, {7, 999}, {9, 10}, {9, 999}, {10, 999}, {30, 999}, {200, 999}}, true)
	checkPairs(t, strata([]int{5, 6}), [][2]int{{5, 6}}, true)
	checkPairs(t, strata([]int{5, 6}, [2]int{6, 5}), nil, true)
	checkPairs(t, strata([]int{1, 2, 3}, [2]int{1, 2}, [2]int{2, 3}), nil, true)
	// These records have cycles.
	checkPairs(t, trench(), [][2]int{{2, 8}, {2, 34}, {3, 8}, {3, 34}, {5, 8}, {5, 34}, {8, 21}, {8, 34}, {13, 34}, {21, 34}}, true)
	checkPairs(t, strata([]int{5, 6}, [2]int{5, 6}, [2]int{6, 5}), nil, true)
	checkPairs(t, strata([]int{1, 2, 3, 4}, [2]int{1, 3}, [2]int{3, 1}, [2]int{2, 4}, [2]int{4, 2}), [][2]int{{1, 2}, {1, 4}, {2, 3}, {3, 4}}, true)
	checkPairs(t, fullKnot(), nil, true)
}

func TestEndContexts(t *testing.T) {
	checkEnds(t, pit(), []int{30, 999}, []int{4, 7, 999}, true)
	checkEnds(t, trench(), []int{8, 34}, []int{13, 34}, true)
	checkEnds(t, strata([]int{5, 6}, [2]int{6, 5}), []int{6}, []int{5}, true)
	checkEnds(t, strata([]int{5, 6}, [2]int{5, 6}, [2]int{6, 5}), nil, nil, true)
	checkEnds(t, strata([]int{1, 2, 3}, [2]int{2, 3}, [2]int{3, 2}), []int{1}, []int{1}, true)
	checkEnds(t, strata([]int{1, 2, 3, 4}, [2]int{4, 2}, [2]int{2, 3}, [2]int{3, 2}, [2]int{3, 1}), []int{4}, []int{1}, true)
	checkEnds(t, fullKnot(), nil, nil, true)
}

func TestOrderOfTheEmptyRecord(t *testing.T) {
	for _, r := range []impl.Record{{}, {Contexts: []impl.Context{}, Relations: []impl.Relation{}}} {
		checkConsistent(t, r, true, true)
		checkCycle(t, r, nil, true)
		checkOrder(t, r, nil, true)
		checkPairs(t, r, nil, true)
		checkEnds(t, r, nil, nil, true)
		for _, number := range []int{-1, 0, 1, 2, impl.MaxNumber, math.MinInt, math.MaxInt} {
			checkNoContexts(t, r, number)
		}
	}
}

func TestOrderWithoutRelations(t *testing.T) {
	for _, numbers := range [][]int{{1}, {impl.MaxNumber}, {3, 20, 100}, {1, 2, 3, 4, 5, 6, 7, 8, 9, 10}} {
		r := strata(numbers)
		pairs := [][2]int{}
		for i, a := range numbers {
			for _, b := range numbers[i+1:] {
				pairs = append(pairs, [2]int{a, b})
			}
			for _, b := range numbers {
				checkChain(t, r, a, b, nil, true)
			}
		}
		checkEarlier(t, r, nil)
		checkCycle(t, r, nil, true)
		checkOrder(t, r, numbers, true)
		checkPairs(t, r, pairs, true)
		checkEnds(t, r, numbers, numbers, true)
	}
}

func TestOrderOfTheFullSite(t *testing.T) {
	r := fullSite()
	numbers := numbersOf(r)
	earlier := map[int][]int{100: numbers[1:], 199: numbers[2:], 298: numbers[3:]}
	checkEarlier(t, r, earlier)
	checkCycle(t, r, nil, true)
	checkOrder(t, r, numbers, true)
	checkEnds(t, r, []int{100}, numbers[3:], true)
	checkChain(t, r, 100, 991, []int{100, 991}, true)
	if pairs, ok := impl.UnrelatedPairs(r); len(pairs) != 21 || !ok || pairs[0] != [2]int{397, 496} || pairs[20] != [2]int{892, 991} {
		t.Errorf("UnrelatedPairs = %v, %v", pairs, ok)
	}
}

func TestOrderOfTheFullKnot(t *testing.T) {
	r := fullKnot()
	if len(r.Contexts) != impl.MaxContexts || len(r.Relations) != impl.MaxRelations || !impl.IsValidRecord(r) {
		t.Fatal("the knot does not meet the limits")
	}
	earlier := map[int][]int{}
	for _, n := range numbersOf(r) {
		earlier[n] = numbersOf(r)
	}
	checkEarlier(t, r, earlier)
	// Only 10 leads back, and no relation leads on by more than three.
	checkCycle(t, r, []int{1, 4, 7, 10}, true)
	checkChain(t, r, 1, 1, []int{1, 4, 7, 10, 1}, true)
	checkChain(t, r, 1, 10, []int{1, 4, 7, 10}, true)
	checkChain(t, r, 10, 9, []int{10, 1, 3, 6, 9}, true)
	checkChain(t, r, 9, 8, []int{9, 10, 1, 2, 5, 8}, true)
}

func TestContextsThatTheRecordDoesNotHave(t *testing.T) {
	for _, r := range []impl.Record{pit(), trench(), fullSite(), fullKnot()} {
		numbers := numbersOf(r)
		for number := -1; number <= impl.MaxNumber+1; number++ {
			if !slices.Contains(numbers, number) {
				checkNoContexts(t, r, number)
			}
		}
		for _, number := range []int{math.MinInt, math.MinInt + 1, -impl.MaxNumber, 1 << 32, math.MaxInt} {
			checkNoContexts(t, r, number)
		}
	}
}

func TestInvalidRecordsHaveNoOrder(t *testing.T) {
	for name, r := range invalidSites() {
		before := copyOf(r)
		for _, number := range append(numbersOf(r), -1, 0, 1, 2, 3, 4) {
			checkNoContexts(t, r, number)
		}
		checkConsistent(t, r, false, false)
		checkCycle(t, r, nil, false)
		checkOrder(t, r, nil, false)
		checkPairs(t, r, nil, false)
		checkEnds(t, r, nil, nil, false)
		if !sameRecord(r, before) {
			t.Errorf("%s: the argument became %v", name, r)
		}
	}
}

// allChains returns the chains in which no context occurs twice, except that the last one may be
// the first one, the shortest chains first and then in lexicographic order.
func allChains(r impl.Record) [][]int {
	all := [][]int{}
	var extend func(chain []int)
	extend = func(chain []int) {
		for _, x := range r.Relations {
			if x.Upper != chain[len(chain)-1] || slices.Contains(chain[1:], x.Lower) {
				continue
			}
			longer := append(slices.Clone(chain), x.Lower)
			all = append(all, longer)
			if x.Lower != chain[0] {
				extend(longer)
			}
		}
	}
	for _, n := range numbersOf(r) {
		extend([]int{n})
	}
	slices.SortFunc(all, func(a, b []int) int {
		return cmp.Or(cmp.Compare(len(a), len(b)), slices.Compare(a, b))
	})
	return all
}

// checkWholeOrder holds every function against all chains of a valid record.
func checkWholeOrder(t *testing.T, r impl.Record) {
	t.Helper()
	shortest := map[[2]int][]int{}
	var cycle []int
	for _, chain := range allChains(r) {
		a, b := chain[0], chain[len(chain)-1]
		if shortest[[2]int{a, b}] == nil {
			shortest[[2]int{a, b}] = chain
		}
		if a == b && a == slices.Min(chain) && cycle == nil {
			cycle = chain[:len(chain)-1]
		}
	}
	earlier := map[int][]int{}
	pairs := [][2]int{}
	for _, a := range numbersOf(r) {
		for _, b := range numbersOf(r) {
			chain := shortest[[2]int{a, b}]
			checkChain(t, r, a, b, chain, true)
			if chain != nil {
				earlier[a] = append(earlier[a], b)
			}
			if a < b && chain == nil && shortest[[2]int{b, a}] == nil {
				pairs = append(pairs, [2]int{a, b})
			}
		}
	}
	checkEarlier(t, r, earlier)
	checkCycle(t, r, cycle, true)
	checkPairs(t, r, pairs, true)
	checkOrderAndEnds(t, r, earlier, cycle == nil)
}

func checkOrderAndEnds(t *testing.T, r impl.Record, earlier map[int][]int, consistent bool) {
	t.Helper()
	isLater := func(a, b int) bool { return slices.Contains(earlier[a], b) }
	latest, earliest := []int{}, []int{}
	for _, n := range numbersOf(r) {
		if !slices.ContainsFunc(numbersOf(r), func(m int) bool { return isLater(m, n) }) {
			latest = append(latest, n)
		}
		if len(earlier[n]) == 0 {
			earliest = append(earliest, n)
		}
	}
	checkEnds(t, r, latest, earliest, true)
	order, ok := impl.ContextOrder(r)
	if !consistent {
		checkOrder(t, r, nil, false)
		return
	}
	if !ok || !slices.Equal(slices.Sorted(slices.Values(order)), numbersOf(r)) {
		t.Fatalf("ContextOrder(%v) = %v, %v", r, order, ok)
	}
	for i, n := range order {
		rest := order[i:]
		for _, m := range rest {
			possible := !slices.ContainsFunc(rest, func(k int) bool { return isLater(k, m) })
			if m == n && !possible || m < n && possible {
				t.Errorf("ContextOrder(%v) = %v: %d at place %d", r, order, n, i)
			}
		}
	}
}

// recordOfBits has the relations that the bits choose among all pairs of different numbers.
func recordOfBits(numbers []int, bits int) impl.Record {
	relations := [][2]int{}
	for _, a := range numbers {
		for _, b := range numbers {
			if a == b {
				continue
			}
			if bits&1 == 1 {
				relations = append(relations, [2]int{a, b})
			}
			bits >>= 1
		}
	}
	return strata(numbers, relations...)
}

// recordsOfFewContexts are all records of two, three and four deposits with certain numbers.
func recordsOfFewContexts() []impl.Record {
	records := []impl.Record{}
	for _, numbers := range [][]int{{1, impl.MaxNumber}, {9, 10, 100}, {2, 9, 10, 111}} {
		pairs := len(numbers) * (len(numbers) - 1)
		for bits := range 1 << pairs {
			records = append(records, recordOfBits(numbers, bits))
		}
	}
	return records
}

func TestEveryOrderOfFewContexts(t *testing.T) {
	for _, r := range recordsOfFewContexts() {
		checkWholeOrder(t, r)
	}
}

// chosenRecord has 10 contexts, and as many relations as count says; if it is to be consistent,
// they all lead from a context to one that follows it in a chosen order.
func chosenRecord(source *rand.Rand, count int, consistent bool) impl.Record {
	numbers := source.Perm(impl.MaxNumber)[:impl.MaxContexts]
	relations := [][2]int{}
	for i := range numbers {
		numbers[i]++
	}
	for i, a := range numbers {
		for j, b := range numbers {
			if i < j || i > j && !consistent {
				relations = append(relations, [2]int{a, b})
			}
		}
	}
	source.Shuffle(len(relations), func(i, j int) { relations[i], relations[j] = relations[j], relations[i] })
	return strata(numbers, relations[:count]...)
}

func TestOrderOfManyRecords(t *testing.T) {
	source := rand.New(rand.NewSource(4))
	for range 10 {
		for count := range impl.MaxRelations + 1 {
			checkWholeOrder(t, chosenRecord(source, count, true))
			checkWholeOrder(t, chosenRecord(source, count, false))
		}
		checkWholeOrder(t, chosenRecord(source, impl.MaxRelations, true))
		checkWholeOrder(t, chosenRecord(source, impl.MaxRelations, false))
	}
	for _, r := range []impl.Record{{}, pit(), trench(), fullSite(), fullKnot()} {
		checkWholeOrder(t, r)
	}
}

// TestOrderIsTransitive checks the guarantee of the chapter in the results alone.
func TestOrderIsTransitive(t *testing.T) {
	numbers := []int{1, 2, 3, 4}
	for bits := range 4096 {
		r := recordOfBits(numbers, bits)
		consistent, _ := impl.IsConsistent(r)
		for _, a := range numbers {
			for _, b := range numbers {
				down, _ := impl.IsLater(r, a, b)
				up, _ := impl.IsLater(r, b, a)
				if consistent && down && up {
					t.Errorf("%v: %d and %d are later than each other", r, a, b)
				}
				for _, c := range numbers {
					next, _ := impl.IsLater(r, b, c)
					whole, _ := impl.IsLater(r, a, c)
					if down && next && !whole {
						t.Errorf("%v: %d is later than %d, this than %d", r, a, b, c)
					}
				}
			}
		}
	}
}

// overwrite changes a list with all its capacity.
func overwrite(list []int) {
	list = list[:cap(list)]
	for i := range list {
		list[i] = -1
	}
}

// lists calls every function of the chapter that returns lists.
func lists(r impl.Record) map[string][]int {
	all := map[string][]int{}
	all["LaterContexts"], _ = impl.LaterContexts(r, 200)
	all["EarlierContexts"], _ = impl.EarlierContexts(r, 30)
	all["ShortestChain"], _, _ = impl.ShortestChain(r, 30, 4)
	all["ShortestCycle"], _, _ = impl.ShortestCycle(r)
	all["ContextOrder"], _ = impl.ContextOrder(r)
	all["EndContexts, latest"], all["EndContexts, earliest"], _ = impl.EndContexts(r)
	return all
}

// TestMemoryOfOrder passes records whose slices have more elements beyond their lengths, and
// overwrites the results one after the other.
func TestMemoryOfOrder(t *testing.T) {
	looped := pit()
	looped.Relations = append(looped.Relations, impl.Relation{Upper: 999, Lower: 4})
	looped.Relations = slices.Insert(looped.Relations, 0, impl.Relation{Upper: 4, Lower: 999})
	for _, plain := range []impl.Record{pit(), looped, strata([]int{4, 30, 200})} {
		whole, r := lengthened(plain)
		before := copyOf(whole)
		want, got := lists(plain), lists(r)
		names := []string{"LaterContexts", "EarlierContexts", "ShortestChain", "ShortestCycle", "ContextOrder", "EndContexts, latest", "EndContexts, earliest"}
		for i := range names {
			for _, name := range names[i:] {
				if !slices.Equal(got[name], want[name]) {
					t.Errorf("%s of %v = %v; want %v", name, r, got[name], want[name])
				}
			}
			overwrite(got[names[i]])
		}
		pairs, _ := impl.UnrelatedPairs(r)
		checkPairs(t, plain, pairs, true)
		clear(pairs[:cap(pairs)])
		checkConsistent(t, r, len(want["ShortestCycle"]) == 0, true)
		checkLater(t, r, 30, 4, len(want["ShortestChain"]) > 0, true)
		if !sameRecord(whole, before) {
			t.Errorf("the argument became %v", whole)
		}
	}
}

// TestEndsAreTwoLists: both results have the same elements, but not the same memory.
func TestEndsAreTwoLists(t *testing.T) {
	r := strata([]int{3, 20, 100})
	latest, earliest, _ := impl.EndContexts(r)
	overwrite(latest)
	if !slices.Equal(earliest, []int{3, 20, 100}) {
		t.Errorf("the second result became %v", earliest)
	}
	latest, earliest, _ = impl.EndContexts(r)
	overwrite(earliest)
	if !slices.Equal(latest, []int{3, 20, 100}) {
		t.Errorf("the first result became %v", latest)
	}
}
