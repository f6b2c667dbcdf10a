package tests

import (
	"math"
	"math/rand"
	"slices"
	"testing"

	"loop.example/g00876/impl"
)

// ring returns the relations of a cycle.
func ring(numbers ...int) [][2]int {
	relations := [][2]int{}
	for i, n := range numbers {
		relations = append(relations, [2]int{n, numbers[(i+1)%len(numbers)]})
	}
	return relations
}

// rings returns the record of these cycles, which may share contexts, but no relations.
func rings(cycles ...[]int) impl.Record {
	numbers, relations := []int{}, [][2]int{}
	for _, cycle := range cycles {
		numbers = append(numbers, cycle...)
		relations = append(relations, ring(cycle...)...)
	}
	slices.Sort(numbers)
	return strata(slices.Compact(numbers), relations...)
}

// fork has two cycles that share the relation 1 above 2.
func fork() impl.Record {
	return strata([]int{1, 2, 3, 4}, [2]int{1, 2}, [2]int{2, 3}, [2]int{3, 1}, [2]int{2, 4}, [2]int{4, 1})
}

// flower has five cycles that share the relation 1 above 2; without it, a doubt has a relation
// of each of them.
func flower() impl.Record {
	relations := [][2]int{{1, 2}}
	for n := 3; n <= 7; n++ {
		relations = append(relations, [2]int{2, n}, [2]int{n, 1})
	}
	return strata([]int{1, 2, 3, 4, 5, 6, 7}, relations...)
}

// fortySets has MaxSets doubts, which consist of a relation of each cycle.
func fortySets() impl.Record {
	return rings([]int{1, 2, 3, 4}, []int{4, 5, 6, 7, 8}, []int{9, 10})
}

// fortyOneSets has MaxSets doubts of three relations, and that of the relation that all three
// cycles share.
func fortyOneSets() impl.Record {
	return strata([]int{1, 2, 3, 4, 5, 6, 7, 8, 9, 10},
		[2]int{1, 2}, [2]int{2, 3}, [2]int{3, 1},
		[2]int{2, 4}, [2]int{4, 5}, [2]int{5, 6}, [2]int{6, 1},
		[2]int{2, 7}, [2]int{7, 8}, [2]int{8, 9}, [2]int{9, 10}, [2]int{10, 1})
}

// bothWays has every possible relation between five contexts.
func bothWays() impl.Record {
	return recordOfBits([]int{1, 2, 3, 4, 5}, 1<<20-1)
}

// doubtSites are valid records that several tests use.
func doubtSites() map[string]impl.Record {
	sites := matrixSites()
	for name, r := range map[string]impl.Record{
		"trench":       trench(),
		"fullKnot":     fullKnot(),
		"fork":         fork(),
		"flower":       flower(),
		"fortySets":    fortySets(),
		"fortyOneSets": fortyOneSets(),
		"bothWays":     bothWays(),
		"two":          rings([]int{5, 6}),
		"apart":        rings([]int{1, 9}, []int{2, 8}, []int{3, 7}),
		"four pairs":   rings([]int{1, 2}, []int{3, 4}, []int{5, 6}, []int{7, 8}),
		"five pairs":   rings([]int{1, 2}, []int{3, 4}, []int{5, 6}, []int{7, 8}, []int{9, 10}),
	} {
		sites[name] = r
	}
	return sites
}

func sameSets(a, b [][]impl.Relation) bool {
	return slices.EqualFunc(a, b, slices.Equal[[]impl.Relation])
}

func setsOf(lists [][][2]int) [][]impl.Relation {
	sets := [][]impl.Relation{}
	for _, list := range lists {
		sets = append(sets, relationsOf(list))
	}
	return sets
}

// equalWeights gives the same weight to every relation of r.
func equalWeights(r impl.Record, weight int) []int {
	return slices.Repeat([]int{weight}, len(r.Relations))
}

func checkContradictory(t *testing.T, r impl.Record, want []impl.Relation, wantOk bool) {
	t.Helper()
	if got, ok := impl.ContradictoryRelations(r); !slices.Equal(got, want) || ok != wantOk {
		t.Errorf("ContradictoryRelations(%v) = %v, %v; want %v, %v", r, got, ok, want, wantOk)
	}
}

func checkResolves(t *testing.T, r impl.Record, set []impl.Relation, want, wantOk bool) {
	t.Helper()
	if got, ok := impl.ResolvesRecord(r, set); got != want || ok != wantOk {
		t.Errorf("ResolvesRecord(%v, %v) = %v, %v; want %v, %v", r, set, got, ok, want, wantOk)
	}
}

func checkSmallest(t *testing.T, r impl.Record, want []impl.Relation, wantOk bool) {
	t.Helper()
	if got, ok := impl.SmallestDoubt(r); !slices.Equal(got, want) || ok != wantOk {
		t.Errorf("SmallestDoubt(%v) = %v, %v; want %v, %v", r, got, ok, want, wantOk)
	}
}

func checkLightest(t *testing.T, r impl.Record, weights []int, want []impl.Relation, wantWeight int, wantOk bool) {
	t.Helper()
	got, weight, ok := impl.LightestDoubt(r, weights)
	if !slices.Equal(got, want) || weight != wantWeight || ok != wantOk {
		t.Errorf("LightestDoubt(%v, %v) = %v, %d, %v; want %v, %d, %v", r, weights, got, weight, ok, want, wantWeight, wantOk)
	}
}

func checkAllDoubts(t *testing.T, r impl.Record, size int, want [][]impl.Relation, wantOk bool) {
	t.Helper()
	if got, ok := impl.AllDoubts(r, size); !sameSets(got, want) || ok != wantOk {
		t.Errorf("AllDoubts(%v, %d) = %v, %v; want %v, %v", r, size, got, ok, want, wantOk)
	}
}

func checkSuspects(t *testing.T, r impl.Record, want []int, wantOk bool) {
	t.Helper()
	if got, ok := impl.SuspectContexts(r); !slices.Equal(got, want) || ok != wantOk {
		t.Errorf("SuspectContexts(%v) = %v, %v; want %v, %v", r, got, ok, want, wantOk)
	}
}

func checkGroups(t *testing.T, r impl.Record, want [][]int, wantOk bool) {
	t.Helper()
	if got, ok := impl.ContradictionGroups(r); !sameRows(got, want) || ok != wantOk {
		t.Errorf("ContradictionGroups(%v) = %v, %v; want %v, %v", r, got, ok, want, wantOk)
	}
}

func checkWould(t *testing.T, r impl.Record, upper, lower int, want, wantOk bool) {
	t.Helper()
	x := impl.Relation{Upper: upper, Lower: lower}
	if got, ok := impl.WouldContradict(r, x); got != want || ok != wantOk {
		t.Errorf("WouldContradict(%v, %v) = %v, %v; want %v, %v", r, x, got, ok, want, wantOk)
	}
}

// checkDoubts wants exactly these doubts with at most MaxDoubts relations.
func checkDoubts(t *testing.T, r impl.Record, lists ...[][2]int) {
	t.Helper()
	want := setsOf(lists)
	for size := range impl.MaxDoubts + 1 {
		few := slices.DeleteFunc(slices.Clone(want), func(set []impl.Relation) bool { return len(set) > size })
		checkAllDoubts(t, r, size, few, true)
	}
	for _, set := range want {
		checkResolves(t, r, set, true, true)
	}
	if len(want) == 0 {
		checkSmallest(t, r, nil, false)
		checkLightest(t, r, equalWeights(r, 1), nil, 0, false)
		return
	}
	checkSmallest(t, r, want[0], true)
	// With equal weights, the lightest doubts are the smallest ones.
	checkLightest(t, r, equalWeights(r, 1), want[0], len(want[0]), true)
	checkLightest(t, r, equalWeights(r, 100), want[0], 100*len(want[0]), true)
}

// checkGroupsOf wants these groups, and their contexts as suspects.
func checkGroupsOf(t *testing.T, r impl.Record, groups ...[]int) {
	t.Helper()
	checkGroups(t, r, groups, true)
	checkSuspects(t, r, slices.Sorted(slices.Values(slices.Concat(groups...))), true)
}

// checkNoDoubts wants that every function of the chapter refuses r.
func checkNoDoubts(t *testing.T, r impl.Record) {
	t.Helper()
	checkContradictory(t, r, nil, false)
	for n := range len(r.Relations) + 1 {
		checkResolves(t, r, r.Relations[:n], false, false)
	}
	checkSmallest(t, r, nil, false)
	for n := range len(r.Relations) + 2 {
		checkLightest(t, r, slices.Repeat([]int{1}, n), nil, 0, false)
	}
	for size := -1; size <= impl.MaxDoubts+1; size++ {
		checkAllDoubts(t, r, size, nil, false)
	}
	checkSuspects(t, r, nil, false)
	checkGroups(t, r, nil, false)
	numbers := append(numbersOf(r), -1, 0, 1, 2, 3, 4)
	for _, a := range numbers {
		for _, b := range numbers {
			checkWould(t, r, a, b, false, false)
		}
	}
}

func TestContradictoryRelations(t *testing.T) {
	checkContradictory(t, trench(), relationsOf([][2]int{{2, 3}, {3, 2}}), true)
	checkContradictory(t, rings([]int{5, 6}), relationsOf([][2]int{{5, 6}, {6, 5}}), true)
	checkContradictory(t, fork(), fork().Relations, true)
	checkContradictory(t, fullKnot(), fullKnot().Relations, true)
	checkContradictory(t, fortySets(), fortySets().Relations, true)
	// Relations above, below and between two cycles lie on none.
	between := with(rings([]int{2, 3}, []int{10, 9, 8}), [2]int{3, 9}, [2]int{2, 10})
	checkContradictory(t, between, rings([]int{2, 3}, []int{10, 9, 8}).Relations, true)
	ends := strata([]int{1, 2, 3, 4, 5}, [2]int{1, 2}, [2]int{2, 3}, [2]int{3, 2}, [2]int{3, 4}, [2]int{1, 4}, [2]int{5, 1})
	checkContradictory(t, ends, relationsOf([][2]int{{2, 3}, {3, 2}}), true)
	// A chord makes another cycle.
	chord := with(rings([]int{1, 2, 3, 4}), [2]int{1, 3})
	checkContradictory(t, chord, chord.Relations, true)
	for _, r := range matrixSites() {
		checkContradictory(t, r, nil, true)
	}
}

func TestResolvesRecord(t *testing.T) {
	r := fork()
	for _, set := range setsOf([][][2]int{
		{{1, 2}}, {{2, 3}, {2, 4}}, {{2, 3}, {4, 1}}, {{2, 4}, {3, 1}}, {{3, 1}, {4, 1}},
		// These are no doubts.
		{{1, 2}, {2, 3}}, {{1, 2}, {4, 1}}, {{2, 3}, {2, 4}, {3, 1}}, {{1, 2}, {2, 3}, {2, 4}, {3, 1}, {4, 1}},
	}) {
		checkResolves(t, r, set, true, true)
	}
	for _, set := range setsOf([][][2]int{
		nil, {}, {{2, 3}}, {{2, 4}}, {{3, 1}}, {{4, 1}}, {{2, 3}, {3, 1}}, {{2, 4}, {4, 1}},
	}) {
		checkResolves(t, r, set, false, true)
	}
	checkResolves(t, rings([]int{5, 6}), relationsOf([][2]int{{5, 6}, {6, 5}}), true, true)
	checkResolves(t, trench(), relationsOf([][2]int{{2, 5}, {3, 5}, {5, 21}, {8, 13}}), false, true)
	// More than MaxDoubts relations resolve a record as well.
	five := rings([]int{1, 2}, []int{3, 4}, []int{5, 6}, []int{7, 8}, []int{9, 10})
	checkResolves(t, five, relationsOf([][2]int{{1, 2}, {3, 4}, {5, 6}, {7, 8}, {9, 10}}), true, true)
	checkResolves(t, five, relationsOf([][2]int{{1, 2}, {3, 4}, {5, 6}, {7, 8}}), false, true)
	checkResolves(t, fullKnot(), fullKnot().Relations, true, true)
	// Only 10 above 1, the last one, lies on every cycle of the knot.
	checkResolves(t, fullKnot(), fullKnot().Relations[impl.MaxRelations-1:], true, true)
	checkResolves(t, fullKnot(), fullKnot().Relations[1:3], false, true)
}

func TestSetsThatResolveAConsistentRecord(t *testing.T) {
	for _, r := range matrixSites() {
		for n := range len(r.Relations) + 1 {
			checkResolves(t, r, r.Relations[:n], true, true)
			checkResolves(t, r, r.Relations[n:], true, true)
		}
	}
}

func TestSetsThatAreNoneOfTheRecord(t *testing.T) {
	for name, list := range map[string][][2]int{
		"a relation twice":          {{1, 2}, {1, 2}},
		"the last relation twice":   {{1, 2}, {4, 1}, {4, 1}},
		"lowers out of order":       {{2, 4}, {2, 3}},
		"uppers out of order":       {{3, 1}, {2, 4}},
		"the last ones disordered":  {{1, 2}, {2, 3}, {4, 1}, {3, 1}},
		"no relation of the record": {{1, 3}},
		"a relation reversed":       {{2, 1}},
		"another one last":          {{1, 2}, {4, 2}},
		"another one first":         {{1, 1}, {1, 2}},
		"another one between":       {{1, 2}, {1, 3}, {2, 3}},
		"context 5":                 {{1, 2}, {4, 5}},
		"contexts 5 and 6":          {{1, 2}, {5, 6}},
		"context 0":                 {{0, 1}, {1, 2}},
		"negative numbers":          {{-1, -2}},
		"the smallest integers":     {{math.MinInt, math.MinInt}},
		"the greatest integers":     {{1, 2}, {math.MaxInt, math.MaxInt}},
		"more than the record":      {{1, 2}, {2, 3}, {2, 4}, {3, 1}, {4, 1}, {4, 2}},
	} {
		set := relationsOf(list)
		before := slices.Clone(set)
		checkResolves(t, fork(), set, false, false)
		if !slices.Equal(set, before) {
			t.Errorf("%s: the set became %v", name, set)
		}
	}
	checkResolves(t, fork(), slices.Repeat(relationsOf([][2]int{{1, 2}}), 1000000), false, false)
	checkResolves(t, ladder(3), relationsOf([][2]int{{2, 3}, {1, 2}}), false, false)
	checkResolves(t, ladder(3), relationsOf([][2]int{{1, 3}}), false, false)
	checkResolves(t, ladder(3), relationsOf([][2]int{{3, 4}}), false, false)
}

func TestDoubtsOfOneCycle(t *testing.T) {
	checkDoubts(t, rings([]int{5, 6}), [][2]int{{5, 6}}, [][2]int{{6, 5}})
	checkDoubts(t, trench(), [][2]int{{2, 3}}, [][2]int{{3, 2}})
	checkDoubts(t, rings([]int{1, 2, 3}), [][2]int{{1, 2}}, [][2]int{{2, 3}}, [][2]int{{3, 1}})
	checkDoubts(t, rings([]int{9, 100, 10}), [][2]int{{9, 100}}, [][2]int{{10, 9}}, [][2]int{{100, 10}})
	long := [][][2]int{}
	for n := 1; n <= 9; n++ {
		long = append(long, [][2]int{{n, n + 1}})
	}
	checkDoubts(t, with(ladder(10), [2]int{10, 1}), append(long, [][2]int{{10, 1}})...)
	// The relations of the ladder that are not on the cycle are in no doubt.
	checkDoubts(t, with(ladder(6), [2]int{4, 2}), [][2]int{{2, 3}}, [][2]int{{3, 4}}, [][2]int{{4, 2}})
}

func TestDoubtsOfCyclesThatShareRelations(t *testing.T) {
	checkDoubts(t, fork(), [][2]int{{1, 2}},
		[][2]int{{2, 3}, {2, 4}}, [][2]int{{2, 3}, {4, 1}}, [][2]int{{2, 4}, {3, 1}}, [][2]int{{3, 1}, {4, 1}})
	// The relations that both cycles share come after others.
	checkDoubts(t, with(rings([]int{1, 2, 3, 4}), [2]int{1, 3}),
		[][2]int{{3, 4}}, [][2]int{{4, 1}}, [][2]int{{1, 2}, {1, 3}}, [][2]int{{1, 3}, {2, 3}})
	// Three cycles of which each shares a relation with another one, and none with all.
	checkDoubts(t, strata([]int{1, 2, 3}, [2]int{1, 2}, [2]int{2, 1}, [2]int{2, 3}, [2]int{3, 2}, [2]int{3, 1}),
		[][2]int{{1, 2}, {2, 3}}, [][2]int{{1, 2}, {3, 2}}, [][2]int{{2, 1}, {2, 3}}, [][2]int{{2, 1}, {3, 1}, {3, 2}})
	// Every relation between three contexts: a doubt leaves an order of them.
	checkDoubts(t, recordOfBits([]int{9, 10, 100}, 63),
		[][2]int{{9, 10}, {9, 100}, {10, 100}}, [][2]int{{9, 10}, {9, 100}, {100, 10}}, [][2]int{{9, 10}, {100, 9}, {100, 10}},
		[][2]int{{9, 100}, {10, 9}, {10, 100}}, [][2]int{{10, 9}, {10, 100}, {100, 9}}, [][2]int{{10, 9}, {100, 9}, {100, 10}})
	checkDoubts(t, flower(), [][2]int{{1, 2}})
}

func TestDoubtsOfCyclesThatShareContexts(t *testing.T) {
	checkDoubts(t, rings([]int{1, 2}, []int{2, 3}),
		[][2]int{{1, 2}, {2, 3}}, [][2]int{{1, 2}, {3, 2}}, [][2]int{{2, 1}, {2, 3}}, [][2]int{{2, 1}, {3, 2}})
	checkDoubts(t, rings([]int{1, 9}, []int{2, 8}),
		[][2]int{{1, 9}, {2, 8}}, [][2]int{{1, 9}, {8, 2}}, [][2]int{{2, 8}, {9, 1}}, [][2]int{{8, 2}, {9, 1}})
}

func TestAConsistentRecordHasTheEmptyDoubt(t *testing.T) {
	for _, r := range matrixSites() {
		checkDoubts(t, r, [][2]int{})
		checkGroupsOf(t, r)
	}
}

func TestMaxDoubts(t *testing.T) {
	four := rings([]int{1, 2}, []int{3, 4}, []int{5, 6}, []int{7, 8})
	want := [][][2]int{}
	for _, a := range ring(1, 2) {
		for _, b := range ring(3, 4) {
			for _, c := range ring(5, 6) {
				for _, d := range ring(7, 8) {
					want = append(want, [][2]int{a, b, c, d})
				}
			}
		}
	}
	checkDoubts(t, four, want...)
	checkDoubts(t, rings([]int{1, 2}, []int{3, 4}, []int{5, 6}, []int{7, 8}, []int{9, 10}))
	checkDoubts(t, bothWays())
	checkDoubts(t, recordOfBits([]int{2, 9, 10, 111}, 1<<12-1))
}

func TestLightestDoubt(t *testing.T) {
	// The relations of the fork: 1 above 2, 2 above 3 and 4, 3 and 4 above 1.
	lightest := func(weight int, weights []int, list ...[2]int) {
		t.Helper()
		checkLightest(t, fork(), weights, relationsOf(list), weight, true)
	}
	lightest(1, []int{1, 1, 1, 1, 1}, [2]int{1, 2})
	// The lightest doubt has more relations than the smallest one.
	lightest(2, []int{3, 1, 1, 2, 2}, [2]int{2, 3}, [2]int{2, 4})
	lightest(2, []int{3, 2, 1, 1, 2}, [2]int{2, 4}, [2]int{3, 1})
	lightest(2, []int{100, 1, 100, 100, 1}, [2]int{2, 3}, [2]int{4, 1})
	lightest(20, []int{21, 90, 90, 10, 10}, [2]int{3, 1}, [2]int{4, 1})
	// Of several lightest doubts, one with fewer relations is first, and then the lexicographically smallest one.
	lightest(2, []int{2, 1, 1, 1, 1}, [2]int{1, 2})
	lightest(2, []int{3, 1, 1, 1, 1}, [2]int{2, 3}, [2]int{2, 4})
	lightest(11, []int{12, 5, 7, 6, 6}, [2]int{2, 3}, [2]int{4, 1})
	lightest(10, []int{100, 8, 5, 5, 5}, [2]int{2, 4}, [2]int{3, 1})
	lightest(100, []int{100, 50, 50, 50, 50}, [2]int{1, 2})
	// One with fewer relations is first, although it is lexicographically greater.
	chord := with(rings([]int{1, 2, 3, 4}), [2]int{1, 3})
	checkLightest(t, chord, []int{1, 1, 9, 2, 9}, relationsOf([][2]int{{3, 4}}), 2, true)
	checkLightest(t, chord, []int{1, 1, 9, 3, 9}, relationsOf([][2]int{{1, 2}, {1, 3}}), 2, true)
	two := rings([]int{5, 6})
	checkLightest(t, two, []int{7, 7}, relationsOf([][2]int{{5, 6}}), 7, true)
	checkLightest(t, two, []int{7, 6}, relationsOf([][2]int{{6, 5}}), 6, true)
	checkLightest(t, two, []int{100, 99}, relationsOf([][2]int{{6, 5}}), 99, true)
	// Weights of relations that lie on no cycle do not matter.
	checkLightest(t, trench(), []int{9, 1, 8, 1, 1, 1, 1, 1}, relationsOf([][2]int{{3, 2}}), 8, true)
	checkLightest(t, trench(), []int{9, 100, 10, 100, 100, 100, 100, 100}, relationsOf([][2]int{{2, 3}}), 9, true)
	checkLightest(t, slope(), []int{1, 2, 3, 100}, nil, 0, true)
}

// TestLighterDoubtsWithMoreRelations: a set of more than MaxDoubts relations is not returned,
// however light it is.
func TestLighterDoubtsWithMoreRelations(t *testing.T) {
	weights := equalWeights(flower(), 1)
	weights[0] = 100
	checkResolves(t, flower(), relationsOf([][2]int{{2, 3}, {2, 4}, {2, 5}, {2, 6}, {2, 7}}), true, true)
	checkLightest(t, flower(), weights, relationsOf([][2]int{{1, 2}}), 100, true)
	// Without one of the cycles, there is one with MaxDoubts relations.
	r := without(flower(), [2]int{7, 1})
	weights = equalWeights(r, 1)
	weights[0] = 5
	checkLightest(t, r, weights, relationsOf([][2]int{{2, 3}, {2, 4}, {2, 5}, {2, 6}}), 4, true)
	weights[0] = 4
	checkLightest(t, r, weights, relationsOf([][2]int{{1, 2}}), 4, true)
}

func TestWeightsThatAreNoneOfTheRecord(t *testing.T) {
	for _, weights := range [][]int{
		nil, {}, {1}, {1, 1, 1, 1}, {1, 1, 1, 1, 1, 1}, slices.Repeat([]int{1}, 1000000),
		{0, 1, 1, 1, 1}, {1, 1, 1, 1, 0}, {1, 1, 101, 1, 1}, {1, 1, 1, 1, 101}, {1, -1, 1, 1, 1},
		{math.MinInt, 1, 1, 1, 1}, {1, math.MaxInt, 1, 1, 1}, {1, 1 << 32, 1, 1, 1}, {0, 101, 1, 1, 1, 1},
	} {
		before := slices.Clone(weights)
		checkLightest(t, fork(), weights, nil, 0, false)
		if !slices.Equal(weights, before) {
			t.Errorf("the weights became %v", weights)
		}
	}
	// A consistent record needs weights, too.
	for _, weights := range [][]int{nil, {1, 1, 1}, {1, 1, 1, 1, 1}, {1, 0, 1, 1}, {1, 1, 101, 1}} {
		checkLightest(t, slope(), weights, nil, 0, false)
	}
	for _, weights := range [][]int{{1}, {0}, {100}} {
		checkLightest(t, strata([]int{1, 2}), weights, nil, 0, false)
	}
}

func TestSizesOfDoubts(t *testing.T) {
	for _, r := range doubtSites() {
		for _, size := range []int{math.MinInt, -5, -1, impl.MaxDoubts + 1, impl.MaxSets, 1 << 32, math.MaxInt} {
			checkAllDoubts(t, r, size, nil, false)
		}
	}
	empty := [][]impl.Relation{{}}
	checkAllDoubts(t, slope(), 0, empty, true)
	checkAllDoubts(t, slope(), impl.MaxDoubts, empty, true)
	checkAllDoubts(t, fork(), 0, nil, true)
	checkAllDoubts(t, fork(), 1, setsOf([][][2]int{{{1, 2}}}), true)
	checkAllDoubts(t, bothWays(), impl.MaxDoubts, nil, true)
}

func TestMaxSets(t *testing.T) {
	r := fortySets()
	want := [][][2]int{}
	for _, a := range [][2]int{{1, 2}, {2, 3}, {3, 4}, {4, 1}} {
		for _, b := range [][2]int{{4, 5}, {5, 6}, {6, 7}, {7, 8}, {8, 4}} {
			for _, c := range [][2]int{{9, 10}, {10, 9}} {
				want = append(want, [][2]int{a, b, c})
			}
		}
	}
	if len(want) != impl.MaxSets {
		t.Fatalf("%d sets", len(want))
	}
	checkDoubts(t, r, want...)
	more := fortyOneSets()
	shared := relationsOf([][2]int{{1, 2}})
	checkAllDoubts(t, more, 0, nil, true)
	checkAllDoubts(t, more, 1, [][]impl.Relation{shared}, true)
	checkAllDoubts(t, more, 2, [][]impl.Relation{shared}, true)
	checkAllDoubts(t, more, 3, nil, false)
	checkAllDoubts(t, more, 4, nil, false)
	// The other functions do not list all doubts.
	checkSmallest(t, more, shared, true)
	checkLightest(t, more, equalWeights(more, 1), shared, 1, true)
	weights := equalWeights(more, 30)
	weights[0] = 91
	checkLightest(t, more, weights, relationsOf([][2]int{{2, 3}, {2, 4}, {2, 7}}), 90, true)
}

func TestContradictionGroups(t *testing.T) {
	checkGroupsOf(t, trench(), []int{2, 3})
	checkGroupsOf(t, fork(), []int{1, 2, 3, 4})
	checkGroupsOf(t, fullKnot(), []int{1, 2, 3, 4, 5, 6, 7, 8, 9, 10})
	checkGroupsOf(t, rings([]int{100, 9, 10}), []int{9, 10, 100})
	checkGroupsOf(t, rings([]int{1, 9}, []int{2, 8}, []int{3, 7}), []int{1, 9}, []int{2, 8}, []int{3, 7})
	checkGroupsOf(t, rings([]int{5, 4}, []int{7, 2, 6}, []int{1, 3}), []int{1, 3}, []int{2, 6, 7}, []int{4, 5})
	// Cycles that share a context form one group, those that are only linked in one direction do not.
	checkGroupsOf(t, rings([]int{1, 2}, []int{2, 3}), []int{1, 2, 3})
	checkGroupsOf(t, rings([]int{1, 2, 3, 4}, []int{4, 5, 6, 7, 8}), []int{1, 2, 3, 4, 5, 6, 7, 8})
	linked := with(rings([]int{1, 4}, []int{2, 3}), [2]int{4, 2}, [2]int{1, 3})
	checkGroupsOf(t, linked, []int{1, 4}, []int{2, 3})
	checkGroupsOf(t, with(linked, [2]int{3, 1}), []int{1, 2, 3, 4})
	reversed := with(rings([]int{1, 4}, []int{2, 3}), [2]int{2, 4}, [2]int{3, 1})
	checkGroupsOf(t, reversed, []int{1, 4}, []int{2, 3})
}

// TestContextsOutsideOfGroups has contexts above, below and between two cycles, and one without
// relations.
func TestContextsOutsideOfGroups(t *testing.T) {
	r := strata([]int{1, 2, 3, 4, 5, 6, 7, 8},
		[2]int{1, 2}, [2]int{2, 7}, [2]int{7, 2}, [2]int{7, 4}, [2]int{4, 3}, [2]int{3, 6}, [2]int{6, 3}, [2]int{6, 5})
	checkGroupsOf(t, r, []int{2, 7}, []int{3, 6})
	checkContradictory(t, r, relationsOf([][2]int{{2, 7}, {3, 6}, {6, 3}, {7, 2}}), true)
	checkDoubts(t, r, [][2]int{{2, 7}, {3, 6}}, [][2]int{{2, 7}, {6, 3}}, [][2]int{{3, 6}, {7, 2}}, [][2]int{{6, 3}, {7, 2}})
	checkGroupsOf(t, strata([]int{1, 2, 3}, [2]int{1, 2}, [2]int{2, 3}, [2]int{3, 2}), []int{2, 3})
	checkGroupsOf(t, strata([]int{1, 2, 3}, [2]int{1, 2}, [2]int{2, 1}, [2]int{2, 3}), []int{1, 2})
	checkGroupsOf(t, strata([]int{1, 2, 3}, [2]int{1, 3}, [2]int{3, 1}), []int{1, 3})
}

func TestWouldContradict(t *testing.T) {
	r := pit()
	// A chain from the Lower context to the Upper one is closed.
	checkWould(t, r, 9, 30, true, true)
	checkWould(t, r, 4, 30, true, true)
	checkWould(t, r, 7, 30, true, true)
	checkWould(t, r, 4, 10, true, true)
	checkWould(t, r, 30, 4, false, true)
	checkWould(t, r, 9, 10, false, true)
	checkWould(t, r, 10, 9, false, true)
	checkWould(t, r, 999, 30, false, true)
	checkWould(t, r, 4, 999, false, true)
	// These relations the record has already.
	for _, x := range r.Relations {
		checkWould(t, r, x.Upper, x.Lower, false, true)
		checkWould(t, r, x.Lower, x.Upper, true, true)
	}
	for _, n := range numbersOf(r) {
		checkWould(t, r, n, n, false, false)
	}
}

func TestWouldContradictMore(t *testing.T) {
	r := trench()
	checkWould(t, r, 2, 3, true, true)
	checkWould(t, r, 3, 2, true, true)
	checkWould(t, r, 21, 2, true, true)
	checkWould(t, r, 5, 3, true, true)
	// The record has a cycle, but none that contains the relation.
	checkWould(t, r, 2, 5, false, true)
	checkWould(t, r, 2, 13, false, true)
	checkWould(t, r, 8, 2, false, true)
	checkWould(t, r, 34, 3, false, true)
	checkWould(t, r, 3, 34, false, true)
	for _, n := range numbersOf(r) {
		checkWould(t, r, n, n, false, false)
	}
	two := rings([]int{5, 6})
	checkWould(t, two, 5, 6, true, true)
	checkWould(t, two, 6, 5, true, true)
	checkWould(t, strata([]int{5, 6}), 5, 6, false, true)
	// Both records have MaxRelations relations, so that a further one cannot be added.
	full := fullSite()
	checkWould(t, full, 991, 100, true, true)
	checkWould(t, full, 991, 397, false, true)
	checkWould(t, full, 100, 991, false, true)
	checkWould(t, fullKnot(), 9, 1, true, true)
}

func TestWouldContradictWithContextsThatTheRecordDoesNotHave(t *testing.T) {
	for _, r := range []impl.Record{{}, pit(), trench(), fullKnot()} {
		numbers := numbersOf(r)
		others := []int{math.MinInt, math.MinInt + 1, -impl.MaxNumber, 1 << 32, math.MaxInt}
		for number := -1; number <= impl.MaxNumber+1; number++ {
			if !slices.Contains(numbers, number) {
				others = append(others, number)
			}
		}
		for _, other := range others {
			checkWould(t, r, other, other, false, false)
			for _, number := range numbers {
				checkWould(t, r, other, number, false, false)
				checkWould(t, r, number, other, false, false)
			}
		}
	}
}

func TestDoubtsWithoutRelations(t *testing.T) {
	for _, r := range []impl.Record{
		{}, {Contexts: []impl.Context{}, Relations: []impl.Relation{}},
		strata([]int{1}), strata([]int{1, impl.MaxNumber}), strata([]int{1, 2, 3, 4, 5, 6, 7, 8, 9, 10}),
	} {
		checkContradictory(t, r, nil, true)
		checkDoubts(t, r, [][2]int{})
		checkGroupsOf(t, r)
		checkResolves(t, r, nil, true, true)
		checkResolves(t, r, relationsOf([][2]int{{1, 2}}), false, false)
		checkLightest(t, r, nil, nil, 0, true)
		checkLightest(t, r, []int{}, nil, 0, true)
		checkLightest(t, r, []int{1}, nil, 0, false)
		for _, a := range numbersOf(r) {
			for _, b := range numbersOf(r) {
				checkWould(t, r, a, b, false, a != b)
			}
		}
		checkWould(t, r, 1, 500, false, false)
		checkWould(t, r, 500, 501, false, false)
	}
}

func TestInvalidRecordsHaveNoDoubts(t *testing.T) {
	sites := invalidSites()
	// A cycle shows whether the flaw is found.
	sites["a cycle and number 0"] = strata([]int{0, 1, 2}, ring(1, 2)...)
	sites["a cycle with number 0"] = strata([]int{0, 1}, ring(0, 1)...)
	sites["a cycle and a relation with itself"] = strata([]int{1, 2}, append(ring(1, 2), [2]int{2, 2})...)
	sites["a cycle with another context"] = strata([]int{1, 2}, ring(1, 2, 3)...)
	many := fullKnot()
	many.Relations = append(many.Relations, impl.Relation{Upper: 10, Lower: 2})
	sites["a cycle and too many relations"] = many
	for name, r := range sites {
		before := copyOf(r)
		checkNoDoubts(t, r)
		if !sameRecord(r, before) {
			t.Errorf("%s: the argument became %v", name, r)
		}
	}
}

// plainDoubts is what the chapter says about a valid record, found in the list of all cycles:
// sets of its relations are numbers with a bit for every relation.
type plainDoubts struct {
	r      impl.Record
	cycles []uint32
	doubts [][]impl.Relation
}

func plainDoubtsOf(r impl.Record) plainDoubts {
	p := plainDoubts{r: r}
	for _, chain := range allChains(r) {
		if chain[0] != chain[len(chain)-1] || chain[0] != slices.Min(chain) {
			continue
		}
		cycle := uint32(0)
		for i, n := range chain[1:] {
			cycle |= 1 << slices.Index(r.Relations, impl.Relation{Upper: chain[i], Lower: n})
		}
		p.cycles = append(p.cycles, cycle)
	}
	for size := range impl.MaxDoubts + 1 {
		p.findDoubts(0, 0, size)
	}
	return p
}

// findDoubts adds the doubts that consist of a set and count relations from the given one on.
func (p *plainDoubts) findDoubts(set uint32, from, count int) {
	if count == 0 {
		if p.isDoubt(set) {
			p.doubts = append(p.doubts, p.relations(set))
		}
		return
	}
	for i := from; i < len(p.r.Relations); i++ {
		p.findDoubts(set|1<<i, i+1, count-1)
	}
}

func (p plainDoubts) resolves(set uint32) bool {
	for _, cycle := range p.cycles {
		if cycle&set == 0 {
			return false
		}
	}
	return true
}

func (p plainDoubts) isDoubt(set uint32) bool {
	if !p.resolves(set) {
		return false
	}
	for left := set; left != 0; left &= left - 1 {
		if p.resolves(set &^ (left & -left)) {
			return false
		}
	}
	return true
}

func (p plainDoubts) relations(set uint32) []impl.Relation {
	list := []impl.Relation{}
	for i, x := range p.r.Relations {
		if set>>i&1 == 1 {
			list = append(list, x)
		}
	}
	return list
}

// lightest returns nothing but true or false if there is no doubt.
func (p plainDoubts) lightest(weights []int) ([]impl.Relation, int, bool) {
	var best []impl.Relation
	least, found := 0, false
	for _, set := range p.doubts {
		sum := 0
		for _, x := range set {
			sum += weights[slices.Index(p.r.Relations, x)]
		}
		if !found || sum < least {
			best, least, found = set, sum, true
		}
	}
	return best, least, found
}

// checkWholeDoubts holds every function against all cycles of a valid record.
func checkWholeDoubts(t *testing.T, source *rand.Rand, r impl.Record) {
	t.Helper()
	p := plainDoubtsOf(r)
	all := uint32(0)
	for _, cycle := range p.cycles {
		all |= cycle
	}
	checkContradictory(t, r, p.relations(all), true)
	for size := range impl.MaxDoubts + 1 {
		want := slices.DeleteFunc(slices.Clone(p.doubts), func(set []impl.Relation) bool { return len(set) > size })
		if len(want) <= impl.MaxSets {
			checkAllDoubts(t, r, size, want, true)
		} else {
			checkAllDoubts(t, r, size, nil, false)
		}
	}
	if len(p.doubts) > 0 {
		checkSmallest(t, r, p.doubts[0], true)
	} else {
		checkSmallest(t, r, nil, false)
	}
	for _, greatest := range []int{1, 3, 100} {
		weights := []int{}
		for range r.Relations {
			weights = append(weights, 1+source.Intn(greatest))
		}
		want, weight, found := p.lightest(weights)
		checkLightest(t, r, weights, want, weight, found)
	}
	for range 10 {
		set := source.Uint32() & source.Uint32() & (1<<len(r.Relations) - 1)
		checkResolves(t, r, p.relations(set), p.resolves(set), true)
	}
	checkCyclesOfContexts(t, r)
}

// checkCyclesOfContexts holds what is said about contexts against all chains.
func checkCyclesOfContexts(t *testing.T, r impl.Record) {
	t.Helper()
	later := map[[2]int]bool{}
	for _, chain := range allChains(r) {
		later[[2]int{chain[0], chain[len(chain)-1]}] = true
	}
	groups := map[int][]int{}
	suspects, firsts := []int{}, []int{}
	for _, a := range numbersOf(r) {
		for _, b := range numbersOf(r) {
			checkWould(t, r, a, b, a != b && later[[2]int{b, a}], a != b)
		}
		if !later[[2]int{a, a}] {
			continue
		}
		suspects = append(suspects, a)
		i := slices.IndexFunc(firsts, func(n int) bool { return later[[2]int{a, n}] && later[[2]int{n, a}] })
		if i < 0 {
			i = len(firsts)
			firsts = append(firsts, a)
		}
		groups[firsts[i]] = append(groups[firsts[i]], a)
	}
	want := [][]int{}
	for _, n := range firsts {
		want = append(want, groups[n])
	}
	checkSuspects(t, r, suspects, true)
	checkGroups(t, r, want, true)
}

func TestAllDoubtsOfFewContexts(t *testing.T) {
	source := rand.New(rand.NewSource(6))
	for _, r := range recordsOfFewContexts() {
		checkWholeDoubts(t, source, r)
	}
}

func TestEverySetOfFewContexts(t *testing.T) {
	for bits := range 64 {
		p := plainDoubtsOf(recordOfBits([]int{9, 10, 100}, bits))
		for set := range uint32(1 << len(p.r.Relations)) {
			checkResolves(t, p.r, p.relations(set), p.resolves(set), true)
		}
	}
}

func TestDoubtsOfManyRecords(t *testing.T) {
	source := rand.New(rand.NewSource(60))
	for range 8 {
		for count := range impl.MaxRelations + 1 {
			checkWholeDoubts(t, source, chosenRecord(source, count, false))
		}
	}
	for range 100 {
		checkWholeDoubts(t, source, knotted(source))
	}
	for _, r := range doubtSites() {
		checkWholeDoubts(t, source, r)
	}
}

// knotted has a few relations more than a consistent record, so that its doubts are small.
func knotted(source *rand.Rand) impl.Record {
	r := chosenRecord(source, 8+source.Intn(12), true)
	for range 1 + source.Intn(5) {
		a, b := source.Intn(impl.MaxContexts), source.Intn(impl.MaxContexts)
		x := impl.Relation{Upper: r.Contexts[a].Number, Lower: r.Contexts[b].Number}
		if more, ok := impl.AddRelation(r, x); ok {
			r = more
		}
	}
	return r
}

// checkPromisedDoubts checks promise 6 and the guarantee of the chapter in the results alone,
// and returns the number of doubts.
func checkPromisedDoubts(t *testing.T, r impl.Record) int {
	t.Helper()
	consistent, _ := impl.IsConsistent(r)
	doubts := [][]impl.Relation{}
	for size := range impl.MaxDoubts + 1 {
		if list, ok := impl.AllDoubts(r, size); ok {
			doubts = list
		}
	}
	lightest, _, found := impl.LightestDoubt(r, equalWeights(r, 1))
	if found {
		smallest, _ := impl.SmallestDoubt(r)
		doubts = append(doubts, smallest, lightest)
	}
	for _, set := range doubts {
		checkResolves(t, r, set, true, true)
		less := r
		for _, x := range set {
			less, _ = impl.RemoveRelation(less, x)
		}
		checkConsistent(t, less, true, true)
		for i := range set {
			checkResolves(t, r, slices.Concat(set[:i], set[i+1:]), false, true)
			back, _ := impl.AddRelation(less, set[i])
			checkConsistent(t, back, false, true)
		}
		if consistent && len(set) != 0 || !consistent && len(set) == 0 {
			t.Errorf("%v is consistent: %v, and has the doubt %v", r, consistent, set)
		}
	}
	return len(doubts)
}

func TestDoubtsResolveTheRecordAndNothingCanBeLeftOut(t *testing.T) {
	for _, r := range doubtSites() {
		checkPromisedDoubts(t, r)
	}
	source := rand.New(rand.NewSource(66))
	count := 0
	for range 100 {
		count += checkPromisedDoubts(t, knotted(source))
		count += checkPromisedDoubts(t, chosenRecord(source, source.Intn(impl.MaxRelations+1), false))
	}
	if count < 500 {
		t.Errorf("only %d doubts were checked", count)
	}
}

// TestDoubtsOfLargeKnots has records with MaxRelations relations, most of which have no doubt.
func TestDoubtsOfLargeKnots(t *testing.T) {
	source := rand.New(rand.NewSource(666))
	numbers := []int{1, 2, 3, 4, 5, 6}
	for range 20 {
		chosen := 0
		for _, i := range source.Perm(30)[:impl.MaxRelations] {
			chosen |= 1 << i
		}
		checkWholeDoubts(t, source, recordOfBits(numbers, chosen))
	}
}

// checkSeparate overwrites lists with all their capacity, one after the other.
func checkSeparate[T comparable](t *testing.T, name string, got, want [][]T) {
	t.Helper()
	for i := range want {
		if !slices.EqualFunc(got[i:], want[i:], slices.Equal[[]T]) {
			t.Errorf("%s: the lists %d and following are %v; want %v", name, i, got[i:], want[i:])
		}
		clear(got[i][:cap(got[i])])
	}
}

func backward[T any](list []T) []T {
	list = slices.Clone(list)
	slices.Reverse(list)
	return list
}

// relationLists calls every function of the chapter that returns lists of relations.
func relationLists(r impl.Record, weights []int) [][]impl.Relation {
	contradictory, _ := impl.ContradictoryRelations(r)
	smallest, _ := impl.SmallestDoubt(r)
	lightest, _, _ := impl.LightestDoubt(r, weights)
	all, _ := impl.AllDoubts(r, impl.MaxDoubts)
	return slices.Concat([][]impl.Relation{contradictory, smallest, lightest}, all)
}

// contextLists calls every function of the chapter that returns lists of contexts.
func contextLists(r impl.Record) [][]int {
	suspects, _ := impl.SuspectContexts(r)
	groups, _ := impl.ContradictionGroups(r)
	return slices.Concat([][]int{suspects}, groups)
}

// TestMemoryOfDoubts passes slices that have more elements beyond their lengths.
func TestMemoryOfDoubts(t *testing.T) {
	for name, plain := range doubtSites() {
		whole, r := lengthened(plain)
		wholeWeights := append(equalWeights(plain, 2), 1, 1000)
		before, weightsBefore := copyOf(whole), slices.Clone(wholeWeights)
		weights := wholeWeights[:len(plain.Relations)]
		relations := relationLists(plain, equalWeights(plain, 2))
		checkSeparate(t, name, relationLists(r, weights), relations)
		checkSeparate(t, name, backward(relationLists(r, weights)), backward(relations))
		contexts := contextLists(plain)
		checkSeparate(t, name, contextLists(r), contexts)
		checkSeparate(t, name, backward(contextLists(r)), backward(contexts))
		if !sameRecord(whole, before) || !slices.Equal(wholeWeights, weightsBefore) {
			t.Errorf("%s: the arguments became %v, %v", name, whole, wholeWeights)
		}
	}
}

// TestResolvesRecordLeavesItsArguments passes sets that are parts of longer lists, one of them
// the relations of the record itself.
func TestResolvesRecordLeavesItsArguments(t *testing.T) {
	for name, r := range doubtSites() {
		before := copyOf(r)
		list := slices.Clone(r.Relations)
		for i := range list {
			for n := i; n <= len(list); n++ {
				got, ok := impl.ResolvesRecord(r, list[i:n])
				same, sameOk := impl.ResolvesRecord(r, r.Relations[i:n])
				if got != same || !ok || !sameOk {
					t.Errorf("%s: ResolvesRecord = %v, %v, and %v, %v", name, got, ok, same, sameOk)
				}
				impl.WouldContradict(r, list[i])
			}
		}
		if !sameRecord(r, before) || !slices.Equal(list, before.Relations) {
			t.Errorf("%s: the arguments became %v, %v", name, r, list)
		}
	}
}
