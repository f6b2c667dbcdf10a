package tests

import (
	"cmp"
	"math"
	"math/rand"
	"slices"
	"testing"

	"loop.example/g00876/impl"
)

// matrixSites are consistent records that several tests use.
func matrixSites() map[string]impl.Record {
	return map[string]impl.Record{
		"empty":    {},
		"one":      strata([]int{7}),
		"loose":    strata([]int{3, 20, 100}),
		"pit":      pit(),
		"slope":    slope(),
		"fullSite": fullSite(),
		"ladder":   ladder(10),
		"grid":     grid(),
	}
}

// slope has every kind, and a relation that skips a row and is not redundant: 2 above 8.
func slope() impl.Record {
	return site(
		[][2]int{{2, impl.KindNatural}, {3, impl.KindCut}, {5, impl.KindStructure}, {8, impl.KindDeposit}, {40, impl.KindCut}},
		[2]int{2, 8}, [2]int{3, 5}, [2]int{5, 8}, [2]int{8, 40},
	)
}

// ladder has the contexts 1, 2, ... count, each above the next one.
func ladder(count int) impl.Record {
	numbers, relations := []int{1}, [][2]int{}
	for n := 2; n <= count; n++ {
		numbers = append(numbers, n)
		relations = append(relations, [2]int{n - 1, n})
	}
	return strata(numbers, relations...)
}

// grid has two rows of MaxRow contexts and MaxRelations links: all but 5 above 10.
func grid() impl.Record {
	r := impl.Record{}
	for n := 1; n <= 10; n++ {
		r.Contexts = append(r.Contexts, impl.Context{Number: n, Kind: impl.KindDeposit})
	}
	for i := range impl.MaxRelations {
		r.Relations = append(r.Relations, impl.Relation{Upper: 1 + i/5, Lower: 6 + i%5})
	}
	return r
}

// with returns r with more relations.
func with(r impl.Record, relations ...[2]int) impl.Record {
	r = copyOf(r)
	r.Relations = append(r.Relations, relationsOf(relations)...)
	slices.SortFunc(r.Relations, func(a, b impl.Relation) int {
		return cmp.Or(cmp.Compare(a.Upper, b.Upper), cmp.Compare(a.Lower, b.Lower))
	})
	return r
}

func relationsOf(pairs [][2]int) []impl.Relation {
	list := []impl.Relation{}
	for _, p := range pairs {
		list = append(list, impl.Relation{Upper: p[0], Lower: p[1]})
	}
	return list
}

// without returns r without these relations.
func without(r impl.Record, relations ...[2]int) impl.Record {
	r = copyOf(r)
	r.Relations = slices.DeleteFunc(r.Relations, func(x impl.Relation) bool {
		return slices.Contains(relations, [2]int{x.Upper, x.Lower})
	})
	return r
}

func sameRows(a, b [][]int) bool {
	return slices.EqualFunc(a, b, slices.Equal[[]int])
}

func cloneRows(rows [][]int) [][]int {
	list := [][]int{}
	for _, row := range rows {
		list = append(list, slices.Clone(row))
	}
	return list
}

func checkRedundant(t *testing.T, r impl.Record, want [][2]int, wantOk bool) {
	t.Helper()
	if got, ok := impl.RedundantRelations(r); !slices.Equal(got, relationsOf(want)) || ok != wantOk {
		t.Errorf("RedundantRelations(%v) = %v, %v; want %v, %v", r, got, ok, want, wantOk)
	}
}

// checkReduction wants that exactly these relations are redundant.
func checkReduction(t *testing.T, r impl.Record, redundant ...[2]int) {
	t.Helper()
	checkRedundant(t, r, redundant, true)
	got, ok := impl.ReduceRecord(r)
	checkRecord(t, "ReduceRecord", got, ok, without(r, redundant...), true)
}

func checkClosed(t *testing.T, r impl.Record, want impl.Record, wantOk bool) {
	t.Helper()
	got, ok := impl.CloseRecord(r)
	checkRecord(t, "CloseRecord", got, ok, want, wantOk)
}

func checkDepth(t *testing.T, r impl.Record, number, want int, wantOk bool) {
	t.Helper()
	if got, ok := impl.DepthOf(r, number); got != want || ok != wantOk {
		t.Errorf("DepthOf(%v, %d) = %d, %v; want %d, %v", r, number, got, ok, want, wantOk)
	}
}

func checkRows(t *testing.T, r impl.Record, want [][]int, wantOk bool) {
	t.Helper()
	if got, ok := impl.MatrixRows(r); !sameRows(got, want) || ok != wantOk {
		t.Errorf("MatrixRows(%v) = %v, %v; want %v, %v", r, got, ok, want, wantOk)
	}
}

// checkMatrix wants these rows, and the depths that they show.
func checkMatrix(t *testing.T, r impl.Record, want ...[]int) {
	t.Helper()
	checkRows(t, r, want, true)
	for depth, row := range want {
		for _, n := range row {
			checkDepth(t, r, n, depth, true)
		}
	}
}

func checkLinks(t *testing.T, r impl.Record, want [][2]int, wantOk bool) {
	t.Helper()
	if got, ok := impl.MatrixLinks(r); !slices.Equal(got, relationsOf(want)) || ok != wantOk {
		t.Errorf("MatrixLinks(%v) = %v, %v; want %v, %v", r, got, ok, want, wantOk)
	}
}

func checkCrossings(t *testing.T, r impl.Record, rows [][]int, want int, wantOk bool) {
	t.Helper()
	if got, ok := impl.CountCrossings(r, rows); got != want || ok != wantOk {
		t.Errorf("CountCrossings(%v, %v) = %d, %v; want %d, %v", r, rows, got, ok, want, wantOk)
	}
}

func checkArranged(t *testing.T, r impl.Record, want [][]int, crossings int, wantOk bool) {
	t.Helper()
	got, count, ok := impl.ArrangeMatrix(r)
	if !sameRows(got, want) || count != crossings || ok != wantOk {
		t.Errorf("ArrangeMatrix(%v) = %v, %d, %v; want %v, %d, %v", r, got, count, ok, want, crossings, wantOk)
	}
}

// checkBest wants these rows as the best arrangement.
func checkBest(t *testing.T, r impl.Record, crossings int, want ...[]int) {
	t.Helper()
	checkArranged(t, r, want, crossings, true)
	checkCrossings(t, r, want, crossings, true)
}

func checkLongest(t *testing.T, r impl.Record, want []int, wantOk bool) {
	t.Helper()
	if got, ok := impl.LongestChain(r); !slices.Equal(got, want) || ok != wantOk {
		t.Errorf("LongestChain(%v) = %v, %v; want %v, %v", r, got, ok, want, wantOk)
	}
}

// checkNoMatrix wants that every function of the chapter refuses r.
func checkNoMatrix(t *testing.T, r impl.Record) {
	t.Helper()
	checkRedundant(t, r, nil, false)
	got, ok := impl.ReduceRecord(r)
	checkNoRecord(t, "ReduceRecord", got, ok)
	checkClosed(t, r, impl.Record{}, false)
	for _, number := range append(numbersOf(r), -1, 0, 1, 2, 3, 4) {
		checkDepth(t, r, number, 0, false)
	}
	checkRows(t, r, nil, false)
	checkLinks(t, r, nil, false)
	for _, rows := range [][][]int{nil, {}, {{}}, {numbersOf(r)}, {{1}, {2}}, {{2}, {1}}} {
		checkCrossings(t, r, rows, 0, false)
	}
	checkArranged(t, r, nil, 0, false)
	checkLongest(t, r, nil, false)
}

func TestRedundantRelations(t *testing.T) {
	checkReduction(t, pit(), [2]int{30, 200})
	checkReduction(t, strata([]int{1, 2, 3}, [2]int{1, 2}, [2]int{2, 3}, [2]int{1, 3}), [2]int{1, 3})
	checkReduction(t, strata([]int{1, 2, 3}, [2]int{3, 2}, [2]int{2, 1}, [2]int{3, 1}), [2]int{3, 1})
	// The other chain is long, or one of several.
	checkReduction(t, with(ladder(10), [2]int{1, 10}), [2]int{1, 10})
	checkReduction(t, with(ladder(10), [2]int{3, 10}, [2]int{1, 9}), [2]int{1, 9}, [2]int{3, 10})
	checkReduction(t, strata([]int{1, 2, 3, 4}, [2]int{1, 2}, [2]int{1, 3}, [2]int{2, 4}, [2]int{3, 4}, [2]int{1, 4}), [2]int{1, 4})
}

func TestSeveralRedundantRelations(t *testing.T) {
	// The shortest other chain from 1 to 4 has a relation that is redundant itself.
	checkReduction(t, with(ladder(4), [2]int{1, 3}, [2]int{1, 4}), [2]int{1, 3}, [2]int{1, 4})
	checkReduction(t, with(ladder(4), [2]int{1, 3}, [2]int{2, 4}), [2]int{1, 3}, [2]int{2, 4})
	checkReduction(t, with(ladder(5), [2]int{1, 3}, [2]int{3, 5}, [2]int{1, 4}, [2]int{2, 5}, [2]int{2, 4}, [2]int{1, 5}),
		[2]int{1, 3}, [2]int{1, 4}, [2]int{1, 5}, [2]int{2, 4}, [2]int{2, 5}, [2]int{3, 5})
	redundant := [][2]int{}
	for _, n := range []int{298, 397, 496, 595, 694, 793, 892, 991} {
		redundant = append(redundant, [2]int{100, n})
	}
	for _, n := range []int{397, 496, 595, 694, 793, 892, 991} {
		redundant = append(redundant, [2]int{199, n})
	}
	checkReduction(t, fullSite(), redundant...)
}

func TestRecordsThatAreReduced(t *testing.T) {
	for _, r := range []impl.Record{
		{}, strata([]int{1}), strata([]int{3, 20, 100}), ladder(2), ladder(10), slope(), grid(),
		strata([]int{1, 2, 3, 4}, [2]int{1, 2}, [2]int{1, 3}, [2]int{2, 4}, [2]int{3, 4}),
		strata([]int{1, 2, 3, 4}, [2]int{1, 3}, [2]int{1, 4}, [2]int{2, 3}, [2]int{2, 4}),
		without(fullSite(), [2]int{100, 199}, [2]int{100, 298}, [2]int{199, 298}),
	} {
		checkReduction(t, r)
	}
	for name, r := range matrixSites() {
		once, _ := impl.ReduceRecord(r)
		twice, ok := impl.ReduceRecord(once)
		checkRecord(t, name+": reduced twice", twice, ok, once, true)
	}
}

func TestCloseRecord(t *testing.T) {
	checkClosed(t, pit(), with(pit(), [2]int{30, 4}, [2]int{30, 7}, [2]int{9, 4}, [2]int{10, 4}), true)
	checkClosed(t, slope(), with(slope(), [2]int{2, 40}, [2]int{3, 8}, [2]int{3, 40}, [2]int{5, 40}), true)
	checkClosed(t, ladder(2), ladder(2), true)
	checkClosed(t, ladder(4), with(ladder(4), [2]int{1, 3}, [2]int{1, 4}, [2]int{2, 4}), true)
	checkClosed(t, grid(), grid(), true)
	checkClosed(t, strata([]int{9, 10, 100}, [2]int{100, 10}, [2]int{10, 9}), strata([]int{9, 10, 100}, [2]int{10, 9}, [2]int{100, 9}, [2]int{100, 10}), true)
}

func TestCloseRecordLimit(t *testing.T) {
	checkClosed(t, fullSite(), fullSite(), true)
	// Each reduced record has fewer relations than its closure, which has MaxRelations or one more.
	reduced, _ := impl.ReduceRecord(fullSite())
	checkClosed(t, reduced, fullSite(), true)
	checkClosed(t, with(reduced, [2]int{397, 496}), impl.Record{}, false)
	checkClosed(t, with(grid(), [2]int{4, 5}), impl.Record{}, false)
	nearly := without(grid(), [2]int{4, 10})
	checkClosed(t, with(nearly, [2]int{4, 5}), with(nearly, [2]int{4, 5}), true)
	for count := 1; count <= 10; count++ {
		got, ok := impl.CloseRecord(ladder(count))
		if pairs := count * (count - 1) / 2; ok != (pairs <= impl.MaxRelations) || ok && len(got.Relations) != pairs {
			t.Errorf("CloseRecord of %d contexts = %v, %v", count, got, ok)
		}
	}
}

func TestMatrixRows(t *testing.T) {
	checkMatrix(t, pit(), []int{30, 999}, []int{9, 10}, []int{7, 200}, []int{4})
	checkMatrix(t, slope(), []int{2, 3}, []int{5}, []int{8}, []int{40})
	checkMatrix(t, grid(), []int{1, 2, 3, 4, 5}, []int{6, 7, 8, 9, 10})
	checkMatrix(t, fullSite(), []int{100}, []int{199}, []int{298}, []int{397, 496, 595, 694, 793, 892, 991})
	// The greatest number of relations counts, whether the shorter chain is redundant or not.
	checkMatrix(t, with(ladder(4), [2]int{1, 4}), []int{1}, []int{2}, []int{3}, []int{4})
	checkMatrix(t, strata([]int{1, 2, 3, 4}, [2]int{4, 1}, [2]int{3, 2}, [2]int{2, 1}), []int{3, 4}, []int{2}, []int{1})
	checkMatrix(t, strata([]int{9, 10, 100}, [2]int{100, 9}, [2]int{100, 10}), []int{100}, []int{9, 10})
	// Contexts without relations are in the first row.
	checkMatrix(t, strata([]int{1, 2, 3, 4, 5}, [2]int{4, 2}), []int{1, 3, 4, 5}, []int{2})
	for n := 1; n <= 10; n++ {
		checkDepth(t, ladder(10), n, n-1, true)
	}
}

func TestMatrixLinks(t *testing.T) {
	checkLinks(t, pit(), [][2]int{{9, 200}, {10, 7}, {10, 200}, {30, 9}, {30, 10}, {200, 4}}, true)
	checkLinks(t, slope(), [][2]int{{3, 5}, {5, 8}, {8, 40}}, true)
	checkLinks(t, ladder(3), [][2]int{{1, 2}, {2, 3}}, true)
	checkLinks(t, with(ladder(4), [2]int{1, 3}, [2]int{1, 4}, [2]int{2, 4}), [][2]int{{1, 2}, {2, 3}, {3, 4}}, true)
	// 1 above 6 skips one row, 5 above 4 two rows; neither is redundant.
	skips := strata([]int{1, 2, 3, 4, 5, 6}, [2]int{2, 3}, [2]int{3, 6}, [2]int{6, 4}, [2]int{1, 6}, [2]int{5, 4})
	checkReduction(t, skips)
	checkLinks(t, skips, [][2]int{{2, 3}, {3, 6}, {6, 4}}, true)
	links, ok := impl.MatrixLinks(grid())
	if !slices.Equal(links, grid().Relations) || !ok {
		t.Errorf("MatrixLinks of the grid = %v, %v", links, ok)
	}
}

// twoRows has the contexts 1 to upper above the next ones, as the relations say.
func twoRows(upper, lower int, relations ...[2]int) impl.Record {
	numbers := []int{}
	for n := 1; n <= upper+lower; n++ {
		numbers = append(numbers, n)
	}
	return strata(numbers, relations...)
}

func TestCountCrossings(t *testing.T) {
	r := pit()
	checkCrossings(t, r, [][]int{{30, 999}, {9, 10}, {7, 200}, {4}}, 1, true)
	checkCrossings(t, r, [][]int{{999, 30}, {9, 10}, {7, 200}, {4}}, 1, true)
	checkCrossings(t, r, [][]int{{30, 999}, {9, 10}, {200, 7}, {4}}, 0, true)
	checkCrossings(t, r, [][]int{{30, 999}, {10, 9}, {7, 200}, {4}}, 0, true)
	checkCrossings(t, r, [][]int{{30, 999}, {10, 9}, {200, 7}, {4}}, 1, true)
	two := twoRows(2, 2, [2]int{1, 4}, [2]int{2, 3})
	checkCrossings(t, two, [][]int{{1, 2}, {3, 4}}, 1, true)
	checkCrossings(t, two, [][]int{{2, 1}, {3, 4}}, 0, true)
	checkCrossings(t, two, [][]int{{1, 2}, {4, 3}}, 0, true)
	checkCrossings(t, two, [][]int{{2, 1}, {4, 3}}, 1, true)
	// Every link crosses all others, or none does.
	five := twoRows(5, 5, [2]int{1, 6}, [2]int{2, 7}, [2]int{3, 8}, [2]int{4, 9}, [2]int{5, 10})
	checkCrossings(t, five, [][]int{{1, 2, 3, 4, 5}, {6, 7, 8, 9, 10}}, 0, true)
	checkCrossings(t, five, [][]int{{1, 2, 3, 4, 5}, {10, 9, 8, 7, 6}}, 10, true)
	checkCrossings(t, five, [][]int{{3, 1, 2, 5, 4}, {8, 6, 7, 10, 9}}, 0, true)
	checkCrossings(t, five, [][]int{{3, 1, 2, 5, 4}, {6, 8, 7, 10, 9}}, 1, true)
	checkCrossings(t, grid(), [][]int{{1, 2, 3, 4, 5}, {6, 7, 8, 9, 10}}, 100, true)
	checkCrossings(t, grid(), [][]int{{5, 4, 3, 2, 1}, {6, 7, 8, 9, 10}}, 84, true)
}

func TestLinksThatShareAContext(t *testing.T) {
	fan := twoRows(1, 4, [2]int{1, 2}, [2]int{1, 3}, [2]int{1, 4}, [2]int{1, 5})
	checkCrossings(t, fan, [][]int{{1}, {5, 2, 4, 3}}, 0, true)
	funnel := twoRows(4, 1, [2]int{1, 5}, [2]int{2, 5}, [2]int{3, 5}, [2]int{4, 5})
	checkCrossings(t, funnel, [][]int{{4, 1, 3, 2}, {5}}, 0, true)
	path := twoRows(2, 2, [2]int{1, 3}, [2]int{1, 4}, [2]int{2, 4})
	checkCrossings(t, path, [][]int{{1, 2}, {3, 4}}, 0, true)
	checkCrossings(t, path, [][]int{{1, 2}, {4, 3}}, 1, true)
}

// TestOnlyLinksCross: relations that skip a row, and links of other rows, cross nothing.
func TestOnlyLinksCross(t *testing.T) {
	skipping := strata([]int{1, 2, 3, 4, 5, 6}, [2]int{1, 3}, [2]int{2, 4}, [2]int{3, 5}, [2]int{4, 6}, [2]int{1, 6})
	checkLinks(t, skipping, [][2]int{{1, 3}, {2, 4}, {3, 5}, {4, 6}}, true)
	checkCrossings(t, skipping, [][]int{{1, 2}, {3, 4}, {5, 6}}, 0, true)
	checkCrossings(t, skipping, [][]int{{1, 2}, {3, 4}, {6, 5}}, 1, true)
	checkCrossings(t, skipping, [][]int{{2, 1}, {3, 4}, {5, 6}}, 1, true)
	checkCrossings(t, skipping, [][]int{{1, 2}, {4, 3}, {5, 6}}, 2, true)
	redundant := with(skipping, [2]int{1, 5})
	checkReduction(t, redundant, [2]int{1, 5})
	checkCrossings(t, redundant, [][]int{{1, 2}, {4, 3}, {5, 6}}, 2, true)
	checkCrossings(t, redundant, [][]int{{2, 1}, {4, 3}, {6, 5}}, 0, true)
}

func TestRowsThatAreNoArrangement(t *testing.T) {
	r := pit()
	for name, rows := range map[string][][]int{
		"no rows":              nil,
		"the last row missing": {{30, 999}, {9, 10}, {7, 200}},
		"a row missing":        {{30, 999}, {9, 10}, {4}},
		"rows joined":          {{30, 999}, {9, 10}, {7, 200, 4}},
		"an empty row more":    {{30, 999}, {9, 10}, {7, 200}, {4}, {}},
		"an empty first row":   {{}, {30, 999}, {9, 10}, {7, 200}, {4}},
		"a row twice":          {{30, 999}, {9, 10}, {7, 200}, {4}, {4}},
		"a context twice":      {{30, 30}, {9, 10}, {7, 200}, {4}},
		"a context too many":   {{30, 999, 30}, {9, 10}, {7, 200}, {4}},
		"a context missing":    {{30}, {9, 10}, {7, 200}, {4}},
		"the last one missing": {{30, 999}, {9, 10}, {7, 200}, {}},
		"another row":          {{30}, {9, 10, 999}, {7, 200}, {4}},
		"exchanged contexts":   {{30, 999}, {9, 7}, {10, 200}, {4}},
		"exchanged rows":       {{30, 999}, {7, 200}, {9, 10}, {4}},
		"rows upside down":     {{4}, {7, 200}, {9, 10}, {30, 999}},
		"an unknown context":   {{30, 998}, {9, 10}, {7, 200}, {4}},
		"an unknown one more":  {{30, 999}, {9, 10}, {7, 200}, {4, 5}},
		"a negative number":    {{30, 999}, {-9, 10}, {7, 200}, {4}},
		"great numbers":        {{30, math.MaxInt}, {9, 10}, {math.MinInt, 200}, {4}},
		"a long row":           {{30, 999}, {9, 10}, {7, 200}, make([]int, 100000)},
		"many rows":            make([][]int, 100000),
	} {
		before := cloneRows(rows)
		if count, ok := impl.CountCrossings(r, rows); count != 0 || ok {
			t.Errorf("%s: CountCrossings = %d, %v", name, count, ok)
		}
		if !sameRows(rows, before) {
			t.Errorf("%s: the argument became %v", name, rows)
		}
	}
}

func TestArrangeMatrix(t *testing.T) {
	checkBest(t, pit(), 0, []int{30, 999}, []int{9, 10}, []int{200, 7}, []int{4})
	checkBest(t, slope(), 0, []int{2, 3}, []int{5}, []int{8}, []int{40})
	checkBest(t, ladder(3), 0, []int{1}, []int{2}, []int{3})
	checkBest(t, twoRows(2, 2, [2]int{1, 4}, [2]int{2, 3}), 0, []int{1, 2}, []int{4, 3})
	// No arrangement is without crossings.
	checkBest(t, twoRows(2, 2, [2]int{1, 3}, [2]int{1, 4}, [2]int{2, 3}, [2]int{2, 4}), 1, []int{1, 2}, []int{3, 4})
	checkBest(t, twoRows(2, 3, [2]int{1, 3}, [2]int{1, 4}, [2]int{1, 5}, [2]int{2, 3}, [2]int{2, 4}, [2]int{2, 5}), 3, []int{1, 2}, []int{3, 4, 5})
	// The missing link would cross 16 others if 5 were last and 10 first.
	checkBest(t, grid(), 84, []int{1, 2, 3, 4, 5}, []int{10, 6, 7, 8, 9})
}

func TestSeveralBestArrangements(t *testing.T) {
	// The first row in ascending order would have a crossing, whatever the second one is.
	checkBest(t, twoRows(3, 2, [2]int{1, 4}, [2]int{2, 5}, [2]int{3, 4}), 0, []int{1, 3, 2}, []int{4, 5})
	checkBest(t, twoRows(3, 2, [2]int{1, 5}, [2]int{2, 4}, [2]int{3, 5}), 0, []int{1, 3, 2}, []int{5, 4})
	// The first row decides before all others, and a context without links stands anywhere.
	checkBest(t, twoRows(3, 2, [2]int{1, 5}, [2]int{3, 4}), 0, []int{1, 2, 3}, []int{5, 4})
	checkBest(t, twoRows(4, 2, [2]int{3, 6}, [2]int{4, 5}), 0, []int{1, 2, 3, 4}, []int{6, 5})
	checkBest(t, strata([]int{1, 2, 3, 4, 5, 6}, [2]int{1, 3}, [2]int{2, 4}, [2]int{3, 6}, [2]int{4, 5}), 0, []int{1, 2}, []int{3, 4}, []int{6, 5})
	checkBest(t, strata([]int{1, 2, 3, 4, 5, 6}, [2]int{1, 4}, [2]int{2, 3}, [2]int{3, 5}, [2]int{4, 6}), 0, []int{1, 2}, []int{4, 3}, []int{6, 5})
	// The second row is chosen for the third one, although its own links allow a smaller one.
	checkBest(t, strata([]int{1, 2, 3, 4, 5, 6}, [2]int{1, 2}, [2]int{1, 3}, [2]int{1, 4}, [2]int{2, 5}, [2]int{3, 6}, [2]int{4, 5}), 0,
		[]int{1}, []int{2, 4, 3}, []int{5, 6})
	// Numbers are compared, not their digits.
	checkBest(t, strata([]int{9, 10, 100, 101}, [2]int{10, 100}, [2]int{9, 101}), 0, []int{9, 10}, []int{101, 100})
	checkBest(t, strata([]int{1, 9, 10, 100}, [2]int{1, 9}, [2]int{1, 10}, [2]int{1, 100}), 0, []int{1}, []int{9, 10, 100})
}

func TestArrangeMatrixRowLimit(t *testing.T) {
	checkBest(t, strata([]int{1, 2, 3, 4, impl.MaxRow}), 0, []int{1, 2, 3, 4, impl.MaxRow})
	six := strata([]int{1, 2, 3, 4, 5, 6})
	checkArranged(t, six, nil, 0, false)
	checkMatrix(t, six, []int{1, 2, 3, 4, 5, 6})
	checkCrossings(t, six, [][]int{{3, 2, 1, 6, 5, 4}}, 0, true)
	five := twoRows(1, 5, [2]int{1, 2}, [2]int{1, 3}, [2]int{1, 4}, [2]int{1, 5}, [2]int{1, 6})
	checkBest(t, five, 0, []int{1}, []int{2, 3, 4, 5, 6})
	below := twoRows(1, 6, [2]int{1, 2}, [2]int{1, 3}, [2]int{1, 4}, [2]int{1, 5}, [2]int{1, 6}, [2]int{1, 7})
	checkArranged(t, below, nil, 0, false)
	checkCrossings(t, below, [][]int{{1}, {7, 6, 5, 4, 3, 2}}, 0, true)
	// The last row is too long, the others are not.
	checkArranged(t, fullSite(), nil, 0, false)
	checkCrossings(t, fullSite(), [][]int{{100}, {199}, {298}, {991, 397, 496, 595, 694, 793, 892}}, 0, true)
	for count := range impl.MaxContexts + 1 {
		r := impl.Record{Contexts: grid().Contexts[:count]}
		if rows, crossings, ok := impl.ArrangeMatrix(r); ok != (count <= impl.MaxRow) || crossings != 0 || !ok && len(rows) != 0 {
			t.Errorf("ArrangeMatrix of %d contexts = %v, %d, %v", count, rows, crossings, ok)
		}
	}
}

func TestLongestChain(t *testing.T) {
	checkLongest(t, pit(), []int{30, 9, 200, 4}, true)
	checkLongest(t, slope(), []int{3, 5, 8, 40}, true)
	checkLongest(t, ladder(10), []int{1, 2, 3, 4, 5, 6, 7, 8, 9, 10}, true)
	checkLongest(t, with(ladder(5), [2]int{1, 5}, [2]int{2, 5}), []int{1, 2, 3, 4, 5}, true)
	checkLongest(t, strata([]int{1, 2, 3}, [2]int{3, 2}, [2]int{2, 1}), []int{3, 2, 1}, true)
	// It begins with a greater Number than the first context, which is above a shorter chain.
	checkLongest(t, strata([]int{1, 2, 3, 4, 5}, [2]int{1, 2}, [2]int{3, 4}, [2]int{4, 5}), []int{3, 4, 5}, true)
	checkLongest(t, strata([]int{1, 2, 3}, [2]int{3, 2}), []int{3, 2}, true)
}

func TestSeveralLongestChains(t *testing.T) {
	checkLongest(t, grid(), []int{1, 6}, true)
	checkLongest(t, fullSite(), []int{100, 199, 298, 397}, true)
	checkLongest(t, strata([]int{1, 2, 3, 4}, [2]int{2, 1}, [2]int{4, 3}), []int{2, 1}, true)
	checkLongest(t, strata([]int{1, 2, 3, 4, 5}, [2]int{5, 3}, [2]int{5, 4}, [2]int{3, 2}, [2]int{4, 1}), []int{5, 3, 2}, true)
	checkLongest(t, strata([]int{1, 2, 3, 4, 5}, [2]int{1, 2}, [2]int{1, 3}, [2]int{1, 4}, [2]int{3, 5}, [2]int{4, 5}), []int{1, 3, 5}, true)
	checkLongest(t, strata([]int{9, 10, 100}, [2]int{100, 10}, [2]int{100, 9}), []int{100, 9}, true)
	checkLongest(t, strata([]int{1, 2, 3, 4, 5, 6}, [2]int{2, 6}, [2]int{6, 5}, [2]int{1, 4}, [2]int{4, 3}), []int{1, 4, 3}, true)
}

func TestMatrixOfTheEmptyRecord(t *testing.T) {
	for _, r := range []impl.Record{{}, {Contexts: []impl.Context{}, Relations: []impl.Relation{}}} {
		checkReduction(t, r)
		checkClosed(t, r, r, true)
		checkRows(t, r, nil, true)
		checkLinks(t, r, nil, true)
		checkCrossings(t, r, nil, 0, true)
		checkCrossings(t, r, [][]int{}, 0, true)
		checkCrossings(t, r, [][]int{{}}, 0, false)
		checkCrossings(t, r, [][]int{{1}}, 0, false)
		checkArranged(t, r, nil, 0, true)
		checkLongest(t, r, nil, true)
		for _, number := range []int{math.MinInt, -1, 0, 1, 2, impl.MaxNumber, math.MaxInt} {
			checkDepth(t, r, number, 0, false)
		}
	}
}

func TestMatrixWithoutRelations(t *testing.T) {
	for _, numbers := range [][]int{{1}, {impl.MaxNumber}, {3, 20, 100}, {1, 2, 3, 4, 5}, {1, 2, 3, 4, 5, 6, 7, 8, 9, 10}} {
		r := strata(numbers)
		checkReduction(t, r)
		checkClosed(t, r, r, true)
		checkMatrix(t, r, numbers)
		checkLinks(t, r, nil, true)
		reversed := slices.Clone(numbers)
		slices.Reverse(reversed)
		checkCrossings(t, r, [][]int{reversed}, 0, true)
		checkCrossings(t, r, [][]int{numbers, {}}, 0, false)
		checkCrossings(t, r, [][]int{numbers[1:]}, 0, false)
		checkCrossings(t, r, nil, 0, false)
		checkLongest(t, r, numbers[:1], true)
		if len(numbers) <= impl.MaxRow {
			checkBest(t, r, 0, numbers)
		}
	}
}

func TestDepthOfContextsThatTheRecordDoesNotHave(t *testing.T) {
	for _, r := range matrixSites() {
		numbers := numbersOf(r)
		for number := -1; number <= impl.MaxNumber+1; number++ {
			if !slices.Contains(numbers, number) {
				checkDepth(t, r, number, 0, false)
			}
		}
		for _, number := range []int{math.MinInt, math.MinInt + 1, -impl.MaxNumber, 1 << 32, math.MaxInt} {
			checkDepth(t, r, number, 0, false)
		}
	}
}

func TestInvalidRecordsHaveNoMatrix(t *testing.T) {
	for name, r := range invalidSites() {
		before := copyOf(r)
		checkNoMatrix(t, r)
		if !sameRecord(r, before) {
			t.Errorf("%s: the argument became %v", name, r)
		}
	}
}

func TestInconsistentRecordsHaveNoMatrix(t *testing.T) {
	for _, r := range []impl.Record{
		trench(), fullKnot(),
		strata([]int{1, 2}, [2]int{1, 2}, [2]int{2, 1}),
		strata([]int{1, 2, 3}, [2]int{1, 2}, [2]int{2, 3}, [2]int{3, 1}),
		// The cycle is below, above or apart from the other contexts.
		strata([]int{1, 2, 3}, [2]int{1, 2}, [2]int{2, 3}, [2]int{3, 2}),
		strata([]int{1, 2, 3}, [2]int{1, 2}, [2]int{2, 1}, [2]int{2, 3}),
		strata([]int{1, 2, 3, 4}, [2]int{1, 2}, [2]int{3, 4}, [2]int{4, 3}),
		with(ladder(10), [2]int{10, 1}),
		with(without(grid(), [2]int{1, 6}), [2]int{6, 1}, [2]int{9, 10}, [2]int{10, 9}),
	} {
		before := copyOf(r)
		checkNoMatrix(t, r)
		if !sameRecord(r, before) {
			t.Errorf("the argument became %v", r)
		}
	}
}

// plainMatrix is what the chapter says about a consistent record, found in the list of all chains.
type plainMatrix struct {
	redundant [][2]int
	closed    [][2]int
	rows      [][]int
	links     [][2]int
	longest   []int
}

func plainMatrixOf(r impl.Record) plainMatrix {
	m := plainMatrix{}
	chains := allChains(r)
	depths := map[int]int{}
	others := map[[2]int]bool{}
	for _, chain := range chains {
		first, last := chain[0], chain[len(chain)-1]
		if !slices.Contains(m.closed, [2]int{first, last}) {
			m.closed = append(m.closed, [2]int{first, last})
		}
		// The list ends with the longest chains, which replace what shorter ones say.
		depths[last] = len(chain) - 1
		others[[2]int{first, last}] = len(chain) > 2
		if len(chain) > len(m.longest) {
			m.longest = chain
		}
	}
	for _, n := range numbersOf(r) {
		for len(m.rows) <= depths[n] {
			m.rows = append(m.rows, nil)
		}
		m.rows[depths[n]] = append(m.rows[depths[n]], n)
	}
	for _, x := range r.Relations {
		pair := [2]int{x.Upper, x.Lower}
		if others[pair] {
			m.redundant = append(m.redundant, pair)
		} else if depths[x.Lower]-depths[x.Upper] == 1 {
			m.links = append(m.links, pair)
		}
	}
	if len(m.longest) == 0 && len(r.Contexts) > 0 {
		m.longest = []int{r.Contexts[0].Number}
	}
	slices.SortFunc(m.closed, func(a, b [2]int) int { return slices.Compare(a[:], b[:]) })
	return m
}

// crossings counts without regard to rows: links of other rows lie on other levels.
func (m plainMatrix) crossings(rows [][]int) int {
	var level, place [impl.MaxNumber + 1]int
	for i, row := range rows {
		for k, n := range row {
			level[n], place[n] = i, k
		}
	}
	count := 0
	for i, x := range m.links {
		for _, y := range m.links[:i] {
			upper, lower := cmp.Compare(place[x[0]], place[y[0]]), cmp.Compare(place[x[1]], place[y[1]])
			if level[x[0]] == level[y[0]] && upper != 0 && lower != 0 && upper != lower {
				count++
			}
		}
	}
	return count
}

// allOrders returns the orders of an ascending list, lexicographically.
func allOrders(list []int) [][]int {
	if len(list) == 0 {
		return [][]int{{}}
	}
	orders := [][]int{}
	for i, n := range list {
		rest := slices.Delete(slices.Clone(list), i, i+1)
		for _, order := range allOrders(rest) {
			orders = append(orders, append([]int{n}, order...))
		}
	}
	return orders
}

// eachArrangement calls use with every arrangement in lexicographic order of the rows.
func eachArrangement(rows [][]int, use func(rows [][]int)) {
	arranged := [][]int{}
	var arrange func()
	arrange = func() {
		if len(arranged) == len(rows) {
			use(arranged)
			return
		}
		for _, order := range allOrders(rows[len(arranged)]) {
			arranged = append(arranged, order)
			arrange()
			arranged = arranged[:len(arranged)-1]
		}
	}
	arrange()
}

// checkWholeMatrix holds every function against all chains and all arrangements of a record.
func checkWholeMatrix(t *testing.T, r impl.Record) {
	t.Helper()
	if consistent, _ := impl.IsConsistent(r); !consistent {
		checkNoMatrix(t, r)
		return
	}
	m := plainMatrixOf(r)
	checkReduction(t, r, m.redundant...)
	closed := impl.Record{Contexts: r.Contexts, Relations: relationsOf(m.closed)}
	if len(m.closed) > impl.MaxRelations {
		closed = impl.Record{}
	}
	checkClosed(t, r, closed, len(m.closed) <= impl.MaxRelations)
	checkMatrix(t, r, m.rows...)
	checkLinks(t, r, m.links, true)
	checkLongest(t, r, m.longest, true)
	checkCrossings(t, r, m.rows, m.crossings(m.rows), true)
	if slices.ContainsFunc(m.rows, func(row []int) bool { return len(row) > impl.MaxRow }) {
		checkArranged(t, r, nil, 0, false)
		return
	}
	best, fewest := [][]int{}, math.MaxInt
	eachArrangement(m.rows, func(rows [][]int) {
		if count := m.crossings(rows); count < fewest {
			best, fewest = cloneRows(rows), count
		}
	})
	checkBest(t, r, fewest, best...)
}

func TestEveryMatrixOfFewContexts(t *testing.T) {
	for _, r := range recordsOfFewContexts() {
		checkWholeMatrix(t, r)
	}
}

// TestEveryMatrixOfTwoRows has every set of relations from three contexts to three others, whose
// Numbers are mixed.
func TestEveryMatrixOfTwoRows(t *testing.T) {
	for bits := range 512 {
		relations := [][2]int{}
		for i := range 9 {
			if bits>>i&1 == 1 {
				relations = append(relations, [2]int{[]int{2, 9, 100}[i/3], []int{5, 10, 31}[i%3]})
			}
		}
		checkWholeMatrix(t, strata([]int{2, 5, 9, 10, 31, 100}, relations...))
	}
}

// layered has 10 contexts in layers of the given sizes, and up to count relations from one of
// the layers to a lower one, most of them to the next one.
func layered(source *rand.Rand, count int, sizes ...int) impl.Record {
	numbers := source.Perm(impl.MaxNumber)[:impl.MaxContexts]
	layers := []int{}
	for i := range numbers {
		numbers[i]++
	}
	for layer, size := range sizes {
		layers = append(layers, slices.Repeat([]int{layer}, size)...)
	}
	relations := [][2]int{}
	for range count {
		i, k := source.Intn(len(numbers)), source.Intn(len(numbers))
		down := layers[k] - layers[i]
		x := [2]int{numbers[i], numbers[k]}
		if (down == 1 || down > 1 && source.Intn(4) == 0) && !slices.Contains(relations, x) && len(relations) < impl.MaxRelations {
			relations = append(relations, x)
		}
	}
	return strata(numbers, relations...)
}

func TestMatrixOfManyRecords(t *testing.T) {
	source := rand.New(rand.NewSource(5))
	for range 5 {
		for count := range impl.MaxRelations + 1 {
			checkWholeMatrix(t, chosenRecord(source, count, true))
		}
		for _, count := range []int{30, 60, 120} {
			for _, sizes := range [][]int{{5, 5}, {3, 4, 3}, {2, 3, 3, 2}, {1, 5, 4}, {2, 2, 2, 2, 2}} {
				checkWholeMatrix(t, layered(source, count, sizes...))
			}
		}
	}
	for _, r := range matrixSites() {
		checkWholeMatrix(t, r)
	}
}

// checkPromise checks promise 5 in the results alone.
func checkPromise(t *testing.T, r impl.Record) {
	t.Helper()
	reduced, ok := impl.ReduceRecord(r)
	if !ok {
		t.Fatalf("ReduceRecord(%v) fails", r)
	}
	for _, a := range numbersOf(r) {
		for _, b := range numbersOf(r) {
			before, _ := impl.IsLater(r, a, b)
			after, ok := impl.IsLater(reduced, a, b)
			if before != after || !ok {
				t.Errorf("%v, reduced to %v: later(%d, %d) was %v and is %v", r, reduced, a, b, before, after)
			}
		}
	}
	for _, x := range reduced.Relations {
		less, _ := impl.RemoveRelation(reduced, x)
		if later, _ := impl.IsLater(less, x.Upper, x.Lower); later {
			t.Errorf("%v, reduced to %v: %v is redundant", r, reduced, x)
		}
	}
	if closed, ok := impl.CloseRecord(r); ok {
		got, ok := impl.ReduceRecord(closed)
		checkRecord(t, "the closure, reduced", got, ok, reduced, true)
		checkClosed(t, reduced, closed, true)
	}
	best, fewest, ok := impl.ArrangeMatrix(r)
	if !ok {
		return
	}
	checkCrossings(t, r, best, fewest, true)
	rows, _ := impl.MatrixRows(r)
	eachArrangement(rows, func(rows [][]int) {
		count, ok := impl.CountCrossings(r, rows)
		if !ok || count < fewest || count == fewest && slices.CompareFunc(rows, best, slices.Compare[[]int]) < 0 {
			t.Errorf("CountCrossings(%v, %v) = %d, %v; best are %d of %v", r, rows, count, ok, fewest, best)
		}
	})
}

func TestReducingKeepsTheOrderAndTheBestArrangementIsBest(t *testing.T) {
	for _, r := range matrixSites() {
		if len(r.Relations) < impl.MaxRelations {
			checkPromise(t, r)
		}
	}
	source := rand.New(rand.NewSource(50))
	for count := range impl.MaxRelations + 1 {
		checkPromise(t, chosenRecord(source, count, true))
	}
	for range 20 {
		checkPromise(t, layered(source, 60, 3, 4, 3))
		checkPromise(t, layered(source, 60, 2, 3, 3, 2))
	}
}

// matrixLists calls every function of the chapter that returns lists of numbers.
func matrixLists(r impl.Record) [][]int {
	chain, _ := impl.LongestChain(r)
	rows, _ := impl.MatrixRows(r)
	arranged, _, _ := impl.ArrangeMatrix(r)
	return slices.Concat([][]int{chain}, rows, arranged)
}

// TestMemoryOfMatrix passes records whose slices have more elements beyond their lengths, and
// overwrites the results one after the other.
func TestMemoryOfMatrix(t *testing.T) {
	for name, plain := range matrixSites() {
		whole, r := lengthened(plain)
		before := copyOf(whole)
		want, got := matrixLists(plain), matrixLists(r)
		for i := range want {
			if !sameRows(got[i:], want[i:]) {
				t.Errorf("%s: the lists %d and following are %v; want %v", name, i, got[i:], want[i:])
			}
			overwrite(got[i])
		}
		checkMemoryOfRelations(t, name, r, plain)
		if !sameRecord(whole, before) {
			t.Errorf("%s: the argument became %v", name, whole)
		}
	}
}

func checkMemoryOfRelations(t *testing.T, name string, r, plain impl.Record) {
	t.Helper()
	for what, change := range map[string]func(impl.Record) (impl.Record, bool){
		"ReduceRecord": impl.ReduceRecord,
		"CloseRecord":  impl.CloseRecord,
		"RedundantRelations": func(r impl.Record) (impl.Record, bool) {
			list, ok := impl.RedundantRelations(r)
			return impl.Record{Relations: list}, ok
		},
		"MatrixLinks": func(r impl.Record) (impl.Record, bool) {
			list, ok := impl.MatrixLinks(r)
			return impl.Record{Relations: list}, ok
		},
	} {
		want, wantOk := change(plain)
		got, ok := change(r)
		if !sameRecord(got, want) || ok != wantOk {
			t.Errorf("%s: %s of %v = %v, %v; want %v, %v", name, what, r, got, ok, want, wantOk)
		}
		clearRecord(got)
	}
}

// TestCountCrossingsLeavesItsArguments passes rows that share one list, and more elements and
// rows beyond the lengths.
func TestCountCrossingsLeavesItsArguments(t *testing.T) {
	r := pit()
	for _, numbers := range [][]int{{999, 30, 10, 9, 7, 200, 4, 30, 9}, {999, 30, 10, 9, 200, 7, 5, 30, 9}} {
		list := slices.Clone(numbers)
		whole := [][]int{list[0:2], list[2:4], list[4:6], list[6:7], list[7:9]}
		before := cloneRows(whole)
		count, ok := impl.CountCrossings(r, whole[:4])
		if ok != (numbers[6] == 4) || count != 0 {
			t.Errorf("CountCrossings(%v) = %d, %v", whole[:4], count, ok)
		}
		if !slices.Equal(list, numbers) || !sameRows(whole, before) || len(whole[3]) != 1 {
			t.Errorf("the argument became %v", whole)
		}
		if !sameRecord(r, pit()) {
			t.Errorf("the argument became %v", r)
		}
	}
}
