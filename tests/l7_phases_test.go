package tests

import (
	"maps"
	"math"
	"math/rand"
	"slices"
	"strconv"
	"strings"
	"testing"

	"loop.example/g00876/impl"
)

func phase(name string, members ...int) impl.Phase {
	return impl.Phase{Name: name, Members: members}
}

// lettered returns the grouping with the phases a, b, c, ... that have these members.
func lettered(members ...[]int) []impl.Phase {
	list := []impl.Phase{}
	for i, numbers := range members {
		list = append(list, phase(string(rune('a'+i)), numbers...))
	}
	return list
}

// singles returns the phases a, b, c, ... of one context each.
func singles(numbers ...int) []impl.Phase {
	members := [][]int{}
	for _, n := range numbers {
		members = append(members, []int{n})
	}
	return lettered(members...)
}

// reordered returns the phases with these indices.
func reordered(list []impl.Phase, order []int) []impl.Phase {
	changed := []impl.Phase{}
	for _, i := range order {
		changed = append(changed, list[i])
	}
	return changed
}

func samePhases(a, b []impl.Phase) bool {
	return slices.EqualFunc(a, b, func(p, q impl.Phase) bool {
		return p.Name == q.Name && slices.Equal(p.Members, q.Members)
	})
}

func clonePhases(list []impl.Phase) []impl.Phase {
	list = slices.Clone(list)
	for i := range list {
		list[i].Members = slices.Clone(list[i].Members)
	}
	return list
}

func membersOf(list []impl.Phase) [][]int {
	members := [][]int{}
	for _, p := range list {
		members = append(members, p.Members)
	}
	return members
}

// threePhases is a sound grouping of the pit; 4 and 7 belong to no phase.
func threePhases() []impl.Phase {
	return []impl.Phase{phase("late", 30), phase("mid", 9, 10, 999), phase("old", 200)}
}

func checkGrouping(t *testing.T, r impl.Record, list []impl.Phase, want bool) {
	t.Helper()
	if got := impl.IsValidGrouping(r, list); got != want {
		t.Errorf("IsValidGrouping(%v, %v) = %v", r, list, got)
	}
}

func checkPhaseOf(t *testing.T, r impl.Record, list []impl.Phase, number, want int, wantOk bool) {
	t.Helper()
	if got, ok := impl.PhaseOf(r, list, number); got != want || ok != wantOk {
		t.Errorf("PhaseOf(%v, %v, %d) = %d, %v; want %d, %v", r, list, number, got, ok, want, wantOk)
	}
}

func checkUngrouped(t *testing.T, r impl.Record, list []impl.Phase, want []int, wantOk bool) {
	t.Helper()
	if got, ok := impl.UngroupedContexts(r, list); !slices.Equal(got, want) || ok != wantOk {
		t.Errorf("UngroupedContexts(%v, %v) = %v, %v; want %v, %v", r, list, got, ok, want, wantOk)
	}
}

// checkUnsound wants that the grouping is sound if the pair is {0, 0}.
func checkUnsound(t *testing.T, r impl.Record, list []impl.Phase, pair [2]int, wantOk bool) {
	t.Helper()
	a, b, found, ok := impl.FirstUnsound(r, list)
	if a != pair[0] || b != pair[1] || found != (pair[0] != 0) || ok != wantOk {
		t.Errorf("FirstUnsound(%v, %v) = %d, %d, %v, %v; want %v, %v", r, list, a, b, found, ok, pair, wantOk)
	}
}

func checkPhaseOrder(t *testing.T, r impl.Record, list []impl.Phase, want []int, wantOk bool) {
	t.Helper()
	if got, ok := impl.OrderPhases(r, list); !slices.Equal(got, want) || ok != wantOk {
		t.Errorf("OrderPhases(%v, %v) = %v, %v; want %v, %v", r, list, got, ok, want, wantOk)
	}
}

// phaseRecord returns the record of a number of phases with these relations between their indices.
func phaseRecord(count int, relations ...[2]int) impl.Record {
	numbers := []int{}
	for i := range count {
		numbers = append(numbers, i+1)
	}
	for i := range relations {
		relations[i][0]++
		relations[i][1]++
	}
	return strata(numbers, relations...)
}

func checkPhaseRecord(t *testing.T, r impl.Record, list []impl.Phase, want impl.Record, wantOk bool) {
	t.Helper()
	got, ok := impl.PhaseRecord(r, list)
	checkRecord(t, "PhaseRecord", got, ok, want, wantOk)
}

func checkRowPhases(t *testing.T, r impl.Record, want []impl.Phase, wantOk bool) {
	t.Helper()
	if got, ok := impl.SplitByDepth(r); !samePhases(got, want) || ok != wantOk {
		t.Errorf("SplitByDepth(%v) = %v, %v; want %v, %v", r, got, ok, want, wantOk)
	}
}

func checkMerged(t *testing.T, r impl.Record, list []impl.Phase, i, k int, want []impl.Phase, wantOk bool) {
	t.Helper()
	got, ok := impl.MergePhases(r, list, i, k)
	if !samePhases(got, want) || ok != wantOk {
		t.Errorf("MergePhases(%v, %v, %d, %d) = %v, %v; want %v, %v", r, list, i, k, got, ok, want, wantOk)
	}
}

func checkSpread(t *testing.T, r impl.Record, list []impl.Phase, i, want int, wantOk bool) {
	t.Helper()
	if got, ok := impl.SpreadOf(r, list, i); got != want || ok != wantOk {
		t.Errorf("SpreadOf(%v, %v, %d) = %d, %v; want %d, %v", r, list, i, got, ok, want, wantOk)
	}
}

// checkNoGrouping wants that every function of groupings refuses these arguments, and leaves the
// phases as they are.
func checkNoGrouping(t *testing.T, r impl.Record, list []impl.Phase) {
	t.Helper()
	before := clonePhases(list)
	checkGrouping(t, r, list, false)
	for _, number := range append(numbersOf(r), -1, 0, 1, 2, 3, 4) {
		checkPhaseOf(t, r, list, number, 0, false)
	}
	checkUngrouped(t, r, list, nil, false)
	checkUnsound(t, r, list, [2]int{}, false)
	checkPhaseOrder(t, r, list, nil, false)
	checkPhaseRecord(t, r, list, impl.Record{}, false)
	for i := -1; i <= min(len(list), impl.MaxPhases+1); i++ {
		checkSpread(t, r, list, i, 0, false)
		for k := -1; k <= min(len(list), impl.MaxPhases+1); k++ {
			checkMerged(t, r, list, i, k, nil, false)
		}
	}
	if !samePhases(list, before) {
		t.Errorf("the phases became %v", list)
	}
}

func TestValidGroupings(t *testing.T) {
	for name, list := range map[string][]impl.Phase{
		"none":             nil,
		"empty":            {},
		"three phases":     threePhases(),
		"one phase":        {phase("all", 4, 7, 9, 10, 30, 200, 999)},
		"one context":      {phase("x", 7)},
		"first and last":   {phase("x", 4, 999)},
		"not sound":        {phase("old", 4), phase("late", 30)},
		"mixed phases":     {phase("x", 4, 9, 30, 999), phase("y", 7, 10, 200)},
		"MaxPhases phases": singles(4, 7, 9, 10, 30, 200),
		"similar names":    {phase("a", 4), phase("aa", 7), phase("a1", 9), phase("a10", 10), phase("b", 30)},
	} {
		if !impl.IsValidGrouping(pit(), list) {
			t.Errorf("%s: %v is not valid", name, list)
		}
	}
	for name, r := range matrixSites() {
		if !impl.IsValidGrouping(r, nil) || !impl.IsValidGrouping(r, []impl.Phase{}) {
			t.Errorf("%s: the empty grouping is not valid", name)
		}
		if len(r.Contexts) > 0 && !impl.IsValidGrouping(r, lettered(numbersOf(r))) {
			t.Errorf("%s: a phase of all contexts is not valid", name)
		}
	}
}

// flawedPhases cannot be phases of the pit.
func flawedPhases() map[string]impl.Phase {
	return map[string]impl.Phase{
		"no members":              {Name: "x"},
		"an empty list":           phase("x", []int{}...),
		"a context twice":         phase("x", 7, 7),
		"the last one twice":      phase("x", 4, 7, 7),
		"the first one twice":     phase("x", 4, 4, 7),
		"one twice, not in a row": phase("x", 4, 7, 4),
		"descending":              phase("x", 7, 4),
		"the last ones disorder":  phase("x", 4, 999, 7),
		"the first ones disorder": phase("x", 7, 4, 999),
		"another context":         phase("x", 5),
		"another one first":       phase("x", 1, 4),
		"another one between":     phase("x", 4, 5, 7),
		"another one last":        phase("x", 7, 998),
		"0":                       phase("x", 0),
		"0 first":                 phase("x", 0, 4),
		"a negative number":       phase("x", -4, 7),
		"1000":                    phase("x", 4, 1000),
		"the smallest integer":    phase("x", math.MinInt, 4),
		"the greatest integer":    phase("x", 4, math.MaxInt),
		"no number of a context":  phase("x", 1, 2, 3, 5, 6, 8),
		"many members":            phase("x", slices.Repeat([]int{7}, 1000)...),
		"no name":                 phase("", 7),
		"nine letters":            phase("abcdefghi", 7),
		"nine letters and digits": phase("a12345678", 7),
		"a long name":             phase(strings.Repeat("a", 1000), 7),
		"a digit first":           phase("1a", 7),
		"only a digit":            phase("7", 7),
		"an upper-case letter":    phase("X", 7),
		"one after another one":   phase("xX", 7),
		"a hyphen":                phase("x-y", 7),
		"a space before":          phase(" x", 7),
		"a space behind":          phase("x ", 7),
		"a line break":            phase("x\n", 7),
		"a zero byte":             phase("x\x00", 7),
		"a letter of two bytes":   phase("xé", 7),
		"no text":                 phase("x\xff", 7),
		"eight signs":             phase("abcdefg_", 7),
	}
}

func TestInvalidPhases(t *testing.T) {
	others := []impl.Phase{phase("late", 30), phase("mid", 9), phase("old", 200)}
	for name, flawed := range flawedPhases() {
		for place := range len(others) + 1 {
			list := slices.Insert(slices.Clone(others), place, flawed)
			if impl.IsValidGrouping(pit(), list) {
				t.Errorf("%s: %v is valid", name, list)
			}
			checkNoGrouping(t, pit(), list)
		}
		checkNoGrouping(t, pit(), []impl.Phase{flawed})
	}
}

func TestPhasesThatDoNotGoTogether(t *testing.T) {
	for name, list := range map[string][]impl.Phase{
		"a context in two phases":      {phase("x", 7), phase("y", 7)},
		"it is the last one of both":   {phase("x", 4, 7), phase("y", 7)},
		"it is the first one of both":  {phase("x", 4), phase("y", 4, 7)},
		"it is the last and first one": {phase("x", 4, 9), phase("y", 9, 10)},
		"another one lies between":     {phase("x", 4, 9), phase("y", 10), phase("z", 9, 30)},
		"all contexts in two phases":   {phase("x", 9, 10, 30), phase("y", 9, 10, 30)},
		"a name twice":                 {phase("x", 4), phase("x", 7)},
		"a long name twice":            {phase("abcdefgh", 4), phase("abcdefgh", 7)},
		"one phase between":            {phase("x", 4), phase("y", 7), phase("x", 9)},
		"the last ones":                {phase("x", 4), phase("y", 7), phase("y", 9)},
		"the same phase twice":         {phase("x", 4), phase("x", 4)},
		"more than MaxPhases":          singles(4, 7, 9, 10, 30, 200, 999),
	} {
		if impl.IsValidGrouping(pit(), list) {
			t.Errorf("%s: %v is valid", name, list)
		}
		checkNoGrouping(t, pit(), list)
	}
}

func TestMaxPhases(t *testing.T) {
	r := ladder(10)
	for count := range impl.MaxContexts + 1 {
		list := singles(numbersOf(r)[:count]...)
		checkGrouping(t, r, list, count <= impl.MaxPhases)
		if count > impl.MaxPhases {
			checkNoGrouping(t, r, list)
		}
	}
	checkNoGrouping(t, r, slices.Repeat(singles(1), 1000))
	checkNoGrouping(t, r, make([]impl.Phase, 7))
}

func TestNames(t *testing.T) {
	r := strata([]int{7})
	named := func(name string, want bool) {
		t.Helper()
		checkGrouping(t, r, []impl.Phase{phase(name, 7)}, want)
	}
	for _, name := range []string{"a", "z", "a0", "z9", "row0", "abcdefgh", "zzzzzzzz", "a1234567", "a0000000", "a1b2c3d4"} {
		named(name, true)
	}
	for _, name := range []string{"", "abcdefghi", "zzzzzzzzz", "a12345678", "a1b2c3d4e", "abcdefghijklmnop"} {
		named(name, false)
	}
	for value := range 256 {
		sign := string([]byte{byte(value)})
		letter := strings.Contains("abcdefghijklmnopqrstuvwxyz", sign)
		either := letter || strings.Contains("0123456789", sign)
		named(sign, letter)
		named(sign+"a", letter)
		named(sign+"bcdefgh", letter)
		named("a"+sign, either)
		named("a"+sign+"9", either)
		named("abcdefg"+sign, either)
		named("abcdefgh"+sign, false)
	}
}

func TestPhaseOf(t *testing.T) {
	r, list := pit(), threePhases()
	for number, want := range map[int]int{4: -1, 7: -1, 9: 1, 10: 1, 30: 0, 200: 2, 999: 1} {
		checkPhaseOf(t, r, list, number, want, true)
		checkPhaseOf(t, r, nil, number, -1, true)
	}
	for _, number := range []int{math.MinInt, -9, -1, 0, 1, 5, 8, 11, 998, 1000, math.MaxInt} {
		checkPhaseOf(t, r, list, number, 0, false)
		checkPhaseOf(t, r, nil, number, 0, false)
		checkPhaseOf(t, impl.Record{}, nil, number, 0, false)
	}
	for i, n := range []int{1, 2, 3, 4, 5, 6} {
		checkPhaseOf(t, ladder(10), singles(1, 2, 3, 4, 5, 6), n, i, true)
		checkPhaseOf(t, ladder(10), singles(6, 5, 4, 3, 2, 1), n, 5-i, true)
	}
}

func TestUngroupedContexts(t *testing.T) {
	checkUngrouped(t, pit(), threePhases(), []int{4, 7}, true)
	checkUngrouped(t, pit(), nil, numbersOf(pit()), true)
	checkUngrouped(t, pit(), lettered(numbersOf(pit())), nil, true)
	checkUngrouped(t, pit(), []impl.Phase{phase("x", 999), phase("y", 4)}, []int{7, 9, 10, 30, 200}, true)
	checkUngrouped(t, pit(), []impl.Phase{phase("x", 9, 200)}, []int{4, 7, 10, 30, 999}, true)
	checkUngrouped(t, ladder(10), singles(10, 8, 6, 4, 2, 1), []int{3, 5, 7, 9}, true)
	checkUngrouped(t, impl.Record{}, nil, nil, true)
}

func TestFirstUnsound(t *testing.T) {
	r := pit()
	checkUnsound(t, r, threePhases(), [2]int{}, true)
	checkUnsound(t, r, reordered(threePhases(), []int{1, 0, 2}), [2]int{30, 9}, true)
	checkUnsound(t, r, reordered(threePhases(), []int{0, 2, 1}), [2]int{9, 200}, true)
	checkUnsound(t, r, reordered(threePhases(), []int{2, 1, 0}), [2]int{9, 200}, true)
	// Within a phase, contexts may be later than each other.
	checkUnsound(t, r, lettered(numbersOf(r)), [2]int{}, true)
	checkUnsound(t, r, lettered([]int{9, 10, 30}, []int{4, 7, 200}), [2]int{}, true)
	checkUnsound(t, r, lettered([]int{4, 7, 200}, []int{9, 10, 30}), [2]int{9, 4}, true)
	// Contexts that belong to no phase are later and earlier than members.
	checkUnsound(t, r, singles(10), [2]int{}, true)
	checkUnsound(t, r, lettered([]int{10, 200}, []int{4}), [2]int{}, true)
	for _, r := range matrixSites() {
		checkUnsound(t, r, nil, [2]int{}, true)
	}
}

func TestFirstOfSeveralUnsoundPairs(t *testing.T) {
	// 5 is later than 1, and 3 than 2 and 4.
	r := strata([]int{1, 2, 3, 4, 5}, [2]int{5, 1}, [2]int{3, 2}, [2]int{3, 4})
	checkUnsound(t, r, lettered([]int{1, 2, 4}, []int{3, 5}), [2]int{3, 2}, true)
	checkUnsound(t, r, singles(4, 3, 2), [2]int{3, 4}, true)
	checkUnsound(t, r, singles(1, 5, 4, 2, 3), [2]int{3, 2}, true)
	checkUnsound(t, r, singles(4, 2, 3), [2]int{3, 2}, true)
	checkUnsound(t, r, lettered([]int{1}, []int{5}, []int{4}, []int{2, 3}), [2]int{3, 4}, true)
	checkUnsound(t, r, singles(1, 5, 3, 4, 2), [2]int{5, 1}, true)
	// Numbers, not their texts, are compared.
	digits := strata([]int{9, 10, 99, 100}, [2]int{10, 9}, [2]int{10, 99}, [2]int{10, 100}, [2]int{9, 100}, [2]int{9, 99})
	checkUnsound(t, digits, singles(100, 99, 10, 9), [2]int{9, 99}, true)
	checkUnsound(t, digits, singles(99, 100, 9, 10), [2]int{9, 99}, true)
	checkUnsound(t, digits, singles(9, 10), [2]int{10, 9}, true)
	checkUnsound(t, digits, singles(100, 9, 10, 99), [2]int{9, 100}, true)
	all := singles(6, 5, 4, 3, 2, 1)
	checkUnsound(t, ladder(10), all, [2]int{1, 2}, true)
	checkUnsound(t, ladder(10), singles(6, 1, 5, 2, 4, 3), [2]int{1, 6}, true)
}

func TestContextsOfNoPhaseTieOthers(t *testing.T) {
	r := ladder(5)
	checkUnsound(t, r, singles(5, 1), [2]int{1, 5}, true)
	checkUnsound(t, r, singles(1, 5), [2]int{}, true)
	checkUnsound(t, r, singles(2, 5, 4), [2]int{4, 5}, true)
	checkUnsound(t, r, singles(5, 2, 4), [2]int{2, 5}, true)
	checkPhaseOrder(t, r, singles(5, 1), []int{1, 0}, true)
	checkPhaseOrder(t, r, singles(3, 5, 1), []int{2, 0, 1}, true)
	checkPhaseOrder(t, r, lettered([]int{1, 5}, []int{3}), nil, false)
	checkPhaseRecord(t, r, singles(1, 5), phaseRecord(2, [2]int{0, 1}), true)
	checkPhaseRecord(t, r, lettered([]int{1}, []int{3, 5}), phaseRecord(2, [2]int{0, 1}), true)
	checkSpread(t, r, lettered([]int{1, 5}), 0, 1, true)
	checkSpread(t, r, lettered([]int{2}, []int{1, 3, 5}), 1, 3, true)
}

func TestOrderPhases(t *testing.T) {
	checkPhaseOrder(t, pit(), threePhases(), []int{0, 1, 2}, true)
	for _, order := range allOrders([]int{0, 1, 2}) {
		// The index of every phase in the given order is wanted.
		want := []int{slices.Index(order, 0), slices.Index(order, 1), slices.Index(order, 2)}
		checkPhaseOrder(t, pit(), reordered(threePhases(), order), want, true)
	}
	checkPhaseOrder(t, ladder(10), singles(6, 5, 4, 3, 2, 1), []int{5, 4, 3, 2, 1, 0}, true)
	checkPhaseOrder(t, ladder(10), singles(2, 10, 6, 8, 4, 1), []int{5, 0, 4, 2, 3, 1}, true)
	checkPhaseOrder(t, ladder(10), lettered([]int{7, 8}, []int{1, 2, 3}, []int{9, 10}, []int{4, 6}), []int{1, 3, 0, 2}, true)
	for _, r := range matrixSites() {
		checkPhaseOrder(t, r, nil, nil, true)
		for _, n := range numbersOf(r) {
			checkPhaseOrder(t, r, singles(n), []int{0}, true)
		}
	}
}

func TestFirstOfSeveralOrders(t *testing.T) {
	four := []int{1, 2, 3, 4}
	first := func(relations [][2]int, want ...int) {
		t.Helper()
		checkPhaseOrder(t, strata(four, relations...), singles(four...), want, true)
	}
	first(nil, 0, 1, 2, 3)
	first([][2]int{{4, 1}}, 1, 2, 3, 0)
	first([][2]int{{4, 3}}, 0, 1, 3, 2)
	first([][2]int{{3, 1}, {4, 2}}, 2, 0, 3, 1)
	first([][2]int{{3, 2}, {4, 1}}, 2, 1, 3, 0)
	first([][2]int{{2, 1}, {4, 1}}, 1, 2, 3, 0)
	first([][2]int{{4, 1}, {4, 2}, {4, 3}}, 3, 0, 1, 2)
	first([][2]int{{1, 4}, {2, 4}}, 0, 1, 2, 3)
	// The indices count, neither the Numbers of the members nor the names.
	r := strata([]int{2, 9, 10, 100}, [2]int{2, 10})
	checkPhaseOrder(t, r, []impl.Phase{phase("z", 100), phase("y", 10), phase("x", 9), phase("w", 2)}, []int{0, 2, 3, 1}, true)
	checkPhaseOrder(t, r, []impl.Phase{phase("z", 100), phase("y", 2), phase("x", 10), phase("w", 9)}, []int{0, 1, 2, 3}, true)
}

func TestPhasesWithoutAnOrder(t *testing.T) {
	none := func(r impl.Record, list []impl.Phase) {
		t.Helper()
		checkGrouping(t, r, list, true)
		checkPhaseOrder(t, r, list, nil, false)
		checkPhaseRecord(t, r, list, impl.Record{}, false)
		if _, _, found, ok := impl.FirstUnsound(r, list); !found || !ok {
			t.Errorf("FirstUnsound(%v, %v) finds %v, %v", r, list, found, ok)
		}
	}
	none(ladder(3), lettered([]int{1, 3}, []int{2}))
	none(ladder(3), lettered([]int{2}, []int{1, 3}))
	none(ladder(4), lettered([]int{1, 3}, []int{2, 4}))
	crossed := strata([]int{1, 2, 3, 4}, [2]int{1, 2}, [2]int{3, 4})
	none(crossed, lettered([]int{1, 4}, []int{2, 3}))
	checkUnsound(t, crossed, lettered([]int{1, 4}, []int{2, 3}), [2]int{3, 4}, true)
	// Of three phases each is later than the next one, and the last one than the first one.
	circle := strata([]int{1, 2, 3, 4, 5, 6}, [2]int{1, 2}, [2]int{3, 4}, [2]int{5, 6})
	none(circle, lettered([]int{1, 6}, []int{2, 3}, []int{4, 5}))
	checkUnsound(t, circle, lettered([]int{1, 6}, []int{2, 3}, []int{4, 5}), [2]int{5, 6}, true)
	// Another phase could stand first, or last.
	none(ladder(5), lettered([]int{5}, []int{2, 4}, []int{3}, []int{1}))
	// There are more than MaxRelations relations between the phases.
	none(ladder(10), lettered([]int{1, 10}, []int{2, 9}, []int{3, 8}, []int{4, 7}, []int{5}, []int{6}))
	none(ladder(10), lettered([]int{1, 10}, []int{2, 9}, []int{3, 8}, []int{4}, []int{5}, []int{6}))
}

func TestPhaseRecord(t *testing.T) {
	checkPhaseRecord(t, pit(), threePhases(), phaseRecord(3, [2]int{0, 1}, [2]int{0, 2}, [2]int{1, 2}), true)
	checkPhaseRecord(t, pit(), nil, impl.Record{}, true)
	checkPhaseRecord(t, pit(), singles(999), phaseRecord(1), true)
	checkPhaseRecord(t, pit(), lettered(numbersOf(pit())), phaseRecord(1), true)
	checkPhaseRecord(t, pit(), lettered([]int{10, 30}, []int{4, 9, 200}), phaseRecord(2, [2]int{0, 1}), true)
	// Relations that follow from others are relations of the phases as well, and Numbers and
	// Kinds of members do not matter.
	checkPhaseRecord(t, slope(), singles(2, 3, 5, 8, 40), phaseRecord(5,
		[2]int{0, 3}, [2]int{0, 4}, [2]int{1, 2}, [2]int{1, 3}, [2]int{1, 4}, [2]int{2, 3}, [2]int{2, 4}, [2]int{3, 4}), true)
	full := [][2]int{}
	for i := range impl.MaxPhases {
		for k := i + 1; k < impl.MaxPhases; k++ {
			full = append(full, [2]int{i, k})
		}
	}
	checkPhaseRecord(t, ladder(10), singles(1, 3, 4, 6, 9, 10), phaseRecord(6, full...), true)
	checkPhaseRecord(t, ladder(10), singles(1, 3, 4, 9, 6, 10), impl.Record{}, false)
	checkPhaseRecord(t, ladder(10), singles(10, 1), impl.Record{}, false)
	checkPhaseRecord(t, pit(), reordered(threePhases(), []int{1, 0, 2}), impl.Record{}, false)
}

func TestPhasesThatNothingTies(t *testing.T) {
	loose := strata([]int{3, 20, 100})
	for _, order := range allOrders([]int{0, 1, 2}) {
		list := reordered(singles(3, 20, 100), order)
		checkUnsound(t, loose, list, [2]int{}, true)
		checkPhaseOrder(t, loose, list, []int{0, 1, 2}, true)
		checkPhaseRecord(t, loose, list, phaseRecord(3), true)
	}
	// 9 and 10 lie between 30 and 200, 7 under 10, and 999 is loose.
	checkPhaseRecord(t, pit(), lettered([]int{30, 999}, []int{9}, []int{7, 10}), phaseRecord(3, [2]int{0, 1}, [2]int{0, 2}), true)
	checkPhaseOrder(t, pit(), lettered([]int{7, 10}, []int{9}, []int{30, 999}), []int{2, 0, 1}, true)
	checkUnsound(t, pit(), lettered([]int{9}, []int{7, 10}), [2]int{}, true)
	checkUnsound(t, pit(), lettered([]int{7, 10}, []int{9}), [2]int{}, true)
}

func TestSplitByDepth(t *testing.T) {
	checkRowPhases(t, impl.Record{}, nil, true)
	checkRowPhases(t, strata([]int{7}), []impl.Phase{phase("row0", 7)}, true)
	checkRowPhases(t, pit(), []impl.Phase{phase("row0", 30, 999), phase("row1", 9, 10), phase("row2", 7, 200), phase("row3", 4)}, true)
	checkRowPhases(t, slope(), []impl.Phase{phase("row0", 2, 3), phase("row1", 5), phase("row2", 8), phase("row3", 40)}, true)
	checkRowPhases(t, strata([]int{3, 20, 100}), []impl.Phase{phase("row0", 3, 20, 100)}, true)
	ten := []int{1, 2, 3, 4, 5, 6, 7, 8, 9, 10}
	checkRowPhases(t, strata(ten), []impl.Phase{phase("row0", ten...)}, true)
	checkRowPhases(t, strata(ten, [2]int{10, 1}), []impl.Phase{phase("row0", ten[1:]...), phase("row1", 1)}, true)
}

func TestSplitByDepthLimit(t *testing.T) {
	for count := 1; count <= impl.MaxContexts; count++ {
		want := []impl.Phase{}
		for i := range count {
			want = append(want, phase("row"+strconv.Itoa(i), i+1))
		}
		if count > impl.MaxPhases {
			want = nil
		}
		checkRowPhases(t, ladder(count), want, count <= impl.MaxPhases)
	}
	// MaxContexts contexts in MaxPhases rows, and in one row more.
	ten := []int{1, 2, 3, 4, 5, 6, 7, 8, 9, 10}
	wide := strata(ten, [2]int{1, 2}, [2]int{2, 3}, [2]int{3, 4}, [2]int{4, 5}, [2]int{5, 6})
	checkRowPhases(t, wide, []impl.Phase{phase("row0", 1, 7, 8, 9, 10), phase("row1", 2), phase("row2", 3), phase("row3", 4), phase("row4", 5), phase("row5", 6)}, true)
	checkRowPhases(t, with(wide, [2]int{6, 10}), nil, false)
}

func TestMergePhases(t *testing.T) {
	r, list := pit(), threePhases()
	late, mid, old := list[0], list[1], list[2]
	checkMerged(t, r, list, 0, 1, []impl.Phase{phase("late", 9, 10, 30, 999), old}, true)
	checkMerged(t, r, list, 0, 2, []impl.Phase{phase("late", 30, 200), mid}, true)
	checkMerged(t, r, list, 1, 2, []impl.Phase{late, phase("mid", 9, 10, 200, 999)}, true)
	// The phase that keeps its name stands behind the other one.
	checkMerged(t, r, list, 1, 0, []impl.Phase{phase("mid", 9, 10, 30, 999), old}, true)
	checkMerged(t, r, list, 2, 0, []impl.Phase{mid, phase("old", 30, 200)}, true)
	checkMerged(t, r, list, 2, 1, []impl.Phase{late, phase("old", 9, 10, 200, 999)}, true)
	// The result, or the grouping itself, may not be sound.
	checkMerged(t, ladder(3), singles(1, 2, 3), 0, 2, lettered([]int{1, 3}, []int{2}), true)
	checkMerged(t, ladder(3), singles(3, 2, 1), 1, 2, lettered([]int{3}, []int{1, 2}), true)
	six := singles(1, 2, 3, 4, 5, 6)
	checkMerged(t, ladder(10), six, 5, 0, []impl.Phase{six[1], six[2], six[3], six[4], phase("f", 1, 6)}, true)
	checkMerged(t, ladder(10), six, 0, 5, []impl.Phase{phase("a", 1, 6), six[1], six[2], six[3], six[4]}, true)
	checkMerged(t, ladder(2), singles(2, 1), 0, 1, []impl.Phase{phase("a", 1, 2)}, true)
	checkMerged(t, ladder(2), singles(2, 1), 1, 0, []impl.Phase{phase("b", 1, 2)}, true)
}

func TestIndicesOfNoPhase(t *testing.T) {
	for _, list := range [][]impl.Phase{nil, singles(30), threePhases(), singles(4, 7, 9, 10, 30, 200)} {
		outside := []int{math.MinInt, -2, -1, len(list), len(list) + 1, impl.MaxPhases, math.MaxInt}
		inside := []int{}
		for i := range list {
			inside = append(inside, i)
			checkMerged(t, pit(), list, i, i, nil, false)
		}
		for _, i := range outside {
			checkSpread(t, pit(), list, i, 0, false)
			for _, k := range slices.Concat(inside, outside) {
				checkMerged(t, pit(), list, i, k, nil, false)
				checkMerged(t, pit(), list, k, i, nil, false)
			}
		}
	}
}

func TestSpreadOf(t *testing.T) {
	list := threePhases()
	for i := range list {
		checkSpread(t, pit(), list, i, 0, true)
	}
	list = lettered([]int{9, 30, 200}, []int{4, 7, 10, 999})
	checkSpread(t, pit(), list, 0, 3, true)
	checkSpread(t, pit(), list, 1, 2, true)
	checkSpread(t, pit(), lettered(numbersOf(pit())), 0, 5+2+3+1, true)
	for count := 1; count <= impl.MaxContexts; count++ {
		checkSpread(t, ladder(10), lettered(numbersOf(ladder(count))), 0, count*(count-1)/2, true)
		checkSpread(t, strata(numbersOf(ladder(count))), lettered(numbersOf(ladder(count))), 0, 0, true)
		checkSpread(t, ladder(10), singles(count), 0, 0, true)
	}
	// The order of the Numbers does not matter, and the grouping need not be sound.
	upward := strata([]int{9, 10, 100}, [2]int{100, 10}, [2]int{10, 9})
	checkSpread(t, upward, lettered([]int{9, 10, 100}), 0, 3, true)
	checkSpread(t, upward, lettered([]int{10}, []int{9, 100}), 1, 1, true)
	checkSpread(t, ladder(4), lettered([]int{3, 4}, []int{1, 2}), 0, 1, true)
}

// sitesWithoutOrder are the invalid records, and valid ones that are not consistent.
func sitesWithoutOrder() map[string]impl.Record {
	sites := invalidSites()
	for name, r := range doubtSites() {
		if consistent, _ := impl.IsConsistent(r); !consistent {
			sites[name] = r
		}
	}
	return sites
}

func TestInvalidRecordsHaveNoPhases(t *testing.T) {
	for _, r := range sitesWithoutOrder() {
		before := copyOf(r)
		checkRowPhases(t, r, nil, false)
		checkNoGrouping(t, r, nil)
		checkNoGrouping(t, r, []impl.Phase{})
		for n := range min(len(r.Contexts), impl.MaxPhases) + 1 {
			checkNoGrouping(t, r, singles(numbersOf(r)[:n]...))
		}
		checkNoGrouping(t, r, lettered(numbersOf(r)))
		checkNoGrouping(t, r, []impl.Phase{phase("x", 1), phase("y", 2)})
		if !sameRecord(r, before) {
			t.Errorf("the record became %v", r)
		}
	}
	checkNoGrouping(t, impl.Record{}, singles(1))
	checkNoGrouping(t, impl.Record{}, singles(0))
	checkNoGrouping(t, strata([]int{3, 20, 100}), singles(3, 20, 99))
}

// plainPhases holds what follows from all chains of a consistent record and a grouping of it.
type plainPhases struct {
	r     impl.Record
	list  []impl.Phase
	later map[[2]int]bool
}

func laterPairs(r impl.Record) map[[2]int]bool {
	later := map[[2]int]bool{}
	for _, chain := range allChains(r) {
		later[[2]int{chain[0], chain[len(chain)-1]}] = true
	}
	return later
}

// unsound returns the unsound pairs with the phases in an order.
func (p plainPhases) unsound(order []int) [][2]int {
	pairs := [][2]int{}
	for place, i := range order {
		for _, k := range order[:place] {
			for _, a := range p.list[i].Members {
				for _, b := range p.list[k].Members {
					if p.later[[2]int{a, b}] {
						pairs = append(pairs, [2]int{a, b})
					}
				}
			}
		}
	}
	slices.SortFunc(pairs, func(a, b [2]int) int { return slices.Compare(a[:], b[:]) })
	return pairs
}

func (p plainPhases) spread(i, k int) int {
	count := 0
	for _, a := range p.list[i].Members {
		for _, b := range p.list[k].Members {
			if p.later[[2]int{a, b}] {
				count++
			}
		}
	}
	return count
}

func (p plainPhases) merged(i, k int) []impl.Phase {
	list := []impl.Phase{}
	for m, q := range p.list {
		if m == i {
			q.Members = slices.Sorted(slices.Values(slices.Concat(q.Members, p.list[k].Members)))
		}
		if m != k {
			list = append(list, q)
		}
	}
	return list
}

// checkWholePhases holds every function of groupings against the definitions of the chapter, and
// reports whether the grouping is sound.
func (p plainPhases) checkWholePhases(t *testing.T) bool {
	t.Helper()
	r, list := p.r, p.list
	checkGrouping(t, r, list, true)
	indices := []int{}
	ungrouped := numbersOf(r)
	for i, q := range list {
		indices = append(indices, i)
		for _, n := range q.Members {
			checkPhaseOf(t, r, list, n, i, true)
			ungrouped = slices.DeleteFunc(ungrouped, func(m int) bool { return m == n })
		}
	}
	for _, n := range ungrouped {
		checkPhaseOf(t, r, list, n, -1, true)
	}
	checkUngrouped(t, r, list, ungrouped, true)
	relations := [][2]int{}
	for i := range list {
		checkSpread(t, r, list, i, p.spread(i, i), true)
		for k := range list {
			if i == k {
				continue
			}
			checkMerged(t, r, list, i, k, p.merged(i, k), true)
			if p.spread(i, k) > 0 {
				relations = append(relations, [2]int{i, k})
			}
		}
	}
	orders := allOrders(indices)
	first := slices.IndexFunc(orders, func(order []int) bool { return len(p.unsound(order)) == 0 })
	if first < 0 {
		checkPhaseOrder(t, r, list, nil, false)
	} else {
		checkPhaseOrder(t, r, list, orders[first], true)
	}
	if pairs := p.unsound(indices); len(pairs) > 0 {
		checkUnsound(t, r, list, pairs[0], true)
		checkPhaseRecord(t, r, list, impl.Record{}, false)
		return false
	}
	checkUnsound(t, r, list, [2]int{}, true)
	checkPhaseRecord(t, r, list, phaseRecord(len(list), relations...), true)
	return true
}

// groupingsOf returns all groupings of contexts with the names a, b, c, ... in order.
func groupingsOf(numbers []int) [][]impl.Phase {
	groupings := [][]impl.Phase{nil}
	for _, n := range numbers {
		more := [][]impl.Phase{}
		for _, list := range groupings {
			members := membersOf(list)
			more = append(more, list)
			for i := range members {
				changed := slices.Clone(members)
				changed[i] = append(slices.Clone(changed[i]), n)
				more = append(more, lettered(changed...))
			}
			for i := range len(members) + 1 {
				more = append(more, lettered(slices.Insert(slices.Clone(members), i, []int{n})...))
			}
		}
		groupings = more
	}
	return groupings
}

func TestEveryGroupingOfFewContexts(t *testing.T) {
	source := rand.New(rand.NewSource(7))
	all := map[int][][]impl.Phase{}
	for _, r := range recordsOfFewContexts() {
		numbers := numbersOf(r)
		if all[len(numbers)] == nil {
			all[len(numbers)] = groupingsOf(numbers)
		}
		groupings := all[len(numbers)]
		if consistent, _ := impl.IsConsistent(r); !consistent {
			checkNoGrouping(t, r, groupings[source.Intn(len(groupings))])
			checkRowPhases(t, r, nil, false)
			continue
		}
		later := laterPairs(r)
		for _, list := range groupings {
			if len(numbers) < 4 || source.Intn(10) == 0 {
				plainPhases{r, list, later}.checkWholePhases(t)
			}
		}
	}
}

// chosenGrouping has up to MaxPhases phases with members chosen from r; if it is to be in order,
// the phases follow each other as the contexts do.
func chosenGrouping(source *rand.Rand, r impl.Record, inOrder bool) []impl.Phase {
	order, _ := impl.ContextOrder(r)
	members := make([][]int, 1+source.Intn(impl.MaxPhases))
	for i, n := range order {
		m := source.Intn(len(members))
		if inOrder {
			m = i * len(members) / len(order)
		}
		if source.Intn(5) > 0 {
			members[m] = append(members[m], n)
		}
	}
	list := []impl.Phase{}
	for i, numbers := range members {
		if len(numbers) > 0 {
			slices.Sort(numbers)
			list = append(list, phase(string(rune('z'-i))+strconv.Itoa(i), numbers...))
		}
	}
	return list
}

// eachChosenGrouping calls use with 300 groupings, two thirds of which have their phases in order,
// and with the same phases in another order.
func eachChosenGrouping(source *rand.Rand, use func(r impl.Record, list, mixed []impl.Phase)) {
	for range 4 {
		for count := range impl.MaxRelations + 1 {
			r := chosenRecord(source, count, true)
			for _, inOrder := range []bool{false, true, true} {
				list := chosenGrouping(source, r, inOrder)
				use(r, list, reordered(list, source.Perm(len(list))))
			}
		}
	}
}

func TestPhasesOfManyRecords(t *testing.T) {
	sound := 0
	eachChosenGrouping(rand.New(rand.NewSource(70)), func(r impl.Record, list, mixed []impl.Phase) {
		later := laterPairs(r)
		if (plainPhases{r, list, later}).checkWholePhases(t) {
			sound++
		}
		plainPhases{r, mixed, later}.checkWholePhases(t)
	})
	if sound < 200 || sound > 280 {
		t.Errorf("%d of 300 groupings are sound", sound)
	}
}

// checkSoundPhases checks promise 7 in the results alone, and reports whether the grouping is
// sound.
func checkSoundPhases(t *testing.T, r impl.Record, list []impl.Phase) bool {
	t.Helper()
	_, _, unsound, ok := impl.FirstUnsound(r, list)
	phases, isRecord := impl.PhaseRecord(r, list)
	if !ok || isRecord == unsound {
		t.Errorf("%v, %v: unsound %v, %v, has a record of phases %v", r, list, unsound, ok, isRecord)
	}
	if unsound || !ok {
		return false
	}
	checkConsistent(t, phases, true, true)
	if len(phases.Contexts) != len(list) {
		t.Errorf("PhaseRecord(%v, %v) = %v", r, list, phases)
	}
	for _, a := range numbersOf(r) {
		for _, b := range numbersOf(r) {
			i, _ := impl.PhaseOf(r, list, a)
			k, _ := impl.PhaseOf(r, list, b)
			if later, _ := impl.IsLater(r, a, b); later && i >= 0 && k >= 0 && i != k {
				checkLater(t, phases, i+1, k+1, true, true)
			}
		}
	}
	for _, x := range phases.Relations {
		if x.Upper >= x.Lower {
			t.Errorf("PhaseRecord(%v, %v) = %v", r, list, phases)
		}
	}
	return true
}

func TestSoundPhasesHaveAConsistentRecord(t *testing.T) {
	sound, ordered := 0, 0
	eachChosenGrouping(rand.New(rand.NewSource(77)), func(r impl.Record, list, mixed []impl.Phase) {
		if checkSoundPhases(t, r, list) {
			sound++
		}
		checkSoundPhases(t, r, mixed)
		order, ok := impl.OrderPhases(r, mixed)
		if !ok {
			return
		}
		ordered++
		if !checkSoundPhases(t, r, reordered(mixed, order)) {
			t.Errorf("OrderPhases(%v, %v) = %v, which is not sound", r, mixed, order)
		}
	})
	if sound < 200 || ordered < 200 {
		t.Errorf("of 300 groupings, %d are sound, and %d can be ordered", sound, ordered)
	}
}

func TestRowsAreSoundPhases(t *testing.T) {
	sites := slices.Collect(maps.Values(matrixSites()))
	source := rand.New(rand.NewSource(777))
	for count := range impl.MaxRelations + 1 {
		sites = append(sites, chosenRecord(source, count, true), layered(source, 60, 3, 4, 3))
	}
	for _, r := range append(sites, recordsOfFewContexts()...) {
		rows, _ := impl.MatrixRows(r)
		list, ok := impl.SplitByDepth(r)
		if consistent, _ := impl.IsConsistent(r); ok != (consistent && len(rows) <= impl.MaxPhases) {
			t.Errorf("SplitByDepth(%v) = %v, %v; the rows are %v", r, list, ok, rows)
		}
		if !ok {
			continue
		}
		if !sameRows(membersOf(list), rows) || !checkSoundPhases(t, r, list) {
			t.Errorf("SplitByDepth(%v) = %v; the rows are %v", r, list, rows)
		}
		checkUngrouped(t, r, list, nil, true)
		for i := range list {
			checkSpread(t, r, list, i, 0, true)
		}
	}
}

// overwritePhases changes a list with all its capacity.
func overwritePhases(list []impl.Phase) {
	for i := range list {
		overwrite(list[i].Members)
	}
	list = list[:cap(list)]
	for i := range list {
		list[i] = phase("gone", 1000)
	}
}

// phaseLists calls every function of the chapter that returns lists of numbers.
func phaseLists(r impl.Record, list []impl.Phase) [][]int {
	ungrouped, _ := impl.UngroupedContexts(r, list)
	order, _ := impl.OrderPhases(r, list)
	split, _ := impl.SplitByDepth(r)
	all := slices.Concat([][]int{ungrouped, order}, membersOf(split))
	for i := range list {
		for k := range list {
			merged, _ := impl.MergePhases(r, list, i, k)
			all = append(all, membersOf(merged)...)
		}
	}
	return all
}

// checkMemoryOfPhases passes slices that have more elements beyond their lengths, and members
// that share one list.
func checkMemoryOfPhases(t *testing.T, plain impl.Record, list []impl.Phase) {
	t.Helper()
	whole, r := lengthened(plain)
	before := copyOf(whole)
	numbers := slices.Concat(membersOf(list)...)
	numbers = append(numbers, slices.Concat(membersOf(list)...)...)
	numbersBefore := slices.Clone(numbers)
	wholeList := slices.Clone(list)
	used := 0
	for i := range list {
		end := used + len(list[i].Members)
		wholeList[i].Members = numbers[used:end]
		used = end
	}
	wholeList = append(wholeList, list...)
	part := wholeList[:len(list)]
	want := phaseLists(plain, list)
	checkSeparate(t, "phases", phaseLists(r, part), want)
	checkSeparate(t, "phases", backward(phaseLists(r, part)), backward(want))
	wantRecord, wantOk := impl.PhaseRecord(plain, list)
	got, ok := impl.PhaseRecord(r, part)
	checkRecord(t, "PhaseRecord", got, ok, wantRecord, wantOk)
	clearRecord(got)
	for i := range list {
		for k := range list {
			merged, _ := impl.MergePhases(r, part, i, k)
			overwritePhases(merged)
		}
	}
	split, _ := impl.SplitByDepth(r)
	overwritePhases(split)
	impl.FirstUnsound(r, part)
	if !sameRecord(whole, before) || !slices.Equal(numbers, numbersBefore) || !samePhases(wholeList, slices.Concat(list, list)) {
		t.Errorf("the arguments became %v, %v", whole, wholeList)
	}
}

func TestMemoryOfPhases(t *testing.T) {
	checkMemoryOfPhases(t, pit(), threePhases())
	checkMemoryOfPhases(t, pit(), reordered(threePhases(), []int{2, 1, 0}))
	checkMemoryOfPhases(t, ladder(6), singles(6, 5, 4, 3, 2, 1))
	checkMemoryOfPhases(t, ladder(6), singles(1, 2, 3, 4, 5, 6))
	source := rand.New(rand.NewSource(7777))
	for _, r := range matrixSites() {
		checkMemoryOfPhases(t, r, nil)
		for _, inOrder := range []bool{false, true} {
			checkMemoryOfPhases(t, r, chosenGrouping(source, r, inOrder))
		}
	}
}

// TestPhaseFunctionsLeaveTheirArguments calls every function with every index.
func TestPhaseFunctionsLeaveTheirArguments(t *testing.T) {
	r, list := pit(), threePhases()
	for i := -1; i <= 3; i++ {
		for k := -1; k <= 3; k++ {
			impl.MergePhases(r, list, i, k)
		}
		impl.SpreadOf(r, list, i)
	}
	for _, n := range numbersOf(r) {
		impl.PhaseOf(r, list, n)
	}
	if !sameRecord(r, pit()) || !samePhases(list, threePhases()) {
		t.Errorf("the arguments became %v, %v", r, list)
	}
}
