package tests

import (
	"cmp"
	"math"
	"math/rand"
	"slices"
	"testing"

	"loop.example/g00876/impl"
)

// loose has as many contexts as a record may have, and no relations: 5, 15, ... 95.
func loose() impl.Record {
	numbers := []int{}
	for i := range impl.MaxContexts {
		numbers = append(numbers, 10*i+5)
	}
	return strata(numbers)
}

// diamond has 2 above 4 and 6, and both of them above 8; nothing binds 9.
func diamond() impl.Record {
	return strata([]int{2, 4, 6, 8, 9}, [2]int{2, 4}, [2]int{2, 6}, [2]int{4, 8}, [2]int{6, 8})
}

func checkCount(t *testing.T, r impl.Record, want int, wantOk bool) {
	t.Helper()
	if got, ok := impl.CountSequences(r); got != want || ok != wantOk {
		t.Errorf("CountSequences(%v) = %d, %v; want %d, %v", r, got, ok, want, wantOk)
	}
}

func checkIs(t *testing.T, r impl.Record, list []int, want, wantOk bool) {
	t.Helper()
	if got, ok := impl.IsSequence(r, list); got != want || ok != wantOk {
		t.Errorf("IsSequence(%v, %v) = %v, %v; want %v, %v", r, list, got, ok, want, wantOk)
	}
}

func checkRank(t *testing.T, r impl.Record, list []int, want int, wantOk bool) {
	t.Helper()
	if got, ok := impl.RankSequence(r, list); got != want || ok != wantOk {
		t.Errorf("RankSequence(%v, %v) = %d, %v; want %d, %v", r, list, got, ok, want, wantOk)
	}
}

func checkAt(t *testing.T, r impl.Record, rank int, want []int, wantOk bool) {
	t.Helper()
	if got, ok := impl.SequenceAt(r, rank); !slices.Equal(got, want) || ok != wantOk {
		t.Errorf("SequenceAt(%v, %d) = %v, %v; want %v, %v", r, rank, got, ok, want, wantOk)
	}
}

func checkBefore(t *testing.T, r impl.Record, a, b, want int, wantOk bool) {
	t.Helper()
	if got, ok := impl.CountBefore(r, a, b); got != want || ok != wantOk {
		t.Errorf("CountBefore(%v, %d, %d) = %d, %v; want %d, %v", r, a, b, got, ok, want, wantOk)
	}
}

func checkPlaces(t *testing.T, r impl.Record, number int, want []int, wantOk bool) {
	t.Helper()
	if got, ok := impl.PlaceCounts(r, number); !slices.Equal(got, want) || ok != wantOk {
		t.Errorf("PlaceCounts(%v, %d) = %v, %v; want %v, %v", r, number, got, ok, want, wantOk)
	}
}

func checkRange(t *testing.T, r impl.Record, number, first, last int, wantOk bool) {
	t.Helper()
	if a, b, ok := impl.PlaceRange(r, number); a != first || b != last || ok != wantOk {
		t.Errorf("PlaceRange(%v, %d) = %d, %d, %v; want %d, %d, %v", r, number, a, b, ok, first, last, wantOk)
	}
}

// checkPlacesOf wants the range as well that the counts of the places give.
func checkPlacesOf(t *testing.T, r impl.Record, number int, counts ...int) {
	t.Helper()
	checkPlaces(t, r, number, counts, true)
	possible := []int{}
	for place, count := range counts {
		if count > 0 {
			possible = append(possible, place)
		}
	}
	checkRange(t, r, number, slices.Min(possible), slices.Max(possible), true)
}

// checkNext wants that nothing follows the list if want is nil.
func checkNext(t *testing.T, r impl.Record, list, want []int, wantOk bool) {
	t.Helper()
	got, found, ok := impl.NextSequence(r, list)
	if !slices.Equal(got, want) || found != (want != nil) || ok != wantOk {
		t.Errorf("NextSequence(%v, %v) = %v, %v, %v; want %v, %v", r, list, got, found, ok, want, wantOk)
	}
}

func checkDistance(t *testing.T, r impl.Record, a, b []int, want int, wantOk bool) {
	t.Helper()
	if got, ok := impl.SequenceDistance(r, a, b); got != want || ok != wantOk {
		t.Errorf("SequenceDistance(%v, %v, %v) = %d, %v; want %d, %v", r, a, b, got, ok, want, wantOk)
	}
}

// checkSequences wants exactly these sequences, in this order.
func checkSequences(t *testing.T, r impl.Record, sequences ...[]int) {
	t.Helper()
	checkCount(t, r, len(sequences), true)
	for rank, list := range sequences {
		checkIs(t, r, list, true, true)
		checkRank(t, r, list, rank, true)
		checkAt(t, r, rank, list, true)
		checkDistance(t, r, list, list, 0, true)
		if rank > 0 {
			checkNext(t, r, sequences[rank-1], list, true)
		}
	}
	checkNext(t, r, sequences[len(sequences)-1], nil, true)
	for _, rank := range []int{-1, len(sequences), len(sequences) + 1, math.MinInt, math.MaxInt} {
		checkAt(t, r, rank, nil, false)
	}
}

// checkNoSequence wants that a list is no sequence of a consistent record.
func checkNoSequence(t *testing.T, r impl.Record, list []int) {
	t.Helper()
	checkIs(t, r, list, false, true)
	checkRank(t, r, list, 0, false)
	checkNext(t, r, list, nil, false)
	first, _ := impl.SequenceAt(r, 0)
	checkDistance(t, r, list, first, 0, false)
	checkDistance(t, r, first, list, 0, false)
	checkDistance(t, r, list, list, 0, false)
}

// checkNoSequences wants that every function refuses the record.
func checkNoSequences(t *testing.T, r impl.Record) {
	t.Helper()
	checkCount(t, r, 0, false)
	for _, rank := range []int{-1, 0, 1} {
		checkAt(t, r, rank, nil, false)
	}
	numbers := numbersOf(r)
	for _, list := range [][]int{nil, {}, numbers, backward(numbers), {1}} {
		checkIs(t, r, list, false, false)
		checkRank(t, r, list, 0, false)
		checkNext(t, r, list, nil, false)
		checkDistance(t, r, list, list, 0, false)
		checkDistance(t, r, numbers, list, 0, false)
	}
	for i, a := range append(numbers, 1, 2) {
		checkPlaces(t, r, a, nil, false)
		checkRange(t, r, a, 0, 0, false)
		for _, b := range append(numbers, 1, 2)[:i] {
			checkBefore(t, r, a, b, 0, false)
			checkBefore(t, r, b, a, 0, false)
		}
	}
}

func TestSequences(t *testing.T) {
	checkSequences(t, strata([]int{1, 2}), []int{1, 2}, []int{2, 1})
	checkSequences(t, strata([]int{1, 2}, [2]int{1, 2}), []int{1, 2})
	checkSequences(t, strata([]int{1, 2}, [2]int{2, 1}), []int{2, 1})
	checkSequences(t, strata([]int{9, 10, 100}, [2]int{100, 9}),
		[]int{10, 100, 9}, []int{100, 9, 10}, []int{100, 10, 9})
	checkSequences(t, diamond(),
		[]int{2, 4, 6, 8, 9}, []int{2, 4, 6, 9, 8}, []int{2, 4, 9, 6, 8},
		[]int{2, 6, 4, 8, 9}, []int{2, 6, 4, 9, 8}, []int{2, 6, 9, 4, 8},
		[]int{2, 9, 4, 6, 8}, []int{2, 9, 6, 4, 8},
		[]int{9, 2, 4, 6, 8}, []int{9, 2, 6, 4, 8})
}

// TestSequencesAreInOrderOfNumber: as strings, 10 comes before 9 and 100 before 20.
func TestSequencesAreInOrderOfNumber(t *testing.T) {
	checkSequences(t, strata([]int{9, 10, 100}),
		[]int{9, 10, 100}, []int{9, 100, 10}, []int{10, 9, 100},
		[]int{10, 100, 9}, []int{100, 9, 10}, []int{100, 10, 9})
}

func TestOneSequenceAlone(t *testing.T) {
	for count := range impl.MaxContexts {
		r := ladder(count + 1)
		checkSequences(t, r, numbersOf(r))
		for place, n := range numbersOf(r) {
			counts := make([]int, count+1)
			counts[place] = 1
			checkPlacesOf(t, r, n, counts...)
		}
	}
	checkSequences(t, strata([]int{3, 5, 8}, [2]int{8, 3}, [2]int{3, 5}, [2]int{8, 5}), []int{8, 3, 5})
}

func TestSequencesOfTheEmptyRecord(t *testing.T) {
	for _, r := range []impl.Record{{}, {Contexts: []impl.Context{}, Relations: []impl.Relation{}}} {
		checkSequences(t, r, []int{})
		checkSequences(t, r, nil)
		checkNext(t, r, []int{}, nil, true)
		checkDistance(t, r, nil, []int{}, 0, true)
		checkNoSequence(t, r, []int{1})
		checkNoSequence(t, r, []int{0})
		checkPlaces(t, r, 1, nil, false)
		checkRange(t, r, 1, 0, 0, false)
		checkBefore(t, r, 1, 2, 0, false)
	}
}

func TestSequencesOfOneContext(t *testing.T) {
	r := strata([]int{impl.MaxNumber})
	checkSequences(t, r, []int{impl.MaxNumber})
	checkPlacesOf(t, r, impl.MaxNumber, 1)
	checkBefore(t, r, impl.MaxNumber, impl.MaxNumber, 0, false)
	for _, list := range [][]int{nil, {1}, {impl.MaxNumber, impl.MaxNumber}, {impl.MaxNumber, 1}, {1, impl.MaxNumber}} {
		checkNoSequence(t, r, list)
	}
}

func factorial(n int) int {
	product := 1
	for ; n > 1; n-- {
		product *= n
	}
	return product
}

// TestEveryOrderIsASequence counts orders with factorials: there are too many to list them.
func TestEveryOrderIsASequence(t *testing.T) {
	r := loose()
	numbers := numbersOf(r)
	all := factorial(impl.MaxContexts)
	checkCount(t, r, all, true)
	for i, n := range numbers {
		checkPlacesOf(t, r, n, slices.Repeat([]int{all / impl.MaxContexts}, impl.MaxContexts)...)
		for k, m := range numbers {
			if i != k {
				checkBefore(t, r, n, m, all/2, true)
			}
		}
	}
	checkAt(t, r, 0, numbers, true)
	checkRank(t, r, numbers, 0, true)
	last := backward(numbers)
	checkAt(t, r, all-1, last, true)
	checkRank(t, r, last, all-1, true)
	checkNext(t, r, last, nil, true)
	checkDistance(t, r, numbers, last, impl.MaxContexts*(impl.MaxContexts-1)/2, true)
	for _, rank := range []int{-1, all, all + 1, math.MinInt, math.MaxInt, -all} {
		checkAt(t, r, rank, nil, false)
	}
}

// TestOrdersInTheMiddle finds the order with a rank by division with factorials.
func TestOrdersInTheMiddle(t *testing.T) {
	r := loose()
	for rank := 0; rank < factorial(impl.MaxContexts); rank += 9973 {
		left := numbersOf(r)
		list := []int{}
		for rest := rank; len(left) > 0; {
			ways := factorial(len(left) - 1)
			list = append(list, left[rest/ways])
			left = slices.Delete(left, rest/ways, rest/ways+1)
			rest %= ways
		}
		checkIs(t, r, list, true, true)
		checkRank(t, r, list, rank, true)
		checkAt(t, r, rank, list, true)
	}
}

func TestListsThatAreNoSequences(t *testing.T) {
	for _, r := range []impl.Record{diamond(), strata([]int{2, 4, 6, 8, 9}), pit(), ladder(10), loose(), fullSite()} {
		first, _ := impl.SequenceAt(r, 0)
		whole := append(first, first...)
		for n := range len(whole) + 1 {
			if n != len(first) {
				checkNoSequence(t, r, whole[:n])
			}
		}
		for i := range first {
			for _, number := range []int{1000, 0, -1, 1, 3, 998, math.MinInt, math.MaxInt, -first[i], first[(i+1)%len(first)]} {
				if slices.Index(first, number) != i {
					changed := slices.Clone(first)
					changed[i] = number
					checkNoSequence(t, r, changed)
				}
				checkNoSequence(t, r, slices.Insert(slices.Clone(first), i, number))
			}
			checkNoSequence(t, r, slices.Delete(slices.Clone(first), i, i+1))
		}
		checkNoSequence(t, r, nil)
		checkNoSequence(t, r, slices.Repeat(first, 10000))
	}
}

func TestOrdersThatRelationsForbid(t *testing.T) {
	r := strata([]int{1, 2, 3, 4}, [2]int{3, 2}, [2]int{2, 1})
	// Here a relation is violated.
	checkNoSequence(t, r, []int{4, 2, 3, 1})
	checkNoSequence(t, r, []int{3, 1, 2, 4})
	// Here 1 is before 3, which lies above it only by a chain.
	checkNoSequence(t, r, []int{1, 3, 2, 4})
	checkNoSequence(t, r, []int{2, 1, 3, 4})
	checkNoSequence(t, r, []int{1, 4, 2, 3})
	checkSequences(t, r, []int{3, 2, 1, 4}, []int{3, 2, 4, 1}, []int{3, 4, 2, 1}, []int{4, 3, 2, 1})
	for _, r := range []impl.Record{ladder(10), with(ladder(10), [2]int{1, 10}), with(ladder(10), [2]int{2, 9}, [2]int{1, 3})} {
		checkNoSequence(t, r, backward(numbersOf(r)))
		for i := range 9 {
			list := numbersOf(r)
			list[i], list[i+1] = list[i+1], list[i]
			checkNoSequence(t, r, list)
		}
	}
}

func TestCountBefore(t *testing.T) {
	r := diamond()
	checkBefore(t, r, 2, 8, 10, true)
	checkBefore(t, r, 8, 2, 0, true)
	checkBefore(t, r, 2, 4, 10, true)
	checkBefore(t, r, 4, 2, 0, true)
	checkBefore(t, r, 4, 6, 5, true)
	checkBefore(t, r, 6, 4, 5, true)
	checkBefore(t, r, 9, 2, 2, true)
	checkBefore(t, r, 2, 9, 8, true)
	checkBefore(t, r, 8, 9, 2, true)
	checkBefore(t, r, 9, 4, 5, true)
	for _, n := range numbersOf(r) {
		checkBefore(t, r, n, n, 0, false)
		for _, m := range []int{0, 1, 3, 10, -n, 1000, math.MinInt, math.MaxInt} {
			checkBefore(t, r, n, m, 0, false)
			checkBefore(t, r, m, n, 0, false)
			checkBefore(t, r, m, m, 0, false)
		}
	}
}

// TestCountBeforeWithMaxRelations: the order asked for needs no room among the relations.
func TestCountBeforeWithMaxRelations(t *testing.T) {
	r := grid()
	// With 5 before 10, every upper context is before every lower one; with 10 before 5, both
	// stand between the others.
	regular, swapped := factorial(5)*factorial(5), factorial(4)*factorial(4)
	checkCount(t, r, regular+swapped, true)
	checkBefore(t, r, 5, 10, regular, true)
	checkBefore(t, r, 10, 5, swapped, true)
	checkBefore(t, r, 1, 10, regular+swapped, true)
	checkBefore(t, r, 10, 1, 0, true)
	checkBefore(t, r, 1, 2, (regular+swapped)/2, true)
	checkBefore(t, r, 7, 6, (regular+swapped)/2, true)
	checkPlacesOf(t, r, 10, 0, 0, 0, 0, swapped, regular/5, regular/5, regular/5, regular/5, regular/5)
}

func TestPlaces(t *testing.T) {
	r := diamond()
	checkPlacesOf(t, r, 2, 8, 2, 0, 0, 0)
	checkPlacesOf(t, r, 4, 0, 3, 4, 3, 0)
	checkPlacesOf(t, r, 6, 0, 3, 4, 3, 0)
	checkPlacesOf(t, r, 8, 0, 0, 0, 2, 8)
	checkPlacesOf(t, r, 9, 2, 2, 2, 2, 2)
}

// TestPlacesOfTheEnds: a context that all the others are later than has one place alone, and so
// has one that is later than all of them, even by chains.
func TestPlacesOfTheEnds(t *testing.T) {
	fan := [][2]int{}
	for n := 2; n <= 9; n++ {
		fan = append(fan, [2]int{1, n}, [2]int{n, 10})
	}
	r := strata([]int{1, 2, 3, 4, 5, 6, 7, 8, 9, 10}, fan...)
	all := factorial(8)
	checkCount(t, r, all, true)
	checkPlacesOf(t, r, 1, all, 0, 0, 0, 0, 0, 0, 0, 0, 0)
	checkPlacesOf(t, r, 10, 0, 0, 0, 0, 0, 0, 0, 0, 0, all)
	checkBefore(t, r, 1, 10, all, true)
	checkBefore(t, r, 10, 1, 0, true)
	for n := 2; n <= 9; n++ {
		part := all / 8
		checkPlacesOf(t, r, n, 0, part, part, part, part, part, part, part, part, 0)
	}
}

// TestPlacesOfAContextThatNothingBinds: it may stand at every place of every sequence of the others.
func TestPlacesOfAContextThatNothingBinds(t *testing.T) {
	for _, number := range []int{1, 55, impl.MaxNumber} {
		r := strata([]int{number, 10, 20, 30, 40}, [2]int{40, 30}, [2]int{30, 20}, [2]int{10, 20})
		checkCount(t, r, 15, true)
		checkPlacesOf(t, r, number, 3, 3, 3, 3, 3)
	}
}

func TestPlacesOfContextsThatTheRecordDoesNotHave(t *testing.T) {
	for _, r := range []impl.Record{{}, diamond(), loose(), pit()} {
		for _, number := range []int{0, -1, 1, 3, 100, 998, 1000, math.MinInt, math.MaxInt} {
			checkPlaces(t, r, number, nil, false)
			checkRange(t, r, number, 0, 0, false)
		}
	}
}

func TestSequenceDistance(t *testing.T) {
	r := strata([]int{1, 2, 3, 4})
	checkDistance(t, r, []int{1, 2, 3, 4}, []int{1, 2, 3, 4}, 0, true)
	checkDistance(t, r, []int{1, 2, 3, 4}, []int{2, 1, 3, 4}, 1, true)
	checkDistance(t, r, []int{1, 2, 3, 4}, []int{4, 2, 3, 1}, 5, true)
	checkDistance(t, r, []int{4, 2, 3, 1}, []int{1, 2, 3, 4}, 5, true)
	checkDistance(t, r, []int{2, 4, 1, 3}, []int{4, 3, 2, 1}, 3, true)
	checkDistance(t, r, []int{3, 1, 4, 2}, []int{2, 4, 1, 3}, 6, true)
	checkDistance(t, diamond(), []int{2, 4, 6, 8, 9}, []int{9, 2, 6, 4, 8}, 5, true)
	for _, list := range allOrders([]int{1, 2, 3, 4}) {
		checkDistance(t, r, list, list, 0, true)
		checkDistance(t, r, list, backward(list), 6, true)
	}
}

func TestRecordsWithoutSequences(t *testing.T) {
	for name, r := range sitesWithoutOrder() {
		before := copyOf(r)
		checkNoSequences(t, r)
		if !sameRecord(r, before) {
			t.Errorf("%s: the argument became %v", name, r)
		}
	}
}

// sequencesOf lists the sequences of a record in their order, but none if there are too many.
func sequencesOf(r impl.Record, most int) [][]int {
	sequences := [][]int{}
	var extend func(start, left []int)
	extend = func(start, left []int) {
		if len(left) == 0 {
			sequences = append(sequences, slices.Clone(start))
		}
		for i, n := range left {
			isAbove := func(x impl.Relation) bool { return x.Lower == n && slices.Contains(left, x.Upper) }
			if len(sequences) <= most && !slices.ContainsFunc(r.Relations, isAbove) {
				extend(append(start, n), slices.Delete(slices.Clone(left), i, i+1))
			}
		}
	}
	extend([]int{}, numbersOf(r))
	if len(sequences) > most {
		return [][]int{}
	}
	return sequences
}

// checkWholeSequences holds every function against the list of all sequences.
func checkWholeSequences(t *testing.T, r impl.Record, sequences [][]int) {
	t.Helper()
	checkSequences(t, r, sequences...)
	numbers := numbersOf(r)
	for _, n := range numbers {
		counts := make([]int, len(numbers))
		before := map[int]int{}
		for _, list := range sequences {
			place := slices.Index(list, n)
			counts[place]++
			for _, m := range list[place+1:] {
				before[m]++
			}
		}
		checkPlacesOf(t, r, n, counts...)
		for _, m := range numbers {
			checkBefore(t, r, n, m, before[m], n != m)
		}
	}
}

// plainDistance counts pairs of contexts, each with a place smaller in one list alone.
func plainDistance(a, b []int) int {
	count := 0
	for _, n := range a {
		for _, m := range a {
			if slices.Index(a, n) < slices.Index(a, m) && slices.Index(b, n) > slices.Index(b, m) {
				count++
			}
		}
	}
	return count
}

func TestAllSequencesOfFewContexts(t *testing.T) {
	for _, r := range recordsOfFewContexts() {
		sequences := sequencesOf(r, math.MaxInt)
		if len(sequences) == 0 {
			checkNoSequences(t, r)
			continue
		}
		checkWholeSequences(t, r, sequences)
		for _, list := range allOrders(numbersOf(r)) {
			if !slices.ContainsFunc(sequences, func(s []int) bool { return slices.Equal(s, list) }) {
				checkNoSequence(t, r, list)
			}
		}
		for _, a := range sequences {
			for _, b := range sequences {
				checkDistance(t, r, a, b, plainDistance(a, b), true)
			}
		}
	}
}

// consistentRecords are records of 10 contexts with few and many sequences.
func consistentRecords(source *rand.Rand) []impl.Record {
	records := []impl.Record{}
	for range 4 {
		for count := range impl.MaxRelations + 1 {
			records = append(records, chosenRecord(source, count, true))
		}
		for _, count := range []int{30, 60, 120} {
			for _, sizes := range [][]int{{5, 5}, {3, 4, 3}, {2, 3, 3, 2}, {2, 2, 2, 2, 2}} {
				records = append(records, layered(source, count, sizes...))
			}
		}
	}
	for _, r := range matrixSites() {
		records = append(records, r)
	}
	return append(records, loose(), diamond())
}

func TestAllSequencesOfManyRecords(t *testing.T) {
	source := rand.New(rand.NewSource(8))
	tested := 0
	for _, r := range consistentRecords(source) {
		sequences := sequencesOf(r, 500)
		if len(sequences) == 0 {
			continue
		}
		tested++
		checkWholeSequences(t, r, sequences)
		for range 20 {
			a, b := sequences[source.Intn(len(sequences))], sequences[source.Intn(len(sequences))]
			checkDistance(t, r, a, b, plainDistance(a, b), true)
			list := slices.Clone(a)
			source.Shuffle(len(list), func(i, k int) { list[i], list[k] = list[k], list[i] })
			if !slices.ContainsFunc(sequences, func(s []int) bool { return slices.Equal(s, list) }) {
				checkNoSequence(t, r, list)
			}
		}
	}
	if tested < 30 {
		t.Errorf("only %d records have few sequences", tested)
	}
}

// checkRanks checks in the results alone that ranks and sequences correspond.
func checkRanks(t *testing.T, source *rand.Rand, r impl.Record) {
	t.Helper()
	count, ok := impl.CountSequences(r)
	if !ok || count < 1 {
		t.Errorf("CountSequences(%v) = %d, %v", r, count, ok)
		return
	}
	first, _ := impl.ContextOrder(r)
	checkAt(t, r, 0, first, true)
	checkAt(t, r, -1, nil, false)
	checkAt(t, r, count, nil, false)
	ranks := []int{0, count - 1}
	for range 20 {
		ranks = append(ranks, source.Intn(count))
	}
	slices.Sort(ranks)
	before := first
	for i, rank := range ranks {
		list, _ := impl.SequenceAt(r, rank)
		checkIs(t, r, list, true, true)
		checkRank(t, r, list, rank, true)
		if i > 0 && slices.Compare(before, list) != cmp.Compare(ranks[i-1], rank) {
			t.Errorf("%v: the ranks of %v and %v are %d and %d", r, before, list, ranks[i-1], rank)
		}
		before = list
		var next []int
		if rank+1 < count {
			next, _ = impl.SequenceAt(r, rank+1)
		}
		checkNext(t, r, list, next, true)
	}
}

// checkSums checks in the results alone that every context stands at one place, and every pair
// of contexts in one of both orders, in every sequence.
func checkSums(t *testing.T, r impl.Record) {
	t.Helper()
	count, _ := impl.CountSequences(r)
	numbers := numbersOf(r)
	atPlace := make([]int, len(numbers))
	for _, n := range numbers {
		counts, _ := impl.PlaceCounts(r, n)
		sum := 0
		for place, c := range counts {
			sum += c
			atPlace[place] += c
		}
		if sum != count {
			t.Errorf("%v: %d stands in %d sequences of %d", r, n, sum, count)
		}
		checkPlacesOf(t, r, n, counts...)
		for _, m := range numbers {
			forth, ok := impl.CountBefore(r, n, m)
			back, _ := impl.CountBefore(r, m, n)
			isLater, _ := impl.IsLater(r, n, m)
			if ok != (n != m) || ok && forth+back != count || isLater != (forth == count && ok) {
				t.Errorf("%v: %d is before %d in %d, after it in %d of %d sequences", r, n, m, forth, back, count)
			}
		}
	}
	for place, c := range atPlace {
		if c != count {
			t.Errorf("%v: place %d is taken in %d sequences of %d", r, place, c, count)
		}
	}
}

func TestSequencesAndRanksCorrespond(t *testing.T) {
	source := rand.New(rand.NewSource(88))
	for _, r := range consistentRecords(source) {
		checkRanks(t, source, r)
		checkSums(t, r)
	}
}

// TestStepsThroughAllSequences goes from the first sequence to the last one.
func TestStepsThroughAllSequences(t *testing.T) {
	for _, r := range []impl.Record{pit(), diamond(), slope(), strata([]int{1, 2, 3, 4, 5})} {
		count, _ := impl.CountSequences(r)
		list, found := impl.SequenceAt(r, 0)
		steps := 0
		for ; found && steps <= count; steps++ {
			checkRank(t, r, list, steps, true)
			list, found, _ = impl.NextSequence(r, list)
		}
		if steps != count {
			t.Errorf("%v: %d of %d sequences", r, steps, count)
		}
	}
}

// sequenceLists calls every function of the chapter that returns lists of numbers.
func sequenceLists(r impl.Record, list []int) [][]int {
	next, _, _ := impl.NextSequence(r, list)
	all := [][]int{next}
	for _, rank := range []int{0, 1, 0} {
		at, _ := impl.SequenceAt(r, rank)
		all = append(all, at)
	}
	for _, n := range numbersOf(r) {
		counts, _ := impl.PlaceCounts(r, n)
		all = append(all, counts)
	}
	return all
}

// TestMemoryOfSequences passes slices that have more elements beyond their lengths.
func TestMemoryOfSequences(t *testing.T) {
	for name, plain := range matrixSites() {
		whole, r := lengthened(plain)
		first, _ := impl.SequenceAt(plain, 0)
		wholeList := append(slices.Clone(first), 1, 1000)
		before, listBefore := copyOf(whole), slices.Clone(wholeList)
		list := wholeList[:len(first)]
		want := sequenceLists(plain, first)
		checkSeparate(t, name, sequenceLists(r, list), want)
		checkSeparate(t, name, backward(sequenceLists(r, list)), backward(want))
		checkIs(t, r, list, true, true)
		checkRank(t, r, list, 0, true)
		checkDistance(t, r, list, list, 0, true)
		count, _ := impl.CountSequences(plain)
		checkCount(t, r, count, true)
		for _, n := range numbersOf(plain) {
			impl.PlaceRange(r, n)
			impl.CountBefore(r, n, list[0])
		}
		if !sameRecord(whole, before) || !slices.Equal(wholeList, listBefore) {
			t.Errorf("%s: the arguments became %v, %v", name, whole, wholeList)
		}
	}
}

// TestSequenceFunctionsLeaveTheirLists passes lists in other orders, most of them no sequences.
func TestSequenceFunctionsLeaveTheirLists(t *testing.T) {
	r := diamond()
	for _, order := range allOrders(numbersOf(r)) {
		a, b := slices.Clone(order), backward(order)
		impl.IsSequence(r, a)
		impl.RankSequence(r, a)
		impl.NextSequence(r, a)
		impl.SequenceDistance(r, a, b)
		impl.SequenceDistance(r, b, a)
		if !slices.Equal(a, order) || !slices.Equal(b, backward(order)) {
			t.Errorf("the lists became %v and %v", a, b)
		}
	}
	if !sameRecord(r, diamond()) {
		t.Errorf("the record became %v", r)
	}
}
