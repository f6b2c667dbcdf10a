package tests

import (
	"cmp"
	"math"
	"slices"
	"testing"

	"loop.example/g00876/impl"
)

// site returns the record with the numbers and kinds of contexts and the pairs of relations.
func site(contexts [][2]int, relations ...[2]int) impl.Record {
	r := impl.Record{}
	for _, c := range contexts {
		r.Contexts = append(r.Contexts, impl.Context{Number: c[0], Kind: c[1]})
	}
	for _, x := range relations {
		r.Relations = append(r.Relations, impl.Relation{Upper: x[0], Lower: x[1]})
	}
	return r
}

// trench has a contradiction, every kind, a context without relations, and gaps between Numbers.
func trench() impl.Record {
	return site(
		[][2]int{{2, impl.KindDeposit}, {3, impl.KindDeposit}, {5, impl.KindCut}, {8, impl.KindStructure}, {13, impl.KindNatural}, {21, impl.KindDeposit}, {34, impl.KindCut}},
		[2]int{2, 3}, [2]int{2, 5}, [2]int{3, 2}, [2]int{3, 5}, [2]int{3, 13}, [2]int{5, 21}, [2]int{8, 13}, [2]int{21, 13},
	)
}

// fullSite meets MaxContexts and MaxRelations exactly; its Numbers are 100, 199, ... 991.
func fullSite() impl.Record {
	r := impl.Record{}
	for i := range impl.MaxContexts {
		r.Contexts = append(r.Contexts, impl.Context{Number: 100 + 99*i, Kind: impl.KindDeposit})
	}
	for i := range r.Contexts {
		for j := i + 1; j < len(r.Contexts) && len(r.Relations) < impl.MaxRelations; j++ {
			x := impl.Relation{Upper: r.Contexts[i].Number, Lower: r.Contexts[j].Number}
			r.Relations = append(r.Relations, x)
		}
	}
	return r
}

func copyOf(r impl.Record) impl.Record {
	return impl.Record{Contexts: slices.Clone(r.Contexts), Relations: slices.Clone(r.Relations)}
}

// lengthened returns a copy of a record whose slices have more elements beyond their lengths, and
// before it the record with these elements, which no function may read or write.
func lengthened(plain impl.Record) (impl.Record, impl.Record) {
	whole := copyOf(plain)
	whole.Contexts = append(whole.Contexts, impl.Context{Number: 1000, Kind: 1}, impl.Context{Number: 1, Kind: 9})
	whole.Relations = append(whole.Relations, impl.Relation{Upper: 200, Lower: 30}, impl.Relation{Upper: 4, Lower: 30})
	return whole, impl.Record{Contexts: whole.Contexts[:len(plain.Contexts)], Relations: whole.Relations[:len(plain.Relations)]}
}

func sameRecord(a, b impl.Record) bool {
	return slices.Equal(a.Contexts, b.Contexts) && slices.Equal(a.Relations, b.Relations)
}

func checkRecord(t *testing.T, what string, got impl.Record, ok bool, want impl.Record, wantOk bool) {
	t.Helper()
	if !sameRecord(got, want) || ok != wantOk {
		t.Errorf("%s: %v, %v; want %v, %v", what, got, ok, want, wantOk)
	}
	if ok && !impl.IsValidRecord(got) {
		t.Errorf("%s: %v is not valid", what, got)
	}
}

func checkNoRecord(t *testing.T, what string, got impl.Record, ok bool) {
	t.Helper()
	checkRecord(t, what, got, ok, impl.Record{}, false)
}

// invalidSites are records with one flaw each.
func invalidSites() map[string]impl.Record {
	const d = impl.KindDeposit
	two := [][2]int{{1, d}, {2, d}}
	three := [][2]int{{1, d}, {2, d}, {3, d}}
	sites := map[string]impl.Record{
		"number 0":                 site([][2]int{{0, d}, {2, d}}),
		"negative number":          site([][2]int{{-1, d}, {2, d}}),
		"smallest integer":         site([][2]int{{math.MinInt, d}}),
		"number above MaxNumber":   site([][2]int{{2, d}, {impl.MaxNumber + 1, d}}),
		"greatest integer":         site([][2]int{{math.MaxInt, d}}),
		"equal numbers":            site([][2]int{{1, d}, {2, d}, {2, d}}),
		"equal numbers of kinds":   site([][2]int{{1, d}, {2, d}, {2, impl.KindCut}}),
		"numbers out of order":     site([][2]int{{2, d}, {1, d}}),
		"kind 0":                   site([][2]int{{1, d}, {2, 0}}),
		"kind 5":                   site([][2]int{{1, d}, {2, 5}}),
		"negative kind":            site([][2]int{{1, -1}, {2, d}}),
		"relation with itself":     site(two, [2]int{2, 2}),
		"unknown upper":            site(two, [2]int{3, 2}),
		"unknown lower":            site(two, [2]int{1, 3}),
		"relation with 0":          site(two, [2]int{0, 1}),
		"relation without context": site(nil, [2]int{1, 2}),
		"equal relations":          site(two, [2]int{1, 2}, [2]int{1, 2}),
		"uppers out of order":      site(three, [2]int{2, 1}, [2]int{1, 2}),
		"lowers out of order":      site(three, [2]int{1, 3}, [2]int{1, 2}),
	}
	many := fullSite()
	many.Contexts = append([]impl.Context{{Number: 1, Kind: d}}, many.Contexts...)
	sites["too many contexts"] = many
	related := fullSite()
	related.Relations = append(related.Relations, impl.Relation{Upper: 991, Lower: 100})
	sites["too many relations"] = related
	return sites
}

func TestIsValidRecord(t *testing.T) {
	valid := map[string]impl.Record{
		"empty":         {},
		"empty slices":  {Contexts: []impl.Context{}, Relations: []impl.Relation{}},
		"trench":        trench(),
		"full":          fullSite(),
		"limits":        site([][2]int{{1, impl.KindDeposit}, {impl.MaxNumber, impl.KindNatural}}, [2]int{1, impl.MaxNumber}, [2]int{impl.MaxNumber, 1}),
		"contradiction": site([][2]int{{1, 1}, {2, 1}, {3, 1}}, [2]int{1, 2}, [2]int{2, 3}, [2]int{3, 1}),
	}
	for name, r := range valid {
		if !impl.IsValidRecord(r) {
			t.Errorf("%s: %v is not valid", name, r)
		}
	}
	for name, r := range invalidSites() {
		if impl.IsValidRecord(r) {
			t.Errorf("%s: %v is valid", name, r)
		}
	}
}

func TestInvalidRecordsAreRefused(t *testing.T) {
	for name, r := range invalidSites() {
		before := copyOf(r)
		for number := -1; number <= 4; number++ {
			if i, ok := impl.ContextIndex(r, number); i != 0 || ok {
				t.Errorf("%s: ContextIndex = %d, %v", name, i, ok)
			}
			if l, ok := impl.RelationsOf(r, number); len(l) != 0 || ok {
				t.Errorf("%s: RelationsOf = %v, %v", name, l, ok)
			}
			if l, ok := impl.ContextsOfKind(r, number); len(l) != 0 || ok {
				t.Errorf("%s: ContextsOfKind = %v, %v", name, l, ok)
			}
			got, ok := impl.RemoveContext(r, number)
			checkNoRecord(t, name+": RemoveContext", got, ok)
			got, ok = impl.AddContext(r, impl.Context{Number: number, Kind: impl.KindDeposit})
			checkNoRecord(t, name+": AddContext", got, ok)
			for other := -1; other <= 4; other++ {
				x := impl.Relation{Upper: number, Lower: other}
				got, ok = impl.AddRelation(r, x)
				checkNoRecord(t, name+": AddRelation", got, ok)
				got, ok = impl.RemoveRelation(r, x)
				checkNoRecord(t, name+": RemoveRelation", got, ok)
				got, ok = impl.EquateContexts(r, number, other)
				checkNoRecord(t, name+": EquateContexts", got, ok)
				got, ok = impl.RenumberContext(r, number, other)
				checkNoRecord(t, name+": RenumberContext", got, ok)
			}
		}
		if !sameRecord(r, before) {
			t.Errorf("%s: the argument became %v", name, r)
		}
	}
	related := invalidSites()["too many relations"]
	got, ok := impl.RemoveRelation(related, impl.Relation{Upper: 991, Lower: 100})
	checkNoRecord(t, "removing the relation that is too much", got, ok)
	got, ok = impl.RemoveContext(invalidSites()["too many contexts"], 1)
	checkNoRecord(t, "removing the context that is too much", got, ok)
}

func TestContextIndex(t *testing.T) {
	for _, r := range []impl.Record{{}, trench(), fullSite()} {
		for number := -1; number <= impl.MaxNumber+1; number++ {
			want := slices.IndexFunc(r.Contexts, func(c impl.Context) bool { return c.Number == number })
			i, ok := impl.ContextIndex(r, number)
			if ok != (want >= 0) || i != max(want, 0) {
				t.Errorf("ContextIndex(%v, %d) = %d, %v", r, number, i, ok)
			}
		}
		for _, number := range []int{math.MinInt, math.MaxInt} {
			if i, ok := impl.ContextIndex(r, number); i != 0 || ok {
				t.Errorf("ContextIndex(%v, %d) = %d, %v", r, number, i, ok)
			}
		}
	}
}

func TestAddContext(t *testing.T) {
	r := trench()
	for _, number := range []int{1, 4, 20, 35, impl.MaxNumber} {
		for kind := impl.KindDeposit; kind <= impl.KindNatural; kind++ {
			c := impl.Context{Number: number, Kind: kind}
			want := trench()
			want.Contexts = append(want.Contexts, c)
			slices.SortFunc(want.Contexts, func(a, b impl.Context) int { return cmp.Compare(a.Number, b.Number) })
			got, ok := impl.AddContext(r, c)
			checkRecord(t, "added", got, ok, want, true)
		}
	}
	got, ok := impl.AddContext(impl.Record{}, impl.Context{Number: 7, Kind: impl.KindCut})
	checkRecord(t, "added to the empty record", got, ok, site([][2]int{{7, impl.KindCut}}), true)
}

func TestAddContextRefuses(t *testing.T) {
	for _, number := range []int{2, 5, 34, 0, -1, impl.MaxNumber + 1, math.MinInt, math.MaxInt} {
		for kind := impl.KindDeposit; kind <= impl.KindNatural; kind++ {
			got, ok := impl.AddContext(trench(), impl.Context{Number: number, Kind: kind})
			checkNoRecord(t, "number", got, ok)
		}
	}
	for _, kind := range []int{0, 5, -1, math.MinInt, math.MaxInt} {
		got, ok := impl.AddContext(trench(), impl.Context{Number: 4, Kind: kind})
		checkNoRecord(t, "kind", got, ok)
	}
	got, ok := impl.AddContext(fullSite(), impl.Context{Number: 4, Kind: impl.KindCut})
	checkNoRecord(t, "one more than MaxContexts", got, ok)
	nine, ok := impl.RemoveContext(fullSite(), 991)
	if !ok {
		t.Fatal("nothing removed")
	}
	got, ok = impl.AddContext(nine, impl.Context{Number: 4, Kind: impl.KindCut})
	if !ok || len(got.Contexts) != impl.MaxContexts || !impl.IsValidRecord(got) {
		t.Errorf("MaxContexts met exactly: %v, %v", got, ok)
	}
}

func TestRemoveContext(t *testing.T) {
	r := trench()
	got, ok := impl.RemoveContext(r, 3)
	checkRecord(t, "removed 3", got, ok, site(
		[][2]int{{2, impl.KindDeposit}, {5, impl.KindCut}, {8, impl.KindStructure}, {13, impl.KindNatural}, {21, impl.KindDeposit}, {34, impl.KindCut}},
		[2]int{2, 5}, [2]int{5, 21}, [2]int{8, 13}, [2]int{21, 13},
	), true)
	got, ok = impl.RemoveContext(r, 34)
	without := trench()
	without.Contexts = without.Contexts[:6]
	checkRecord(t, "removed a context without relations", got, ok, without, true)
	got, ok = impl.RemoveContext(site([][2]int{{7, impl.KindCut}}), 7)
	checkRecord(t, "removed the only context", got, ok, impl.Record{}, true)
	for _, number := range []int{0, 1, 4, 35, -2, impl.MaxNumber, math.MinInt, math.MaxInt} {
		got, ok = impl.RemoveContext(r, number)
		checkNoRecord(t, "no such context", got, ok)
		got, ok = impl.RemoveContext(impl.Record{}, number)
		checkNoRecord(t, "the empty record", got, ok)
	}
}

func TestAddedContextsAreRemovedAgain(t *testing.T) {
	for _, r := range []impl.Record{{}, trench(), smallSite([3]int{1, 2, 4}, 37)} {
		for number := 1; number <= impl.MaxNumber; number++ {
			kind := 1 + number%4
			if _, taken := impl.ContextIndex(r, number); taken {
				continue
			}
			added, ok := impl.AddContext(r, impl.Context{Number: number, Kind: kind})
			if !ok {
				t.Fatalf("%d is not added to %v", number, r)
			}
			i, ok := impl.ContextIndex(added, number)
			if !ok || added.Contexts[i].Kind != kind {
				t.Errorf("%d is not in %v", number, added)
			}
			back, ok := impl.RemoveContext(added, number)
			checkRecord(t, "removed again", back, ok, r, true)
		}
	}
}

func TestAddRelation(t *testing.T) {
	got, ok := impl.AddRelation(trench(), impl.Relation{Upper: 3, Lower: 8})
	want := trench()
	want.Relations = slices.Insert(want.Relations, 4, impl.Relation{Upper: 3, Lower: 8})
	checkRecord(t, "added between", got, ok, want, true)
	got, ok = impl.AddRelation(trench(), impl.Relation{Upper: 34, Lower: 2})
	want = trench()
	want.Relations = append(want.Relations, impl.Relation{Upper: 34, Lower: 2})
	checkRecord(t, "added last", got, ok, want, true)
	refused := []impl.Relation{
		{}, {Upper: 2, Lower: 2}, {Upper: 34, Lower: 34}, {Upper: 1, Lower: 2}, {Upper: 2, Lower: 1}, {Upper: 2, Lower: 35},
		{Upper: 4, Lower: 6}, {Upper: 4, Lower: 4}, {Upper: -2, Lower: 3}, {Upper: math.MaxInt, Lower: 3}, {Upper: 3, Lower: math.MinInt},
	}
	for _, x := range refused {
		got, ok = impl.AddRelation(trench(), x)
		checkNoRecord(t, "relation", got, ok)
		got, ok = impl.AddRelation(impl.Record{}, x)
		checkNoRecord(t, "the empty record", got, ok)
	}
}

func TestAddRelationThatIsThere(t *testing.T) {
	for _, r := range []impl.Record{trench(), fullSite()} {
		for _, x := range r.Relations {
			before := copyOf(r)
			got, ok := impl.AddRelation(r, x)
			checkRecord(t, "added twice", got, ok, before, true)
			clearRecord(got)
			if !sameRecord(r, before) {
				t.Fatal("the unchanged record is not new memory")
			}
		}
	}
}

func TestAddRelationLimit(t *testing.T) {
	x := impl.Relation{Upper: 991, Lower: 100}
	got, ok := impl.AddRelation(fullSite(), x)
	checkNoRecord(t, "one more than MaxRelations", got, ok)
	less := fullSite()
	less.Relations = less.Relations[:impl.MaxRelations-1]
	got, ok = impl.AddRelation(less, x)
	want := fullSite()
	want.Relations[impl.MaxRelations-1] = x
	checkRecord(t, "MaxRelations met exactly", got, ok, want, true)
}

func TestRemoveRelation(t *testing.T) {
	r := trench()
	for i, x := range r.Relations {
		want := trench()
		want.Relations = slices.Delete(want.Relations, i, i+1)
		got, ok := impl.RemoveRelation(r, x)
		checkRecord(t, "removed", got, ok, want, true)
	}
	missing := []impl.Relation{{}, {Upper: 5, Lower: 2}, {Upper: 2, Lower: 13}, {Upper: 2, Lower: 2}, {Upper: 1, Lower: 2}, {Upper: 2, Lower: 4}, {Upper: -2, Lower: -3}}
	for _, x := range missing {
		got, ok := impl.RemoveRelation(r, x)
		checkNoRecord(t, "no such relation", got, ok)
		got, ok = impl.RemoveRelation(impl.Record{}, x)
		checkNoRecord(t, "the empty record", got, ok)
	}
}

func TestAddedRelationsAreRemovedAgain(t *testing.T) {
	r := trench()
	added := 0
	for _, upper := range r.Contexts {
		for _, lower := range r.Contexts {
			x := impl.Relation{Upper: upper.Number, Lower: lower.Number}
			if x.Upper == x.Lower || slices.Contains(r.Relations, x) {
				continue
			}
			more, ok := impl.AddRelation(r, x)
			if !ok || !slices.Contains(more.Relations, x) {
				t.Fatalf("%v is not added: %v, %v", x, more, ok)
			}
			back, ok := impl.RemoveRelation(more, x)
			checkRecord(t, "removed again", back, ok, r, true)
			added++
		}
	}
	if added != 42-8 {
		t.Errorf("%d relations were added", added)
	}
}

func TestRelationsOf(t *testing.T) {
	r := trench()
	want := map[int][]impl.Relation{
		2:  {{Upper: 2, Lower: 3}, {Upper: 2, Lower: 5}, {Upper: 3, Lower: 2}},
		3:  {{Upper: 2, Lower: 3}, {Upper: 3, Lower: 2}, {Upper: 3, Lower: 5}, {Upper: 3, Lower: 13}},
		5:  {{Upper: 2, Lower: 5}, {Upper: 3, Lower: 5}, {Upper: 5, Lower: 21}},
		8:  {{Upper: 8, Lower: 13}},
		13: {{Upper: 3, Lower: 13}, {Upper: 8, Lower: 13}, {Upper: 21, Lower: 13}},
		21: {{Upper: 5, Lower: 21}, {Upper: 21, Lower: 13}},
		34: {},
	}
	for number := -1; number <= 40; number++ {
		list, known := want[number]
		if got, ok := impl.RelationsOf(r, number); !slices.Equal(got, list) || ok != known {
			t.Errorf("RelationsOf %d = %v, %v", number, got, ok)
		}
		if got, ok := impl.RelationsOf(impl.Record{}, number); len(got) != 0 || ok {
			t.Errorf("RelationsOf %d in the empty record = %v, %v", number, got, ok)
		}
	}
}

func TestContextsOfKind(t *testing.T) {
	want := map[int][]int{
		impl.KindDeposit: {2, 3, 21}, impl.KindCut: {5, 34}, impl.KindStructure: {8}, impl.KindNatural: {13},
	}
	for kind := -1; kind <= 6; kind++ {
		list, known := want[kind]
		if got, ok := impl.ContextsOfKind(trench(), kind); !slices.Equal(got, list) || ok != known {
			t.Errorf("ContextsOfKind %d = %v, %v", kind, got, ok)
		}
		if got, ok := impl.ContextsOfKind(impl.Record{}, kind); len(got) != 0 || ok != known {
			t.Errorf("ContextsOfKind %d in the empty record = %v, %v", kind, got, ok)
		}
	}
	if got, ok := impl.ContextsOfKind(fullSite(), impl.KindCut); len(got) != 0 || !ok {
		t.Errorf("a kind that the record does not have = %v, %v", got, ok)
	}
}

func TestEquateContexts(t *testing.T) {
	rest := [][2]int{{5, impl.KindCut}, {8, impl.KindStructure}, {13, impl.KindNatural}}
	got, ok := impl.EquateContexts(trench(), 2, 3)
	checkRecord(t, "keep 2, drop 3", got, ok, site(
		append([][2]int{{2, impl.KindDeposit}}, append(slices.Clone(rest), [2]int{21, impl.KindDeposit}, [2]int{34, impl.KindCut})...),
		[2]int{2, 5}, [2]int{2, 13}, [2]int{5, 21}, [2]int{8, 13}, [2]int{21, 13},
	), true)
	got, ok = impl.EquateContexts(trench(), 3, 2)
	checkRecord(t, "keep 3, drop 2", got, ok, site(
		append([][2]int{{3, impl.KindDeposit}}, append(slices.Clone(rest), [2]int{21, impl.KindDeposit}, [2]int{34, impl.KindCut})...),
		[2]int{3, 5}, [2]int{3, 13}, [2]int{5, 21}, [2]int{8, 13}, [2]int{21, 13},
	), true)
	got, ok = impl.EquateContexts(trench(), 21, 3)
	checkRecord(t, "keep 21, drop 3", got, ok, site(
		[][2]int{{2, impl.KindDeposit}, {5, impl.KindCut}, {8, impl.KindStructure}, {13, impl.KindNatural}, {21, impl.KindDeposit}, {34, impl.KindCut}},
		[2]int{2, 5}, [2]int{2, 21}, [2]int{5, 21}, [2]int{8, 13}, [2]int{21, 2}, [2]int{21, 5}, [2]int{21, 13},
	), true)
	got, ok = impl.EquateContexts(site([][2]int{{1, 2}, {2, 2}}, [2]int{1, 2}, [2]int{2, 1}), 2, 1)
	checkRecord(t, "only relations with each other", got, ok, site([][2]int{{2, 2}}), true)
}

func TestEquateContextsRefuses(t *testing.T) {
	for _, pair := range [][2]int{{2, 2}, {34, 34}, {2, 5}, {5, 2}, {8, 13}, {2, 4}, {4, 2}, {3, 4}, {4, 3}, {21, 35}, {35, 21}, {4, 4}, {0, 2}, {2, -3}, {4, 6}, {2, math.MaxInt}, {math.MinInt, 2}} {
		got, ok := impl.EquateContexts(trench(), pair[0], pair[1])
		checkNoRecord(t, "pair", got, ok)
		got, ok = impl.EquateContexts(impl.Record{}, pair[0], pair[1])
		checkNoRecord(t, "the empty record", got, ok)
	}
}

func TestRenumberContext(t *testing.T) {
	got, ok := impl.RenumberContext(trench(), 3, 30)
	checkRecord(t, "3 to 30", got, ok, site(
		[][2]int{{2, impl.KindDeposit}, {5, impl.KindCut}, {8, impl.KindStructure}, {13, impl.KindNatural}, {21, impl.KindDeposit}, {30, impl.KindDeposit}, {34, impl.KindCut}},
		[2]int{2, 5}, [2]int{2, 30}, [2]int{5, 21}, [2]int{8, 13}, [2]int{21, 13}, [2]int{30, 2}, [2]int{30, 5}, [2]int{30, 13},
	), true)
	got, ok = impl.RenumberContext(trench(), 13, 1)
	checkRecord(t, "13 to 1", got, ok, site(
		[][2]int{{1, impl.KindNatural}, {2, impl.KindDeposit}, {3, impl.KindDeposit}, {5, impl.KindCut}, {8, impl.KindStructure}, {21, impl.KindDeposit}, {34, impl.KindCut}},
		[2]int{2, 3}, [2]int{2, 5}, [2]int{3, 1}, [2]int{3, 2}, [2]int{3, 5}, [2]int{5, 21}, [2]int{8, 1}, [2]int{21, 1},
	), true)
	got, ok = impl.RenumberContext(trench(), 3, 3)
	checkRecord(t, "the number that the context has", got, ok, trench(), true)
	for _, number := range []int{1, impl.MaxNumber} {
		got, ok = impl.RenumberContext(fullSite(), 496, number)
		if !ok || len(got.Contexts) != impl.MaxContexts || len(got.Relations) != impl.MaxRelations || !impl.IsValidRecord(got) {
			t.Errorf("496 to %d = %v, %v", number, got, ok)
		}
		back, ok := impl.RenumberContext(got, number, 496)
		checkRecord(t, "renumbered again", back, ok, fullSite(), true)
	}
}

func TestRenumberContextRefuses(t *testing.T) {
	pairs := [][2]int{
		{3, 2}, {3, 34}, {3, 0}, {3, -1}, {3, impl.MaxNumber + 1}, {3, math.MaxInt}, {3, math.MinInt},
		{4, 6}, {4, 4}, {4, 3}, {0, 1}, {0, 0}, {-1, 1}, {1000, 1000},
	}
	for _, pair := range pairs {
		got, ok := impl.RenumberContext(trench(), pair[0], pair[1])
		checkNoRecord(t, "pair", got, ok)
		got, ok = impl.RenumberContext(impl.Record{}, pair[0], pair[1])
		checkNoRecord(t, "the empty record", got, ok)
	}
}

// smallSite has the contexts 2, 5 and 9 and those of their six relations that the bits choose.
func smallSite(kinds [3]int, bits int) impl.Record {
	r := site([][2]int{{2, kinds[0]}, {5, kinds[1]}, {9, kinds[2]}})
	pairs := [][2]int{{2, 5}, {2, 9}, {5, 2}, {5, 9}, {9, 2}, {9, 5}}
	for i, p := range pairs {
		if bits>>i&1 == 1 {
			r.Relations = append(r.Relations, impl.Relation{Upper: p[0], Lower: p[1]})
		}
	}
	return r
}

// replaced puts one number for another in r by sets, as a check of the program's lists.
func replaced(r impl.Record, old, number int) impl.Record {
	change := func(n int) int {
		if n == old {
			return number
		}
		return n
	}
	kinds := map[int]int{}
	for _, c := range r.Contexts {
		kinds[change(c.Number)] = c.Kind
	}
	pairs := map[[2]int]bool{}
	for _, x := range r.Relations {
		pairs[[2]int{change(x.Upper), change(x.Lower)}] = true
	}
	result := impl.Record{}
	for n := range 20 {
		if kinds[n] != 0 {
			result.Contexts = append(result.Contexts, impl.Context{Number: n, Kind: kinds[n]})
		}
		for m := range 20 {
			if n != m && pairs[[2]int{n, m}] {
				result.Relations = append(result.Relations, impl.Relation{Upper: n, Lower: m})
			}
		}
	}
	return result
}

func TestEveryRecordOfThreeContexts(t *testing.T) {
	for bits := range 64 {
		for _, kinds := range [][3]int{{1, 1, 1}, {4, 4, 2}, {2, 3, 2}, {1, 4, 4}} {
			r := smallSite(kinds, bits)
			for i, a := range r.Contexts {
				for j, b := range r.Contexts {
					got, ok := impl.EquateContexts(r, a.Number, b.Number)
					if i == j || a.Kind != b.Kind {
						checkNoRecord(t, "EquateContexts", got, ok)
						continue
					}
					checkRecord(t, "EquateContexts", got, ok, replaced(r, b.Number, a.Number), true)
				}
				for number := 1; number < 20; number++ {
					got, ok := impl.RenumberContext(r, a.Number, number)
					if _, taken := impl.ContextIndex(r, number); taken && number != a.Number {
						checkNoRecord(t, "RenumberContext", got, ok)
						continue
					}
					checkRecord(t, "RenumberContext", got, ok, replaced(r, a.Number, number), true)
				}
			}
		}
	}
}

func clearRecord(r impl.Record) {
	clear(r.Contexts[:cap(r.Contexts)])
	clear(r.Relations[:cap(r.Relations)])
}

// TestMemoryOfRecords passes records whose slices have more elements beyond their lengths, and
// then overwrites the results with all their capacity.
func TestMemoryOfRecords(t *testing.T) {
	changes := map[string]func(impl.Record) (impl.Record, bool){
		"AddContext":        func(r impl.Record) (impl.Record, bool) { return impl.AddContext(r, impl.Context{Number: 4, Kind: 2}) },
		"RemoveContext":     func(r impl.Record) (impl.Record, bool) { return impl.RemoveContext(r, 3) },
		"AddRelation":       func(r impl.Record) (impl.Record, bool) { return impl.AddRelation(r, impl.Relation{Upper: 2, Lower: 8}) },
		"AddRelation again": func(r impl.Record) (impl.Record, bool) { return impl.AddRelation(r, impl.Relation{Upper: 2, Lower: 3}) },
		"RemoveRelation": func(r impl.Record) (impl.Record, bool) {
			return impl.RemoveRelation(r, impl.Relation{Upper: 2, Lower: 3})
		},
		"EquateContexts":     func(r impl.Record) (impl.Record, bool) { return impl.EquateContexts(r, 21, 2) },
		"RenumberContext":    func(r impl.Record) (impl.Record, bool) { return impl.RenumberContext(r, 2, 30) },
		"RenumberContext no": func(r impl.Record) (impl.Record, bool) { return impl.RenumberContext(r, 2, 2) },
		"RelationsOf": func(r impl.Record) (impl.Record, bool) {
			list, ok := impl.RelationsOf(r, 3)
			return impl.Record{Relations: list}, ok
		},
	}
	for name, change := range changes {
		whole := trench()
		whole.Contexts = append(whole.Contexts, impl.Context{Number: 77, Kind: 1}, impl.Context{Number: 1, Kind: 9})
		whole.Relations = append(whole.Relations, impl.Relation{Upper: 34, Lower: 77}, impl.Relation{Upper: 2, Lower: 8})
		before := copyOf(whole)
		r := impl.Record{Contexts: whole.Contexts[:7], Relations: whole.Relations[:8]}
		got, ok := change(r)
		want, wantOk := change(trench())
		if !ok || !wantOk || !sameRecord(got, want) {
			t.Errorf("%s: %v, %v; want %v, %v", name, got, ok, want, wantOk)
		}
		clearRecord(got)
		if !sameRecord(whole, before) {
			t.Errorf("%s: the argument became %v", name, whole)
		}
	}
}
