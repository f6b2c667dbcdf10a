package tests

import (
	"fmt"
	"math"
	"slices"
	"strings"
	"testing"

	"loop.example/g00876/impl"
)

const trenchText = `context 2 deposit
context 3 deposit
context 5 cut
context 8 structure
context 13 natural
context 21 deposit
context 34 cut
2 above 3
2 above 5
3 above 2
3 above 5
3 above 13
5 above 21
8 above 13
21 above 13
`

func TestParseRecord(t *testing.T) {
	got, ok := impl.ParseRecord(trenchText)
	checkRecord(t, "trench", got, ok, trench(), true)
	got, ok = impl.ParseRecord("")
	checkRecord(t, "the empty record", got, ok, impl.Record{}, true)
	got, ok = impl.ParseRecord("context 3 deposit\ncontext 7 cut\n3 above 7\n")
	checkRecord(t, "example", got, ok, site([][2]int{{3, impl.KindDeposit}, {7, impl.KindCut}}, [2]int{3, 7}), true)
	got, ok = impl.ParseRecord("context 1 natural\ncontext 999 structure\n999 above 1\n")
	checkRecord(t, "limits", got, ok, site([][2]int{{1, impl.KindNatural}, {impl.MaxNumber, impl.KindStructure}}, [2]int{999, 1}), true)
}

func TestParseRecordRefuses(t *testing.T) {
	const two = "context 1 cut\ncontext 2 cut\n"
	texts := []string{
		"\n", " ", "x", "context", "context \n", "context 1\n", "context 1 \n", "context 1 cut", "context 1 cut\r\n", "context 1 cut \n",
		" context 1 cut\n", "context  1 cut\n", "context 1  cut\n", "context 01 cut\n", "context +1 cut\n", "context 0 cut\n", "context -1 cut\n",
		"context 1000 cut\n", "context 1 Cut\n", "context 1 cuts\n", "context 1 2\n", "Context 1 cut\n", "context 1 cut\n\n", "\ncontext 1 cut\n",
		"context 1 cut deposit\n", "context x cut\n", "context 2 cut\ncontext 1 cut\n", "context 1 cut\ncontext 1 cut\n",
		two + "1 above 2", two + "1 above 1\n", two + "1 above 3\n", two + "3 above 1\n", two + "1 below 2\n", two + "1  above 2\n",
		two + "1 above  2\n", two + "1 above 02\n", two + "01 above 2\n", two + "1 above\n", two + " above \n", two + "above\n", two + "1 above 2 \n",
		two + "1 above 2\n1 above 2\n", two + "2 above 1\n1 above 2\n", two + "1 above 2 above 1\n", two + "1 above 2\r\n", two + "1 above 2\n\n",
		"1 above 2\n", "1 above 2\n" + two, "context 1 cut\ncontext 2 cut\n1 above 2\ncontext 3 cut\n",
		strings.Repeat("context 1 cut\n", 300), trenchText + "x", trenchText[:len(trenchText)-1], strings.Repeat("\n", impl.MaxString+1),
	}
	for _, s := range texts {
		got, ok := impl.ParseRecord(s)
		checkNoRecord(t, s, got, ok)
	}
}

func TestParseRecordLimits(t *testing.T) {
	contexts, relations := "", ""
	for _, c := range fullSite().Contexts {
		number, _ := impl.FormatInt(c.Number)
		contexts += "context " + number + " deposit\n"
	}
	for _, x := range fullSite().Relations {
		upper, _ := impl.FormatInt(x.Upper)
		lower, _ := impl.FormatInt(x.Lower)
		relations += upper + " above " + lower + "\n"
	}
	got, ok := impl.ParseRecord(contexts + relations)
	checkRecord(t, "limits met exactly", got, ok, fullSite(), true)
	got, ok = impl.ParseRecord("context 1 deposit\n" + contexts + relations)
	checkNoRecord(t, "one more than MaxContexts", got, ok)
	got, ok = impl.ParseRecord(contexts + relations + "991 above 100\n")
	checkNoRecord(t, "one more than MaxRelations", got, ok)
}

var kindTexts = map[int]string{
	impl.KindDeposit: "deposit", impl.KindCut: "cut", impl.KindStructure: "structure", impl.KindNatural: "natural",
}

// textOf writes a record as the chapter says it, whether the record is valid or not.
func textOf(r impl.Record) string {
	text := ""
	for _, c := range r.Contexts {
		text += fmt.Sprintf("context %d %s\n", c.Number, kindTexts[c.Kind])
	}
	for _, x := range r.Relations {
		text += fmt.Sprintf("%d above %d\n", x.Upper, x.Lower)
	}
	return text
}

// altered returns the texts that differ from s by one byte that is left out, put in or replaced.
func altered(s string) []string {
	const signs = " \n\r,0129-+xcn\x00\xff"
	all := []string{}
	for i := 0; i <= len(s); i++ {
		for j := range len(signs) {
			all = append(all, s[:i]+signs[j:j+1]+s[i:])
			if i < len(s) {
				all = append(all, s[:i]+signs[j:j+1]+s[i+1:])
			}
		}
		if i < len(s) {
			all = append(all, s[:i]+s[i+1:])
		}
	}
	return all
}

func checkLines(t *testing.T, r impl.Record, number int, want []string, wantOk bool) {
	t.Helper()
	if got, ok := impl.RecordLines(r, number); !slices.Equal(got, want) || ok != wantOk {
		t.Errorf("RecordLines(%v, %d) = %q, %v; want %q, %v", r, number, got, ok, want, wantOk)
	}
}

func checkFormatNumbers(t *testing.T, list []int, want string, wantOk bool) {
	t.Helper()
	if got, ok := impl.FormatNumbers(list); got != want || ok != wantOk {
		t.Errorf("FormatNumbers(%v) = %q, %v; want %q, %v", list, got, ok, want, wantOk)
	}
}

func checkParseNumbers(t *testing.T, s string, want []int, wantOk bool) {
	t.Helper()
	if got, ok := impl.ParseNumbers(s); !slices.Equal(got, want) || ok != wantOk {
		t.Errorf("ParseNumbers(%.60q) = %v, %v; want %v, %v", s, got, ok, want, wantOk)
	}
}

func TestKindWords(t *testing.T) {
	for kind, word := range kindTexts {
		if got, ok := impl.KindWord(kind); got != word || !ok {
			t.Errorf("KindWord(%d) = %q, %v", kind, got, ok)
		}
		if got, ok := impl.ParseKind(word); got != kind || !ok {
			t.Errorf("ParseKind(%q) = %d, %v", word, got, ok)
		}
	}
	for _, kind := range []int{0, 5, -1, -4, 6, math.MinInt, math.MaxInt} {
		if got, ok := impl.KindWord(kind); got != "" || ok {
			t.Errorf("KindWord(%d) = %q, %v", kind, got, ok)
		}
	}
}

func TestParseKindRefuses(t *testing.T) {
	words := []string{"", " ", "layer", "Cut", "CUT", "cuts", "cu", "1", "cut\n", "cut deposit", "none", "\x00", strings.Repeat("x", impl.MaxString), strings.Repeat("x", impl.MaxString+1)}
	for _, word := range kindTexts {
		for _, s := range altered(word) {
			if s != word {
				words = append(words, s)
			}
		}
	}
	for _, word := range words {
		if got, ok := impl.ParseKind(word); got != 0 || ok {
			t.Errorf("ParseKind(%.40q) = %d, %v", word, got, ok)
		}
	}
}

func TestFormatRecord(t *testing.T) {
	example := site([][2]int{{3, impl.KindDeposit}, {7, impl.KindCut}}, [2]int{3, 7})
	texts := map[string]impl.Record{
		"": {},
		"context 3 deposit\ncontext 7 cut\n3 above 7\n": example,
		trenchText:         trench(),
		textOf(fullSite()): fullSite(),
		"context 1 natural\ncontext 999 structure\n1 above 999\n999 above 1\n": site([][2]int{{1, impl.KindNatural}, {impl.MaxNumber, impl.KindStructure}}, [2]int{1, 999}, [2]int{999, 1}),
	}
	for want, r := range texts {
		if got, ok := impl.FormatRecord(r); got != want || !ok {
			t.Errorf("FormatRecord(%v) = %q, %v; want %q", r, got, ok, want)
		}
	}
	if got, ok := impl.FormatRecord(impl.Record{Contexts: []impl.Context{}, Relations: []impl.Relation{}}); got != "" || !ok {
		t.Errorf("the text of the record of empty slices = %q, %v", got, ok)
	}
}

func TestInvalidRecordsHaveNoText(t *testing.T) {
	for name, r := range invalidSites() {
		before := copyOf(r)
		if got, ok := impl.FormatRecord(r); got != "" || ok {
			t.Errorf("%s: FormatRecord = %q, %v", name, got, ok)
		}
		for number := -1; number <= 4; number++ {
			checkLines(t, r, number, nil, false)
		}
		checkLines(t, r, 100, nil, false)
		got, ok := impl.ParseRecord(textOf(r))
		checkNoRecord(t, name, got, ok)
		if !sameRecord(r, before) {
			t.Errorf("%s: the argument became %v", name, r)
		}
	}
}

func checkRecovered(t *testing.T, r impl.Record) {
	t.Helper()
	text, ok := impl.FormatRecord(r)
	if !ok || text != textOf(r) {
		t.Errorf("FormatRecord(%v) = %q, %v", r, text, ok)
	}
	back, ok := impl.ParseRecord(text)
	checkRecord(t, "recovered from "+text, back, ok, r, true)
}

func TestRecordsAreRecovered(t *testing.T) {
	for _, r := range []impl.Record{{}, trench(), fullSite()} {
		checkRecovered(t, r)
	}
	for kinds := range 64 {
		for bits := range 64 {
			checkRecovered(t, smallSite([3]int{1 + kinds%4, 1 + kinds/4%4, 1 + kinds/16}, bits))
		}
	}
	for number := 1; number <= impl.MaxNumber; number++ {
		checkRecovered(t, site([][2]int{{number, 1 + number%4}}))
	}
}

// TestOnlyTextsOfRecords alters texts: what is still read must be written in just this way.
func TestOnlyTextsOfRecords(t *testing.T) {
	for _, r := range []impl.Record{{}, trench(), smallSite([3]int{1, 3, 4}, 45), site([][2]int{{99, 2}, {999, 1}}, [2]int{99, 999})} {
		for _, s := range altered(textOf(r)) {
			got, ok := impl.ParseRecord(s)
			if !ok {
				checkNoRecord(t, s, got, ok)
				continue
			}
			if !impl.IsValidRecord(got) || textOf(got) != s {
				t.Errorf("ParseRecord(%q) = %v", s, got)
			}
		}
	}
}

func TestLinesOutOfOrderAreRefused(t *testing.T) {
	lines := strings.SplitAfter(strings.TrimSuffix(trenchText, "\n"), "\n")
	lines[len(lines)-1] += "\n"
	for i := range lines {
		for j := range i {
			swapped := slices.Clone(lines)
			swapped[i], swapped[j] = swapped[j], swapped[i]
			s := strings.Join(swapped, "")
			got, ok := impl.ParseRecord(s)
			checkNoRecord(t, s, got, ok)
		}
		twice := strings.Join(slices.Insert(slices.Clone(lines), i, lines[i]), "")
		got, ok := impl.ParseRecord(twice)
		checkNoRecord(t, twice, got, ok)
	}
}

// TestLongTextsAreRefused: no valid value has a text of MaxString bytes, but the lines and the
// numbers of these texts are right, one by one.
func TestLongTextsAreRefused(t *testing.T) {
	lines := strings.Repeat("context 1 cut\n", 285)
	for _, s := range []string{lines + "1 above 2\n", lines + "10 above 2\n", strings.Repeat("\n", impl.MaxString)} {
		got, ok := impl.ParseRecord(s)
		checkNoRecord(t, "long text", got, ok)
	}
	list := strings.Repeat("0, ", 1333) + "0"
	if len(lines)+10 != impl.MaxString || len(list) != impl.MaxString {
		t.Fatal("the texts do not meet the limit")
	}
	digits := strings.Repeat("0", impl.MaxString)
	for _, s := range []string{list, list + "0", digits, digits + "1", "1" + digits[1:], "1" + digits, strings.Repeat("1", 1<<20)} {
		checkParseNumbers(t, s, nil, false)
	}
}

func TestFormatNumbers(t *testing.T) {
	checkFormatNumbers(t, []int{4, 15, 2}, "4, 15, 2", true)
	checkFormatNumbers(t, nil, "none", true)
	checkFormatNumbers(t, []int{}, "none", true)
	checkFormatNumbers(t, []int{0}, "0", true)
	checkFormatNumbers(t, []int{999999}, "999999", true)
	checkFormatNumbers(t, []int{999999, 0, 0, 999999}, "999999, 0, 0, 999999", true)
	for _, n := range []int{-1, 1000000, -999999, math.MinInt, math.MaxInt} {
		checkFormatNumbers(t, []int{n}, "", false)
		checkFormatNumbers(t, []int{n, 1}, "", false)
		checkFormatNumbers(t, []int{1, n}, "", false)
		checkFormatNumbers(t, []int{1, n, 2}, "", false)
	}
}

func TestParseNumbers(t *testing.T) {
	checkParseNumbers(t, "4, 15, 2", []int{4, 15, 2}, true)
	checkParseNumbers(t, "none", nil, true)
	checkParseNumbers(t, "0", []int{0}, true)
	checkParseNumbers(t, "999999", []int{999999}, true)
	checkParseNumbers(t, "999999, 0, 0, 999999", []int{999999, 0, 0, 999999}, true)
	others := []string{
		"", " ", ",", ", ", "None", "none ", " none", "none, none", "none, 1", "1, none", "nonenone", "non", "-1", "1000000", "-0", "+1", "04", "00",
		"4,15", "4 15", "4,  15", "4 , 15", "4, 15 ", " 4, 15", "4, 15,", "4, 15, ", ", 4", "4, , 15", "4,, 15", "4, 015", "4, -15", "4, 1000000",
		"1000000, 4", "-1, 4", "4; 15", "4,\t15", "4,\n15", "4, 15\n", "4, x", "x, 4", "4, 15\x00", "[4, 15]", "0x4", "1e3", "4.0",
		"9223372036854775808", "18446744073709551620", "-9223372036854775808",
	}
	for _, s := range others {
		checkParseNumbers(t, s, nil, false)
	}
}

func TestLongestList(t *testing.T) {
	for _, n := range []int{0, 7, 999999} {
		number := fmt.Sprint(n)
		for length := 1; length <= 60; length++ {
			list := slices.Repeat([]int{n}, length)
			text := number + strings.Repeat(", "+number, length-1)
			if length > 40 {
				checkFormatNumbers(t, list, "", false)
				checkParseNumbers(t, text, nil, false)
				continue
			}
			checkFormatNumbers(t, list, text, true)
			checkParseNumbers(t, text, list, true)
			checkParseNumbers(t, text+", ", nil, false)
		}
	}
}

func TestListsAreRecovered(t *testing.T) {
	numbers := []int{0, 1, 9, 10, 99, 100, 40, 41, 99999, 100000, 999998, 999999}
	for _, a := range numbers {
		for _, b := range numbers {
			for _, c := range numbers {
				list := []int{a, b, c}
				text := fmt.Sprintf("%d, %d, %d", a, b, c)
				checkFormatNumbers(t, list, text, true)
				checkParseNumbers(t, text, list, true)
			}
		}
	}
}

// TestOnlyTextsOfLists reads all short texts and all that differ little from the text of a list:
// what is read must be written in just this way, and the texts of short lists must be read.
func TestOnlyTextsOfLists(t *testing.T) {
	lists := map[string][]int{"none": {}}
	for a := range 100000 {
		lists[fmt.Sprint(a)] = []int{a}
		if a < 10000 {
			lists[fmt.Sprintf("%d, %d", a/100, a%100)] = []int{a / 100, a % 100}
		}
	}
	for _, s := range stringsUpTo("0, 1-n", 5) {
		list, ok := lists[s]
		checkParseNumbers(t, s, list, ok)
	}
	for _, text := range []string{"none", "0", "4, 15, 2", "999999, 0", "100, 20, 3, 100000"} {
		for _, s := range altered(text) {
			list, ok := impl.ParseNumbers(s)
			back, fine := impl.FormatNumbers(list)
			if ok && (!fine || back != s) || !ok && len(list) != 0 {
				t.Errorf("ParseNumbers(%q) = %v, %v", s, list, ok)
			}
		}
	}
}

func TestRecordLines(t *testing.T) {
	want := map[int][]string{
		2:  {"context 2 deposit", "2 above 3", "2 above 5", "3 above 2"},
		3:  {"context 3 deposit", "2 above 3", "3 above 2", "3 above 5", "3 above 13"},
		5:  {"context 5 cut", "2 above 5", "3 above 5", "5 above 21"},
		8:  {"context 8 structure", "8 above 13"},
		13: {"context 13 natural", "3 above 13", "8 above 13", "21 above 13"},
		21: {"context 21 deposit", "5 above 21", "21 above 13"},
		34: {"context 34 cut"},
	}
	for number := -1; number <= impl.MaxNumber+1; number++ {
		lines, known := want[number]
		checkLines(t, trench(), number, lines, known)
		checkLines(t, impl.Record{}, number, nil, false)
	}
	for _, number := range []int{math.MinInt, math.MaxInt} {
		checkLines(t, trench(), number, nil, false)
	}
}

// TestLinesOfTheText holds the lines of a context against those of the whole text that have its
// Number as a word.
func TestLinesOfTheText(t *testing.T) {
	for _, r := range []impl.Record{trench(), fullSite(), smallSite([3]int{4, 1, 2}, 63)} {
		for _, c := range r.Contexts {
			var want []string
			for line := range strings.Lines(textOf(r)) {
				if slices.Contains(strings.Fields(line), fmt.Sprint(c.Number)) {
					want = append(want, strings.TrimSuffix(line, "\n"))
				}
			}
			checkLines(t, r, c.Number, want, true)
		}
	}
}

func TestTextsLeaveTheirArguments(t *testing.T) {
	whole := trench()
	whole.Contexts = append(whole.Contexts, impl.Context{Number: 77, Kind: 1}, impl.Context{Number: 1, Kind: 9})
	whole.Relations = append(whole.Relations, impl.Relation{Upper: 34, Lower: 77}, impl.Relation{Upper: 2, Lower: 8})
	before := copyOf(whole)
	r := impl.Record{Contexts: whole.Contexts[:7], Relations: whole.Relations[:8]}
	if got, ok := impl.FormatRecord(r); got != trenchText || !ok {
		t.Errorf("FormatRecord = %q, %v", got, ok)
	}
	checkLines(t, r, 34, []string{"context 34 cut"}, true)
	if !sameRecord(whole, before) {
		t.Errorf("the record became %v", whole)
	}
	list := []int{4, 15, 2, -1, 8}
	checkFormatNumbers(t, list[:3], "4, 15, 2", true)
	checkFormatNumbers(t, list, "", false)
	checkFormatNumbers(t, list[:0], "none", true)
	if !slices.Equal(list, []int{4, 15, 2, -1, 8}) {
		t.Errorf("the list became %v", list)
	}
}

// TestResultsOfTextsAreNewMemory overwrites results with all their capacity and calls again.
func TestResultsOfTextsAreNewMemory(t *testing.T) {
	for range 2 {
		r, ok := impl.ParseRecord(trenchText)
		checkRecord(t, "ParseRecord", r, ok, trench(), true)
		clearRecord(r)
		for text, want := range map[string][]int{"none": {}, "4, 15, 2": {4, 15, 2}} {
			list, ok := impl.ParseNumbers(text)
			if !ok || !slices.Equal(list, want) {
				t.Errorf("ParseNumbers(%q) = %v, %v", text, list, ok)
			}
			list = list[:cap(list)]
			for i := range list {
				list[i] = -1
			}
		}
		lines, ok := impl.RecordLines(trench(), 8)
		if !ok || !slices.Equal(lines, []string{"context 8 structure", "8 above 13"}) {
			t.Errorf("RecordLines = %q, %v", lines, ok)
		}
		clear(lines[:cap(lines)])
	}
}
