package tests

import (
	"strings"
	"testing"

	"loop.example/g00876/impl"
)

const trenchText = `context 2 deposit
context 3 deposit
context 5 cut
context 8 structure
context 13 natural
context 21 deposit
context 34 cut
2 above 3
2 above 5
3 above 2
3 above 5
3 above 13
5 above 21
8 above 13
21 above 13
`

func TestParseRecord(t *testing.T) {
	got, ok := impl.ParseRecord(trenchText)
	checkRecord(t, "trench", got, ok, trench(), true)
	got, ok = impl.ParseRecord("")
	checkRecord(t, "the empty record", got, ok, impl.Record{}, true)
	got, ok = impl.ParseRecord("context 3 deposit\ncontext 7 cut\n3 above 7\n")
	checkRecord(t, "example", got, ok, site([][2]int{{3, impl.KindDeposit}, {7, impl.KindCut}}, [2]int{3, 7}), true)
	got, ok = impl.ParseRecord("context 1 natural\ncontext 999 structure\n999 above 1\n")
	checkRecord(t, "limits", got, ok, site([][2]int{{1, impl.KindNatural}, {impl.MaxNumber, impl.KindStructure}}, [2]int{999, 1}), true)
}

func TestParseRecordRefuses(t *testing.T) {
	const two = "context 1 cut\ncontext 2 cut\n"
	texts := []string{
		"\n", " ", "x", "context", "context \n", "context 1\n", "context 1 \n", "context 1 cut", "context 1 cut\r\n", "context 1 cut \n",
		" context 1 cut\n", "context  1 cut\n", "context 1  cut\n", "context 01 cut\n", "context +1 cut\n", "context 0 cut\n", "context -1 cut\n",
		"context 1000 cut\n", "context 1 Cut\n", "context 1 cuts\n", "context 1 2\n", "Context 1 cut\n", "context 1 cut\n\n", "\ncontext 1 cut\n",
		"context 1 cut deposit\n", "context x cut\n", "context 2 cut\ncontext 1 cut\n", "context 1 cut\ncontext 1 cut\n",
		two + "1 above 2", two + "1 above 1\n", two + "1 above 3\n", two + "3 above 1\n", two + "1 below 2\n", two + "1  above 2\n",
		two + "1 above  2\n", two + "1 above 02\n", two + "01 above 2\n", two + "1 above\n", two + " above \n", two + "above\n", two + "1 above 2 \n",
		two + "1 above 2\n1 above 2\n", two + "2 above 1\n1 above 2\n", two + "1 above 2 above 1\n", two + "1 above 2\r\n", two + "1 above 2\n\n",
		"1 above 2\n", "1 above 2\n" + two, "context 1 cut\ncontext 2 cut\n1 above 2\ncontext 3 cut\n",
		strings.Repeat("context 1 cut\n", 300), trenchText + "x", trenchText[:len(trenchText)-1], strings.Repeat("\n", impl.MaxString+1),
	}
	for _, s := range texts {
		got, ok := impl.ParseRecord(s)
		checkNoRecord(t, s, got, ok)
	}
}

func TestParseRecordLimits(t *testing.T) {
	contexts, relations := "", ""
	for _, c := range fullSite().Contexts {
		number, _ := impl.FormatInt(c.Number)
		contexts += "context " + number + " deposit\n"
	}
	for _, x := range fullSite().Relations {
		upper, _ := impl.FormatInt(x.Upper)
		lower, _ := impl.FormatInt(x.Lower)
		relations += upper + " above " + lower + "\n"
	}
	got, ok := impl.ParseRecord(contexts + relations)
	checkRecord(t, "limits met exactly", got, ok, fullSite(), true)
	got, ok = impl.ParseRecord("context 1 deposit\n" + contexts + relations)
	checkNoRecord(t, "one more than MaxContexts", got, ok)
	got, ok = impl.ParseRecord(contexts + relations + "991 above 100\n")
	checkNoRecord(t, "one more than MaxRelations", got, ok)
}
