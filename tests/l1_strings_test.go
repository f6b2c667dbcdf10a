package tests

import (
	"fmt"
	"math"
	"slices"
	"strings"
	"testing"

	"loop.example/g00876/impl"
)

func checkFormat(t *testing.T, n int, want string, wantOk bool) {
	t.Helper()
	if got, ok := impl.FormatInt(n); got != want || ok != wantOk {
		t.Errorf("FormatInt(%d) = %q, %v; want %q, %v", n, got, ok, want, wantOk)
	}
}

func checkSplit(t *testing.T, s, sep string, want []string, wantOk bool) {
	t.Helper()
	if got, ok := impl.SplitString(s, sep); !slices.Equal(got, want) || ok != wantOk {
		t.Errorf("SplitString(%.40q, %q) = %.80q, %v; want %.80q, %v", s, sep, got, ok, want, wantOk)
	}
}

func checkJoin(t *testing.T, parts []string, sep string, want string, wantOk bool) {
	t.Helper()
	if got, ok := impl.JoinStrings(parts, sep); got != want || ok != wantOk {
		t.Errorf("JoinStrings(%.80q, %q) = %.40q, %v; want %.40q, %v", parts, sep, got, ok, want, wantOk)
	}
}

func checkAppend(t *testing.T, s string, want string, wantOk bool) {
	t.Helper()
	if got, ok := impl.AppendChecksum(s); got != want || ok != wantOk {
		t.Errorf("AppendChecksum(%.40q) = %.40q, %v; want %.40q, %v", s, got, ok, want, wantOk)
	}
}

func checkVerify(t *testing.T, s string, want string, wantOk bool) {
	t.Helper()
	if got, ok := impl.VerifyChecksum(s); got != want || ok != wantOk {
		t.Errorf("VerifyChecksum(%.40q) = %.40q, %v; want %.40q, %v", s, got, ok, want, wantOk)
	}
}

// stringsUpTo returns all strings over the alphabet with at most length bytes.
func stringsUpTo(alphabet string, length int) []string {
	all := []string{""}
	for from := 0; length > 0; length-- {
		to := len(all)
		for _, s := range all[from:to] {
			for i := range len(alphabet) {
				all = append(all, s+alphabet[i:i+1])
			}
		}
		from = to
	}
	return all
}

func TestFormatInt(t *testing.T) {
	checkFormat(t, -12, "-12", true)
	checkFormat(t, 0, "0", true)
	checkFormat(t, 100, "100", true)
	checkFormat(t, impl.MaxDecimal, "999999", true)
	checkFormat(t, -impl.MaxDecimal, "-999999", true)
	for _, n := range []int{impl.MaxDecimal + 1, -impl.MaxDecimal - 1, math.MaxInt, math.MinInt} {
		checkFormat(t, n, "", false)
	}
}

func TestDecimalRoundTrip(t *testing.T) {
	for n := -impl.MaxDecimal; n <= impl.MaxDecimal; n++ {
		s, ok := impl.FormatInt(n)
		m, fine := impl.ParseInt(s)
		if !ok || !fine || m != n {
			t.Fatalf("%d is written %q, %v and read %d, %v", n, s, ok, m, fine)
		}
	}
}

func TestParseIntRefusesOtherSpellings(t *testing.T) {
	others := []string{
		"", "-", "+", "01", "00", "000000", "-01", "+1", "+0", "-0", "--1", "-+1", "1-",
		"1000000", "-1000000", "0999999", "-0999999", "+999999", " 1", "1 ", "1\n", "\x001", "1\x00",
		"1_0", "0x1", "1e3", "1.0", "a", "\u0661", "\u22121", "9223372036854775807",
		"-9223372036854775808", "9223372036854775808", "18446744073709551617",
		strings.Repeat("0", impl.MaxString) + "1", strings.Repeat("9", 100000),
	}
	for _, s := range others {
		if n, ok := impl.ParseInt(s); n != 0 || ok {
			t.Errorf("ParseInt(%.40q) = %d, %v", s, n, ok)
		}
	}
}

func TestParseIntOfAllShortStrings(t *testing.T) {
	numbers := map[string]int{}
	for n := -999; n <= 9999; n++ {
		numbers[fmt.Sprint(n)] = n
	}
	for _, s := range stringsUpTo("-+0129 _x", 4) {
		want, wantOk := numbers[s]
		if n, ok := impl.ParseInt(s); n != want || ok != wantOk {
			t.Errorf("ParseInt(%q) = %d, %v", s, n, ok)
		}
	}
}

func TestSplitString(t *testing.T) {
	checkSplit(t, "a,,b", ",", []string{"a", "", "b"}, true)
	checkSplit(t, "", ",", []string{""}, true)
	checkSplit(t, "abc", ",", []string{"abc"}, true)
	checkSplit(t, ",", ",", []string{"", ""}, true)
	checkSplit(t, ",a,", ",", []string{"", "a", ""}, true)
	checkSplit(t, "a\nb\n", "\n", []string{"a", "b", ""}, true)
	checkSplit(t, "a\x00b", "\x00", []string{"a", "b"}, true)
	checkSplit(t, "\u00e9\xff", "\xa9", []string{"\xc3", "\xff"}, true)
	checkSplit(t, "\xff\xfe", "\xff", []string{"", "\xfe"}, true)
}

func TestSplitStringRefuses(t *testing.T) {
	for _, sep := range []string{"", ",,", ", ", "\u00e9", strings.Repeat(",", impl.MaxString)} {
		checkSplit(t, "a,b", sep, nil, false)
		checkSplit(t, "", sep, nil, false)
	}
	full := strings.Repeat("x", impl.MaxString)
	checkSplit(t, full, ",", []string{full}, true)
	checkSplit(t, full+"x", ",", nil, false)
	commas := strings.Repeat(",", impl.MaxString)
	checkSplit(t, commas, ",", make([]string, impl.MaxString+1), true)
	checkSplit(t, commas+",", ",", nil, false)
}

func TestJoinStrings(t *testing.T) {
	checkJoin(t, []string{"a", "", "b"}, ";", "a;;b", true)
	checkJoin(t, []string{""}, ";", "", true)
	checkJoin(t, []string{"a"}, ";", "a", true)
	checkJoin(t, []string{"", ""}, ";", ";", true)
	checkJoin(t, []string{"a,b", "c"}, ";", "a,b;c", true)
	checkJoin(t, []string{"\xc3", "\xff"}, "\xa9", "\u00e9\xff", true)
}

func TestJoinStringsRefuses(t *testing.T) {
	checkJoin(t, nil, ";", "", false)
	checkJoin(t, []string{}, ";", "", false)
	for _, sep := range []string{"", ";;", "; ", "\u00e9"} {
		checkJoin(t, []string{"a", "b"}, sep, "", false)
		checkJoin(t, []string{"a"}, sep, "", false)
		checkJoin(t, nil, sep, "", false)
	}
	withSeparator := [][]string{
		{";"}, {"a;b"}, {";a"}, {"a;"}, {"a;b", "c"}, {"a", "b;c"}, {"a", ";", "c"}, {"", "", ";"}, {"a", "b", "c;"},
	}
	for _, parts := range withSeparator {
		checkJoin(t, parts, ";", "", false)
	}
	checkJoin(t, []string{"a", "\u00e9"}, "\xa9", "", false)
}

func TestJoinStringsLength(t *testing.T) {
	full := strings.Repeat("x", impl.MaxString)
	checkJoin(t, []string{full}, ";", full, true)
	checkJoin(t, []string{full + "x"}, ";", "", false)
	checkJoin(t, []string{full[1:], ""}, ";", full[1:]+";", true)
	checkJoin(t, []string{full, ""}, ";", "", false)
	checkJoin(t, []string{"", full}, ";", "", false)
	checkJoin(t, []string{full[:1999], full[:2000]}, ";", full[:1999]+";"+full[:2000], true)
	checkJoin(t, []string{full[:2000], full[:2000]}, ";", "", false)
	checkJoin(t, make([]string, impl.MaxString+1), ";", strings.Repeat(";", impl.MaxString), true)
	checkJoin(t, make([]string, impl.MaxString+2), ";", "", false)
}

func TestSplitAndJoinRoundTrip(t *testing.T) {
	for _, s := range stringsUpTo("a,;", 6) {
		parts, ok := impl.SplitString(s, ",")
		if !ok || len(parts) != strings.Count(s, ",")+1 {
			t.Errorf("SplitString(%q) = %q, %v", s, parts, ok)
		}
		checkJoin(t, parts, ",", s, true)
	}
	elements := stringsUpTo("a;", 2)
	for _, a := range elements {
		checkSplit(t, a, ",", []string{a}, true)
		for _, b := range elements {
			for _, c := range elements {
				parts := []string{a, b, c}
				s, ok := impl.JoinStrings(parts, ",")
				if !ok {
					t.Errorf("JoinStrings(%q) fails", parts)
				}
				checkSplit(t, s, ",", parts, true)
			}
		}
	}
}

func TestRoundTripWithEverySeparator(t *testing.T) {
	for sep := range 256 {
		separator := string([]byte{byte(sep)})
		var parts []string
		for c := range 256 {
			if c != sep {
				parts = append(parts, string([]byte{byte(c), byte(c)}), "")
			}
		}
		s, ok := impl.JoinStrings(parts, separator)
		if !ok {
			t.Errorf("JoinStrings fails with the separator %q", separator)
		}
		checkSplit(t, s, separator, parts, true)
	}
}

func TestJoinStringsLeavesItsArgument(t *testing.T) {
	whole := []string{"a", "b", "c;"}
	checkJoin(t, whole[:2], ";", "a;b", true)
	checkJoin(t, whole, ";", "", false)
	if !slices.Equal(whole, []string{"a", "b", "c;"}) {
		t.Errorf("the argument became %q", whole)
	}
}

func TestLessString(t *testing.T) {
	ascending := []string{"", "\x00", "\x00\x00", "A", "a", "a\x00", "aa", "ab", "b", "\x7f", "\x80", "\u00e9", "\xff", "\xff\xff"}
	for i, a := range ascending {
		for j, b := range ascending {
			if got := impl.LessString(a, b); got != (i < j) {
				t.Errorf("LessString(%q, %q) = %v", a, b, got)
			}
		}
	}
	long := strings.Repeat("x", impl.MaxString+1)
	if !impl.LessString(long, long+"x") || impl.LessString(long+"x", long) || impl.LessString(long, long) {
		t.Error("long strings are not compared")
	}
}

func TestChecksum(t *testing.T) {
	for s, want := range map[string]int{"": 7, "a": 385, "\x00": 288, "\xff": 543, "ab": 15884, "ba": 15924, "abc": 651344} {
		if got, ok := impl.Checksum(s); got != want || !ok {
			t.Errorf("Checksum(%q) = %d, %v; want %d", s, got, ok, want)
		}
	}
	for _, c := range []byte{0, '#', 'x', 255} {
		want := 7
		for range impl.MaxString {
			want = (41*want + int(c) + 1) % 999979
		}
		full := strings.Repeat(string([]byte{c}), impl.MaxString)
		if got, ok := impl.Checksum(full); got != want || !ok {
			t.Errorf("Checksum of %d bytes %d = %d, %v; want %d", impl.MaxString, c, got, ok, want)
		}
		if got, ok := impl.Checksum(full + "x"); got != 0 || ok {
			t.Errorf("Checksum of a string that is too long = %d, %v", got, ok)
		}
	}
}

func TestAppendChecksum(t *testing.T) {
	checkAppend(t, "a", "a#385", true)
	checkAppend(t, "", "#7", true)
	checkAppend(t, "\x00\xff\n", "\x00\xff\n#"+fmt.Sprint((41*(41*288+256)+11)%999979), true)
	for _, s := range []string{"#", "a#", "#a", "a#b", "a#385", strings.Repeat("x", 3000) + "#"} {
		checkAppend(t, s, "", false)
	}
}

func TestAppendChecksumLength(t *testing.T) {
	full := strings.Repeat("x", impl.MaxString)
	met := map[int]bool{}
	for length := impl.MaxString - 10; length <= impl.MaxString; length++ {
		s := full[:length]
		sum, _ := impl.Checksum(s)
		sealed := s + "#" + fmt.Sprint(sum)
		met[len(sealed)] = true
		if len(sealed) > impl.MaxString {
			checkAppend(t, s, "", false)
			checkVerify(t, sealed, "", false)
			continue
		}
		checkAppend(t, s, sealed, true)
		checkVerify(t, sealed, s, true)
	}
	if !met[impl.MaxString] || !met[impl.MaxString+1] {
		t.Error("the lengths do not meet the limit and pass it by one")
	}
	checkAppend(t, full+"x", "", false)
	checkVerify(t, full+"x#7", "", false)
}

func TestVerifyChecksum(t *testing.T) {
	checkVerify(t, "a#385", "a", true)
	checkVerify(t, "#7", "", true)
	others := []string{
		"", "#", "a", "a#", "#385", "a#384", "a#0385", "a#+385", "a#-385", "a#385 ", "a# 385", "a#385\n",
		"b#385", "a##385", "#a#385", "a#385#", "a#385#1", "a#385#385", "a#1000364", "#07", "7",
	}
	for _, s := range others {
		checkVerify(t, s, "", false)
	}
	again, _ := impl.Checksum("a#385")
	checkVerify(t, "a#385#"+fmt.Sprint(again), "", false)
}

func TestVerifyChecksumOfAllShortStrings(t *testing.T) {
	texts := map[string]string{}
	for _, text := range stringsUpTo("a7385", 4) {
		sealed, ok := impl.AppendChecksum(text)
		if !ok {
			t.Errorf("AppendChecksum(%q) fails", text)
		}
		texts[sealed] = text
		checkVerify(t, sealed, text, true)
	}
	for _, s := range stringsUpTo("a#7385", 6) {
		text, ok := texts[s]
		checkVerify(t, s, text, ok)
	}
}

// checkChangedByte puts every other byte at one position of a sealed string.
func checkChangedByte(t *testing.T, sealed string, position int) {
	t.Helper()
	changed := []byte(sealed)
	for c := range 256 {
		if byte(c) == sealed[position] {
			continue
		}
		changed[position] = byte(c)
		if text, ok := impl.VerifyChecksum(string(changed)); ok || text != "" {
			t.Errorf("byte %d of %.40q changed to %d is not detected: %.40q, %v", position, sealed, c, text, ok)
		}
	}
}

func TestEveryChangedByteIsDetected(t *testing.T) {
	texts := []string{"", "a", "0", "7", "385", "context 1 deposit\n2 above 1\n", "\x00\x00\x00", "\xff\xfe\xfd", strings.Repeat("9", 300)}
	for _, text := range texts {
		sealed, ok := impl.AppendChecksum(text)
		if !ok {
			t.Fatalf("AppendChecksum(%q) fails", text)
		}
		for position := range len(sealed) {
			checkChangedByte(t, sealed, position)
		}
	}
	sealed, ok := impl.AppendChecksum(strings.Repeat("long", 998))
	if !ok {
		t.Fatal("AppendChecksum fails for a long string")
	}
	for position := 0; position < len(sealed); position += 97 {
		checkChangedByte(t, sealed, position)
	}
	for position := len(sealed) - 8; position < len(sealed); position++ {
		checkChangedByte(t, sealed, position)
	}
}
