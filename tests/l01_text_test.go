package tests

import (
	"encoding/hex"
	"fmt"
	"math"
	"slices"
	"strings"
	"testing"

	"loop.example/g00977/impl"
)

func TestTextLimits(t *testing.T) {
	got := []int{impl.MaxInputLen, impl.MaxUint, impl.MaxLineLen, impl.MaxFieldsPerLine}
	want := []int{20000, 1000000000, 600, 24}
	if !slices.Equal(got, want) {
		t.Errorf("limits are %v, want %v", got, want)
	}
}

func TestEncodeHexTexts(t *testing.T) {
	cases := []struct{ text, want string }{
		{"", ""},
		{"az", "617a"},
		{"\x00", "00"},
		{"\x0f\xf0", "0ff0"},
		{"\xff\x80\x7f", "ff807f"},
		{"\u00e9", "c3a9"},
	}
	for _, c := range cases {
		if got, ok := impl.EncodeHex(c.text); got != c.want || !ok {
			t.Errorf("EncodeHex(%q) = %q, %v, want %q, true", c.text, got, ok, c.want)
		}
	}
}

func TestEncodeHexLengthLimit(t *testing.T) {
	longest := strings.Repeat("k", impl.MaxInputLen)
	if got, ok := impl.EncodeHex(longest); got != strings.Repeat("6b", impl.MaxInputLen) || !ok {
		t.Errorf("EncodeHex rejects or spoils a text of MaxInputLen bytes: %d digits, %v", len(got), ok)
	}
	if got, ok := impl.EncodeHex(longest + "k"); got != "" || ok {
		t.Errorf("EncodeHex accepts a text above MaxInputLen: %d digits, %v", len(got), ok)
	}
}

func TestHexRoundTripOfEveryByte(t *testing.T) {
	for high := range 256 {
		for low := range 256 {
			text := string([]byte{byte(high), byte(low)})
			digits, ok := impl.EncodeHex(text)
			if digits != hex.EncodeToString([]byte(text)) || !ok {
				t.Fatalf("EncodeHex(%q) = %q, %v", text, digits, ok)
			}
			if back, ok := impl.DecodeHex(digits); back != text || !ok {
				t.Fatalf("DecodeHex(%q) = %q, %v, want %q, true", digits, back, ok, text)
			}
		}
	}
}

func TestDecodeHexAcceptsOnlyLowercaseDigits(t *testing.T) {
	accepted := 0
	for high := range 256 {
		for low := range 256 {
			digits := string([]byte{byte(high), byte(low)})
			text, ok := impl.DecodeHex(digits)
			if !ok {
				if text != "" {
					t.Fatalf("DecodeHex(%q) = %q with false", digits, text)
				}
				continue
			}
			accepted++
			if back, _ := impl.EncodeHex(text); back != digits {
				t.Fatalf("DecodeHex(%q) = %q, whose encoding is %q", digits, text, back)
			}
		}
	}
	if accepted != 256 {
		t.Errorf("DecodeHex accepts %d texts of two characters, want 256", accepted)
	}
}

func TestDecodeHexRejects(t *testing.T) {
	cases := []string{
		"6", "617", "617a6", // odd lengths
		"6G", "g6", "617g", "g17a", // digits outside 0-9 and a-f
		"61/a", "61:a", "61`a", "617A", "AF",
		"0x61", " 61 ", "61 7", "6\x001a", "\u00e9", "-1",
	}
	for _, digits := range cases {
		if got, ok := impl.DecodeHex(digits); got != "" || ok {
			t.Errorf("DecodeHex(%q) = %q, %v, want no text", digits, got, ok)
		}
	}
}

func TestDecodeHexLengthLimit(t *testing.T) {
	if got, ok := impl.DecodeHex(""); got != "" || !ok {
		t.Errorf("DecodeHex of the empty text = %q, %v, want an empty text", got, ok)
	}
	longest := strings.Repeat("6b", impl.MaxInputLen)
	if got, ok := impl.DecodeHex(longest); got != strings.Repeat("k", impl.MaxInputLen) || !ok {
		t.Errorf("DecodeHex rejects or spoils a result of MaxInputLen bytes: %d bytes, %v", len(got), ok)
	}
	for _, extra := range []string{"6", "6b", "6b6b"} {
		if got, ok := impl.DecodeHex(longest + extra); got != "" || ok {
			t.Errorf("DecodeHex accepts %d digits", len(longest+extra))
		}
	}
	if got, ok := impl.DecodeHex(longest[:len(longest)-1] + "g"); got != "" || ok {
		t.Errorf("DecodeHex accepts a wrong last digit at the limit: %d bytes, %v", len(got), ok)
	}
}

func TestFormatInt(t *testing.T) {
	cases := []struct {
		n    int
		want string
	}{
		{0, "0"},
		{1, "1"},
		{9, "9"},
		{10, "10"},
		{100, "100"},
		{-1, "-1"},
		{-10, "-10"},
		{-205, "-205"},
		{impl.MaxUint, "1000000000"},
		{impl.MaxUint + 1, "1000000001"},
		{math.MaxInt, "9223372036854775807"},
		{math.MinInt + 1, "-9223372036854775807"},
		{math.MinInt, "-9223372036854775808"},
	}
	for _, c := range cases {
		if got := impl.FormatInt(c.n); got != c.want {
			t.Errorf("FormatInt(%d) = %q, want %q", c.n, got, c.want)
		}
	}
	for n := -1100; n <= 1100; n++ {
		if got := impl.FormatInt(n); got != fmt.Sprint(n) {
			t.Errorf("FormatInt(%d) = %q", n, got)
		}
	}
}

func TestParseUintRoundTrip(t *testing.T) {
	numbers := []int{999999, 1000000, 123456789, 999999999, impl.MaxUint - 1, impl.MaxUint}
	for n := range 12000 {
		numbers = append(numbers, n)
	}
	for _, n := range numbers {
		if got, ok := impl.ParseUint(impl.FormatInt(n)); got != n || !ok {
			t.Errorf("ParseUint of the text of %d = %d, %v", n, got, ok)
		}
	}
	if got, ok := impl.ParseUint("1000000000"); got != 1000000000 || !ok {
		t.Errorf("ParseUint of MaxUint = %d, %v", got, ok)
	}
}

func TestParseUintRejects(t *testing.T) {
	cases := []string{
		"", "00", "01", "007", "000000000000", "01000000000", // empty, leading zeros
		"1000000001", "1000000009", "9999999999", "10000000000", // above MaxUint
		"9223372036854775807", "9223372036854775808", "18446744073709551616", // around the range of an int
		"18446744073709551617", "100000000000000000000000000000000",
		"-0", "-1", "-5", "-9223372036854775808", "+0", "+1", "+",
		"-", " 1", "1 ", "1 2", " ", "1_0", "0x1", "1e3", "1.0", "a", "1a", "a1",
		"1\n", "\x001", "1\x00", "/", ":", "1/", "1:", "\u0661", "\uff11",
	}
	for _, text := range cases {
		if got, ok := impl.ParseUint(text); got != 0 || ok {
			t.Errorf("ParseUint(%q) = %d, %v, want 0, false", text, got, ok)
		}
	}
}

// Every text of up to three characters is a number exactly if it is the text of one.
func TestParseUintOfShortTexts(t *testing.T) {
	numbers := map[string]int{}
	for n := range 1000 {
		numbers[fmt.Sprint(n)] = n
	}
	for _, text := range textsOver("0123456789+-_ .ex", 3) {
		want, isNumber := numbers[text]
		if got, ok := impl.ParseUint(text); got != want || ok != isNumber {
			t.Fatalf("ParseUint(%q) = %d, %v, want %d, %v", text, got, ok, want, isNumber)
		}
	}
}

func TestSplitFields(t *testing.T) {
	cases := []struct {
		line string
		want []string
	}{
		{"", nil},
		{" ", nil},
		{"     ", nil},
		{"step", []string{"step"}},
		{" step  1 ", []string{"step", "1"}},
		{"   a", []string{"a"}},
		{"a   ", []string{"a"}},
		{"read 2 7", []string{"read", "2", "7"}},
		{"a a  a", []string{"a", "a", "a"}},
		{"!~ ~! \"x\"", []string{"!~", "~!", "\"x\""}},
	}
	for _, c := range cases {
		if got, ok := impl.SplitFields(c.line); !slices.Equal(got, c.want) || !ok {
			t.Errorf("SplitFields(%q) = %q, %v, want %q, true", c.line, got, ok, c.want)
		}
	}
}

// The fields are what the spaces separate, without the empty texts between them.
func TestSplitFieldsOfShortLines(t *testing.T) {
	for _, line := range textsOver(" ab~", 6) {
		parts := strings.Split(line, " ")
		want := slices.DeleteFunc(parts, func(part string) bool { return part == "" })
		if got, ok := impl.SplitFields(line); !slices.Equal(got, want) || !ok {
			t.Fatalf("SplitFields(%q) = %q, %v, want %q, true", line, got, ok, want)
		}
	}
}

func TestSplitFieldsBytes(t *testing.T) {
	for b := range 256 {
		one := string([]byte{byte(b)})
		valid := 32 <= b && b <= 126
		for _, line := range []string{one, one + "a b", "a" + one + "b", "a " + one + " b", "a b" + one} {
			got, ok := impl.SplitFields(line)
			if ok != valid {
				t.Errorf("SplitFields(%q) reports %v, want %v", line, ok, valid)
			}
			if !ok && len(got) != 0 {
				t.Errorf("SplitFields(%q) = %q with false", line, got)
			}
		}
	}
	for _, line := range []string{"a\tb", "a\n", "a\r\n", "\u00e9", "a\u00a0b", "a \x7f", strings.Repeat("a ", 10) + "\x00"} {
		if got, ok := impl.SplitFields(line); len(got) != 0 || ok {
			t.Errorf("SplitFields(%q) = %q, %v, want no fields", line, got, ok)
		}
	}
}

func TestSplitFieldsLengthLimit(t *testing.T) {
	cases := []struct {
		line string
		want []string
	}{
		{strings.Repeat("a", impl.MaxLineLen), []string{strings.Repeat("a", impl.MaxLineLen)}},
		{strings.Repeat(" ", impl.MaxLineLen), nil},
		{strings.Repeat(" ", impl.MaxLineLen-1) + "a", []string{"a"}},
		{"a" + strings.Repeat(" ", impl.MaxLineLen-1), []string{"a"}},
	}
	for _, c := range cases {
		if got, ok := impl.SplitFields(c.line); !slices.Equal(got, c.want) || !ok {
			t.Errorf("SplitFields of a line of MaxLineLen bytes = %q, %v, want %q, true", got, ok, c.want)
		}
		for _, longer := range []string{c.line + " ", " " + c.line, c.line + "a"} {
			if got, ok := impl.SplitFields(longer); len(got) != 0 || ok {
				t.Errorf("SplitFields of a line above MaxLineLen = %q, %v, want no fields", got, ok)
			}
		}
	}
}

func TestSplitFieldsCountLimit(t *testing.T) {
	for n := range impl.MaxFieldsPerLine + 3 {
		want := make([]string, n)
		for i := range want {
			want[i] = fmt.Sprint("f", i)
		}
		line := strings.Join(want, " ")
		valid := n <= impl.MaxFieldsPerLine
		if !valid {
			want = nil
		}
		for _, spaced := range []string{line, "  " + line, line + "  ", strings.ReplaceAll(line, " ", "   ")} {
			if got, ok := impl.SplitFields(spaced); !slices.Equal(got, want) || ok != valid {
				t.Errorf("SplitFields(%q) = %q, %v, want %q, %v", spaced, got, ok, want, valid)
			}
		}
	}
}

func TestSplitFieldsResultIsNew(t *testing.T) {
	first, _ := impl.SplitFields("a b")
	first[0] = "changed"
	if again, ok := impl.SplitFields("a b"); !slices.Equal(again, []string{"a", "b"}) || !ok {
		t.Errorf("SplitFields after a change of its earlier result = %q, %v", again, ok)
	}
}

func TestClamp(t *testing.T) {
	cases := []struct{ n, low, high, want int }{
		{9, 1, 5, 5},
		{-9, 1, 5, 1},
		{3, 1, 5, 3},
		{1, 1, 5, 1},
		{5, 1, 5, 5},
		{0, 1, 5, 1},
		{6, 1, 5, 5},
		{7, 4, 4, 4},
		{-3, -5, -1, -3},
		{3, 5, 1, 5}, // a high end below the low end
		{9, 5, 1, 5},
		{-9, 5, 1, 5},
		{5, 5, 4, 5},
		{math.MinInt, math.MinInt, math.MaxInt, math.MinInt},
		{math.MaxInt, math.MinInt, math.MaxInt, math.MaxInt},
		{math.MaxInt, math.MinInt, 0, 0},
		{math.MinInt, 0, math.MaxInt, 0},
		{0, math.MaxInt, math.MinInt, math.MaxInt},
	}
	for _, c := range cases {
		if got := impl.Clamp(c.n, c.low, c.high); got != c.want {
			t.Errorf("Clamp(%d, %d, %d) = %d, want %d", c.n, c.low, c.high, got, c.want)
		}
	}
}

func TestClampIsInRange(t *testing.T) {
	for low := -4; low <= 4; low++ {
		for high := -4; high <= 4; high++ {
			for n := -6; n <= 6; n++ {
				got := impl.Clamp(n, low, high)
				inside := low <= n && n <= high
				switch {
				case high < low && got != low:
					t.Errorf("Clamp(%d, %d, %d) = %d, want the low end", n, low, high, got)
				case high >= low && (got < low || got > high):
					t.Errorf("Clamp(%d, %d, %d) = %d is not in the range", n, low, high, got)
				case inside && got != n, high >= low && n < low && got != low, high >= low && n > high && got != high:
					t.Errorf("Clamp(%d, %d, %d) = %d", n, low, high, got)
				}
			}
		}
	}
}

// textsOver returns all texts of at most longest characters of the alphabet, the empty one included.
func textsOver(alphabet string, longest int) []string {
	texts := []string{""}
	last := texts
	for range longest {
		var next []string
		for _, text := range last {
			for i := range len(alphabet) {
				next = append(next, text+alphabet[i:i+1])
			}
		}
		texts = append(texts, next...)
		last = next
	}
	return texts
}
