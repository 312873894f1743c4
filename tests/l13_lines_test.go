package tests

import (
	"math"
	"slices"
	"strconv"
	"strings"
	"testing"

	"loop.example/g00977/impl"
)

// namedLines are words with their symbols, codewords and texts. The check
// symbols are sums of multiples of the codewords of single symbols.
var namedLines = []struct {
	x             int
	symbols, word []int
	text          string
}{
	{0, []int{0, 0, 0, 0, 0, 0, 0, 0}, []int{0, 0, 0, 0, 0, 0, 0, 0, 0, 0, 0}, "00000000000"},
	{1, []int{1, 0, 0, 0, 0, 0, 0, 0}, []int{8, 14, 7, 1, 0, 0, 0, 0, 0, 0, 0}, "8e710000000"},
	{15, []int{15, 0, 0, 0, 0, 0, 0, 0}, []int{1, 5, 11, 15, 0, 0, 0, 0, 0, 0, 0}, "15bf0000000"},
	{16, []int{0, 1, 0, 0, 0, 0, 0, 0}, []int{13, 4, 8, 0, 1, 0, 0, 0, 0, 0, 0}, "d4801000000"},
	{18, []int{2, 1, 0, 0, 0, 0, 0, 0}, []int{14, 11, 6, 2, 1, 0, 0, 0, 0, 0, 0}, "eb621000000"},
	{0x10000000, []int{0, 0, 0, 0, 0, 0, 0, 1}, []int{1, 1, 1, 0, 0, 0, 0, 0, 0, 0, 1}, "11100000001"},
	{0x87654321, []int{1, 2, 3, 4, 5, 6, 7, 8}, []int{1, 0, 9, 1, 2, 3, 4, 5, 6, 7, 8}, "10912345678"},
	{0x12345678, []int{8, 7, 6, 5, 4, 3, 2, 1}, []int{15, 12, 11, 8, 7, 6, 5, 4, 3, 2, 1}, "fcb87654321"},
	{0xfedcba98, []int{8, 9, 10, 11, 12, 13, 14, 15}, []int{2, 1, 3, 8, 9, 10, 11, 12, 13, 14, 15}, "21389abcdef"},
	{2147483647, []int{15, 15, 15, 15, 15, 15, 15, 7}, []int{0, 1, 9, 15, 15, 15, 15, 15, 15, 15, 7}, "019fffffff7"},
	{2147483648, []int{0, 0, 0, 0, 0, 0, 0, 8}, []int{8, 8, 8, 0, 0, 0, 0, 0, 0, 0, 8}, "88800000008"},
	{4294967295, []int{15, 15, 15, 15, 15, 15, 15, 15}, []int{8, 9, 1, 15, 15, 15, 15, 15, 15, 15, 15}, "891ffffffff"},
}

func TestLines(t *testing.T) {
	for _, line := range namedLines {
		expectSymbols(t, line.x, line.symbols)
		expectLine(t, line.x, line.word)
		expectLineText(t, line.word, line.text)
	}
}

func TestLinesOfSampleWords(t *testing.T) {
	for _, x := range sampleWords() {
		symbols := digitsOf(x, 8)
		word := codewordOf(symbols)
		expectSymbols(t, x, symbols)
		expectLine(t, x, word)
		expectLineText(t, word, textOfSymbols(word))
	}
}

// Each bit of a word is in one symbol, and its place there is that of the word
// modulo 4.
func TestSymbolsOfSingleBits(t *testing.T) {
	for bit := range 32 {
		symbols := make([]int, 8)
		symbols[bit/4] = []int{1, 2, 4, 8}[bit%4]
		expectSymbols(t, 1<<bit, symbols)
		for i, symbol := range symbols {
			symbols[i] = 15 - symbol
		}
		expectSymbols(t, impl.MaxWord-1<<bit, symbols)
	}
}

// Any two symbols of a word, the other six 0.
func TestSymbolsOfEveryPair(t *testing.T) {
	for places := range placesOf(8, 2) {
		for left := range 16 {
			for right := range 16 {
				symbols := make([]int, 8)
				symbols[places[0]], symbols[places[1]] = left, right
				x := left<<(4*places[0]) + right<<(4*places[1])
				expectSymbols(t, x, symbols)
				expectLine(t, x, codewordOf(symbols))
			}
		}
	}
}

// The text of a word to the base 16 has its symbols in the opposite order.
func TestSymbolsAreTheDigitsOfTheWord(t *testing.T) {
	for _, x := range sampleWords() {
		digits := strconv.FormatUint(uint64(x), 16)
		digits = strings.Repeat("0", 8-len(digits)) + digits
		want := []byte(digits)
		slices.Reverse(want)
		if got := impl.FormatLine(impl.EncodeLine(x)); len(got) != 11 || got[3:] != string(want) {
			t.Errorf("the text of %s is %q, want three digits and %q", digits, got, want)
		}
	}
}

func TestDecodeLineOfOneWrongSymbol(t *testing.T) {
	for _, x := range someLines() {
		codeword := codewordOf(digitsOf(x, 8))
		expectLine(t, x, codeword)
		for place := range 11 {
			for difference := 1; difference < 16; difference++ {
				expectDecoded(t, changed(codeword, []int{place}, []int{difference}), x, impl.EcFixed, place)
			}
		}
	}
}

// A failed chip gives the same symbol for every line, which is wrong for most
// lines.
func TestWordsSurviveAFailedChip(t *testing.T) {
	words := someLines()
	for chip := range 11 {
		for stuck := range 16 {
			wrong := 0
			for _, x := range words {
				line := impl.EncodeLine(x)
				code, place := impl.EcClean, -1
				if line[chip] != stuck {
					code, place = impl.EcFixed, chip
					wrong++
				}
				expectDecoded(t, withSymbol(line, chip, stuck), x, code, place)
			}
			if wrong < len(words)/2 || wrong == len(words) {
				t.Errorf("of %d words, %d do not have the symbol %d in chip %d", len(words), wrong, stuck, chip)
			}
		}
	}
}

func TestDecodeLineOfTwoWrongSymbols(t *testing.T) {
	for _, line := range namedLines {
		for places := range placesOf(11, 2) {
			for left := 1; left < 16; left++ {
				for right := 1; right < 16; right++ {
					expectDecoded(t, changed(line.word, places, []int{left, right}), 0, impl.EcLost, -1)
				}
			}
		}
	}
}

// Three or more wrong symbols can give another word, as CorrectWord does.
func TestDecodeLineOfMoreWrongSymbols(t *testing.T) {
	seed := uint32(1301)
	codes := [3]int{}
	for wrong := 3; wrong <= 11; wrong++ {
		for places := range placesOf(11, wrong) {
			differences := []int{}
			for range wrong {
				differences = append(differences, 1+pick(&seed, 15))
			}
			line := namedLines[pick(&seed, len(namedLines))]
			codes[expectDecodedAsSearched(t, changed(line.word, places, differences))]++
		}
	}
	if codes[impl.EcFixed] == 0 || codes[impl.EcLost] == 0 {
		t.Errorf("the numbers of clean, fixed and lost words are %v", codes)
	}
}

func TestDecodeLineOfAnySymbols(t *testing.T) {
	seed := uint32(1302)
	for range 2000 {
		expectDecodedAsSearched(t, anySymbols(&seed, 11))
	}
	for symbol := range 16 {
		expectDecodedAsSearched(t, slices.Repeat([]int{symbol}, 11))
	}
}

// A word is lost whatever its data are, unless at most one symbol is wrong.
func TestDecodeLineOfEveryCheckSymbols(t *testing.T) {
	for _, data := range [][]int{make([]int, 8), {1, 2, 3, 4, 5, 6, 7, 8}} {
		codes := [3]int{}
		for checks := range 4096 {
			codes[expectDecodedAsSearched(t, slices.Concat(digitsOf(checks, 3), data))]++
		}
		if codes != [3]int{1, 165, 3930} {
			t.Errorf("the numbers of clean, fixed and lost words with the data %v are %v", data, codes)
		}
	}
}

func TestFormatLine(t *testing.T) {
	cases := []struct {
		word []int
		want string
	}{
		{[]int{0, 1, 2, 3, 4, 5, 6, 7, 8, 9, 10}, "0123456789a"},
		{[]int{5, 6, 7, 8, 9, 10, 11, 12, 13, 14, 15}, "56789abcdef"},
		{[]int{15, 14, 13, 12, 11, 10, 9, 8, 7, 6, 5}, "fedcba98765"},
		{[]int{15, 15, 15, 15, 15, 15, 15, 15, 15, 15, 15}, "fffffffffff"},
		{[]int{1, 0, 0, 0, 0, 0, 0, 0, 0, 0, 0}, "10000000000"},
		{[]int{0, 0, 0, 0, 0, 0, 0, 0, 0, 0, 1}, "00000000001"},
	}
	for _, c := range cases {
		expectLineText(t, c.word, c.want)
	}
}

// A text has any elements, also those of words that are not codewords.
func TestFormatLineOfSingleSymbols(t *testing.T) {
	for place := range 11 {
		for symbol, digit := range []byte("0123456789abcdef") {
			want := []byte("33333333333")
			want[place] = digit
			expectLineText(t, withSymbol(slices.Repeat([]int{3}, 11), place, symbol), string(want))
		}
	}
}

func TestFormatLineOfManyWords(t *testing.T) {
	seed := uint32(1303)
	for range 5000 {
		word := anySymbols(&seed, 11)
		expectLineText(t, word, textOfSymbols(word))
	}
}

func TestLinesOfNoWords(t *testing.T) {
	for _, x := range append(noWords(), -1, 4294967296, math.MinInt, math.MaxInt) {
		if got := impl.SymbolsOfWord(x); len(got) != 0 {
			t.Errorf("SymbolsOfWord(%d) = %v, want nil", x, got)
		}
		if got := impl.EncodeLine(x); len(got) != 0 {
			t.Errorf("EncodeLine(%d) = %v, want nil", x, got)
		}
	}
}

func TestLinesOfOtherLengths(t *testing.T) {
	expectNoSymbols(t, nil)
	expectNoLineOfSymbols(t, nil)
	for length := range 30 {
		for _, symbol := range []int{0, 1, 9, 15} {
			list := slices.Repeat([]int{symbol}, length)
			if length != 8 {
				expectNoSymbols(t, list)
			}
			if length != 11 {
				expectNoLineOfSymbols(t, list)
			}
		}
	}
	for _, line := range namedLines {
		for _, list := range [][]int{line.symbols[:0], line.symbols[:7], line.symbols[1:], append(slices.Clone(line.symbols), 0), line.word} {
			expectNoSymbols(t, list)
		}
		for _, list := range [][]int{line.word[:0], line.symbols, line.word[:8], line.word[:10], line.word[1:], append(slices.Clone(line.word), 0)} {
			expectNoLineOfSymbols(t, list)
		}
	}
}

func TestLinesOfNoElements(t *testing.T) {
	for _, line := range namedLines {
		for _, a := range noElements() {
			for place := range 8 {
				expectNoSymbols(t, withSymbol(line.symbols, place, a))
			}
			for place := range 11 {
				expectNoLineOfSymbols(t, withSymbol(line.word, place, a))
			}
		}
		expectNoSymbols(t, withSymbol(withSymbol(line.symbols, 0, -1), 7, 16))
		expectNoLineOfSymbols(t, withSymbol(withSymbol(line.word, 0, 16), 10, -1))
	}
	for _, a := range []int{-1, 16, math.MinInt, math.MaxInt} {
		expectNoSymbols(t, slices.Repeat([]int{a}, 8))
		expectNoLineOfSymbols(t, slices.Repeat([]int{a}, 11))
	}
}

// The functions change neither their argument nor the spare capacity behind it.
func TestLinesKeepTheirArguments(t *testing.T) {
	calls := []struct {
		name string
		call func([]int) []int
	}{
		{"WordOfSymbols", func(list []int) []int { impl.WordOfSymbols(list); return nil }},
		{"DecodeLine", func(list []int) []int { impl.DecodeLine(list); return nil }},
		{"FormatLine", func(list []int) []int { impl.FormatLine(list); return nil }},
	}
	for _, c := range calls {
		for _, line := range namedLines {
			expectOwnMemory(t, c.name, line.symbols, c.call)
			expectOwnMemory(t, c.name, line.word, c.call)
			expectOwnMemory(t, c.name, changed(line.word, []int{3}, []int{7}), c.call)
			expectOwnMemory(t, c.name, changed(line.word, []int{0, 10}, []int{7, 9}), c.call)
			expectOwnMemory(t, c.name, withSymbol(line.word, 5, 16), c.call)
		}
	}
}

// A result is not changed through an earlier one.
func TestLineResultsAreNew(t *testing.T) {
	for _, line := range namedLines {
		for _, list := range [][]int{impl.SymbolsOfWord(line.x), impl.EncodeLine(line.x)} {
			list = list[:cap(list)]
			for i := range list {
				list[i] = -99
			}
		}
		expectSymbols(t, line.x, line.symbols)
		expectLine(t, line.x, line.word)
	}
}

func expectSymbols(t *testing.T, x int, symbols []int) {
	t.Helper()
	if got := impl.SymbolsOfWord(x); !slices.Equal(got, symbols) {
		t.Errorf("SymbolsOfWord(%d) = %v, want %v", x, got, symbols)
	}
	if got, ok := impl.WordOfSymbols(symbols); got != x || !ok {
		t.Errorf("WordOfSymbols(%v) = %d, %v, want %d, true", symbols, got, ok, x)
	}
}

func expectLine(t *testing.T, x int, word []int) {
	t.Helper()
	if got := impl.EncodeLine(x); !slices.Equal(got, word) {
		t.Errorf("EncodeLine(%d) = %v, want %v", x, got, word)
	}
	expectDecoded(t, word, x, impl.EcClean, -1)
}

func expectDecoded(t *testing.T, word []int, x, code, place int) {
	t.Helper()
	if got, c, p := impl.DecodeLine(word); got != x || c != code || p != place {
		t.Errorf("DecodeLine(%v) = %d, %d, %d, want %d, %d, %d", word, got, c, p, x, code, place)
	}
}

// expectDecodedAsSearched compares DecodeLine with the search for a codeword,
// and returns the code.
func expectDecodedAsSearched(t *testing.T, word []int) int {
	t.Helper()
	codeword, code, place := searchCodeword(t, word)
	x := 0
	if code != impl.EcLost {
		for _, symbol := range slices.Backward(codeword[3:]) {
			x = 16*x + symbol
		}
	}
	expectDecoded(t, word, x, code, place)
	return code
}

func expectLineText(t *testing.T, word []int, want string) {
	t.Helper()
	if got := impl.FormatLine(word); got != want {
		t.Errorf("FormatLine(%v) = %q, want %q", word, got, want)
	}
}

func expectNoSymbols(t *testing.T, list []int) {
	t.Helper()
	if x, ok := impl.WordOfSymbols(list); x != 0 || ok {
		t.Errorf("WordOfSymbols(%v) = %d, %v, want 0, false", list, x, ok)
	}
}

func expectNoLineOfSymbols(t *testing.T, word []int) {
	t.Helper()
	expectDecoded(t, word, 0, impl.EcLost, -1)
	expectLineText(t, word, "")
}

func textOfSymbols(symbols []int) string {
	text := ""
	for _, symbol := range symbols {
		text += strconv.FormatInt(int64(symbol), 16)
	}
	return text
}

func someLines() []int {
	seed := uint32(1304)
	words := []int{}
	for _, line := range namedLines {
		words = append(words, line.x)
	}
	for bit := range 32 {
		words = append(words, 1<<bit, impl.MaxWord-1<<bit)
	}
	for range 100 {
		words = append(words, pick(&seed, 65536)*65536+pick(&seed, 65536))
	}
	return words
}
