package tests

import (
	"math"
	"slices"
	"testing"

	"loop.example/g00977/impl"
)

// codewords holds words whose syndromes are 0. The first are the codewords of
// the data with a single symbol 1.
var codewords = [][]int{
	{8, 14, 7, 1, 0, 0, 0, 0, 0, 0, 0},
	{13, 4, 8, 0, 1, 0, 0, 0, 0, 0, 0},
	{12, 4, 9, 0, 0, 1, 0, 0, 0, 0, 0},
	{4, 11, 14, 0, 0, 0, 1, 0, 0, 0, 0},
	{9, 15, 7, 0, 0, 0, 0, 1, 0, 0, 0},
	{13, 5, 9, 0, 0, 0, 0, 0, 1, 0, 0},
	{4, 10, 15, 0, 0, 0, 0, 0, 0, 1, 0},
	{1, 1, 1, 0, 0, 0, 0, 0, 0, 0, 1},
	{0, 0, 0, 0, 0, 0, 0, 0, 0, 0, 0},
	{12, 4, 8, 1, 1, 1, 1, 1, 1, 1, 1},
	{8, 9, 1, 15, 15, 15, 15, 15, 15, 15, 15},
	{14, 11, 6, 2, 1, 0, 0, 0, 0, 0, 0},
	{1, 0, 9, 1, 2, 3, 4, 5, 6, 7, 8},
	{15, 12, 11, 8, 7, 6, 5, 4, 3, 2, 1},
	{2, 1, 3, 8, 9, 10, 11, 12, 13, 14, 15},
}

var symbolProducts = func() (products [16][16]int) {
	for a := range 16 {
		for b := range 16 {
			products[a][b] = polynomialProduct(a, b)
		}
	}
	return products
}()

func TestCodeConstants(t *testing.T) {
	got := []int{impl.DataSymbols, impl.CheckSymbols, impl.AllSymbols, impl.EcClean, impl.EcFixed, impl.EcLost}
	if want := []int{8, 3, 11, 0, 1, 2}; !slices.Equal(got, want) {
		t.Errorf("the constants are %v, want %v", got, want)
	}
}

func TestSymbolsOk(t *testing.T) {
	cases := []struct {
		list []int
		n    int
		want bool
	}{
		{nil, 0, true}, {nil, 1, false}, {nil, -1, false}, {[]int{}, 0, true}, {[]int{}, 1, false},
		{[]int{0}, 1, true}, {[]int{15}, 1, true}, {[]int{16}, 1, false}, {[]int{-1}, 1, false}, {[]int{0}, 0, false},
		{[]int{7, 0, 15}, 3, true}, {[]int{7, 0, 15}, 2, false}, {[]int{7, 0, 15}, 4, false}, {[]int{7, 0, 15}, 0, false},
		{[]int{7, 0, 15}, -1, false}, {[]int{7, 0, 15}, -3, false}, {[]int{7, 16, 15}, 3, false}, {[]int{7, 0, 16}, 2, false},
	}
	for _, c := range cases {
		expectSymbolsOk(t, c.list, c.n, c.want)
	}
}

func TestSymbolsOkOfEveryCount(t *testing.T) {
	counts := append([]int{-12, -11, -8, -3, -2, -1, 16, 100}, farNumbers...)
	for n := range 14 {
		counts = append(counts, n)
	}
	for length := range 14 {
		for symbol := range 16 {
			list := slices.Repeat([]int{symbol}, length)
			for _, n := range counts {
				expectSymbolsOk(t, list, n, n == length)
			}
			expectSymbolsOk(t, list, length-1, false)
			expectSymbolsOk(t, list, length+1, false)
		}
	}
	expectSymbolsOk(t, slices.Repeat([]int{9}, 5000), 5000, true)
	expectSymbolsOk(t, append(slices.Repeat([]int{9}, 5000), 16), 5001, false)
}

func TestSymbolsOkOfNoElements(t *testing.T) {
	for length := 1; length < 14; length++ {
		for place := range length {
			for _, a := range noElements() {
				list := slices.Repeat([]int{3}, length)
				list[place] = a
				for n := -1; n < 15; n++ {
					expectSymbolsOk(t, list, n, false)
				}
			}
		}
	}
}

func TestSyndromes(t *testing.T) {
	cases := []struct{ word, want []int }{
		{[]int{0, 0, 0, 0, 0, 0, 0, 0, 0, 0, 0}, []int{0, 0, 0}},
		{[]int{1, 0, 0, 0, 0, 0, 0, 0, 0, 0, 0}, []int{1, 1, 1}},
		{[]int{0, 1, 0, 0, 0, 0, 0, 0, 0, 0, 0}, []int{1, 2, 4}},
		{[]int{0, 0, 1, 0, 0, 0, 0, 0, 0, 0, 0}, []int{1, 4, 3}},
		{[]int{0, 0, 0, 1, 0, 0, 0, 0, 0, 0, 0}, []int{1, 8, 12}},
		{[]int{0, 0, 0, 0, 1, 0, 0, 0, 0, 0, 0}, []int{1, 3, 5}},
		{[]int{0, 0, 0, 0, 0, 1, 0, 0, 0, 0, 0}, []int{1, 6, 7}},
		{[]int{0, 0, 0, 0, 0, 0, 1, 0, 0, 0, 0}, []int{1, 12, 15}},
		{[]int{0, 0, 0, 0, 0, 0, 0, 1, 0, 0, 0}, []int{1, 11, 9}},
		{[]int{0, 0, 0, 0, 0, 0, 0, 0, 1, 0, 0}, []int{1, 5, 2}},
		{[]int{0, 0, 0, 0, 0, 0, 0, 0, 0, 1, 0}, []int{1, 10, 8}},
		{[]int{0, 0, 0, 0, 0, 0, 0, 0, 0, 0, 1}, []int{1, 7, 6}},
		{[]int{1, 1, 1, 1, 1, 1, 1, 1, 1, 1, 1}, []int{1, 5, 2}},
		{[]int{0, 1, 2, 3, 4, 5, 6, 7, 8, 9, 10}, []int{11, 2, 10}},
		{[]int{1, 2, 3, 4, 5, 6, 7, 8, 9, 10, 11}, []int{0, 5, 4}},
		{[]int{15, 15, 15, 15, 15, 15, 15, 15, 15, 15, 15}, []int{15, 6, 13}},
		{[]int{5, 0, 0, 0, 0, 0, 0, 0, 0, 0, 9}, []int{12, 15, 6}},
	}
	for _, c := range cases {
		if got := impl.Syndromes(c.word); !slices.Equal(got, c.want) {
			t.Errorf("Syndromes(%v) = %v, want %v", c.word, got, c.want)
		}
	}
}

// The factor of symbol i is the power i*j of 2 in syndrome j.
func TestSyndromesOfSingleSymbols(t *testing.T) {
	for place := range 11 {
		for symbol := range 16 {
			word := make([]int, 11)
			word[place] = symbol
			want := []int{0, 0, 0}
			for j := range want {
				want[j] = impl.GfMul(symbol, impl.GfPow(2, place*j))
			}
			if got := impl.Syndromes(word); !slices.Equal(got, want) {
				t.Errorf("Syndromes(%v) = %v, want %v", word, got, want)
			}
		}
	}
}

func TestSyndromesOfManyWords(t *testing.T) {
	seed := uint32(1201)
	for range 20000 {
		word := anySymbols(&seed, 11)
		want := wordSyndromes(word)
		if got := impl.Syndromes(word); !slices.Equal(got, want) {
			t.Errorf("Syndromes(%v) = %v, want %v", word, got, want)
		}
		expectWordOk(t, word, isCodeword(word))
	}
}

func TestWordOk(t *testing.T) {
	for _, word := range codewords {
		expectWordOk(t, word, true)
		if got := impl.Syndromes(word); !slices.Equal(got, []int{0, 0, 0}) {
			t.Errorf("Syndromes(%v) = %v, want 0, 0, 0", word, got)
		}
	}
}

// The check symbols give every combination of syndromes once, and only three
// zeros make a codeword.
func TestWordOkOfEverySyndrome(t *testing.T) {
	seen := map[[3]int]bool{}
	for checks := range 4096 {
		word := slices.Concat(digitsOf(checks, 3), make([]int, 8))
		syndromes := impl.Syndromes(word)
		if len(syndromes) != 3 {
			t.Fatalf("Syndromes(%v) = %v", word, syndromes)
		}
		expectWordOk(t, word, slices.Equal(syndromes, []int{0, 0, 0}))
		seen[[3]int(syndromes)] = true
	}
	if len(seen) != 4096 {
		t.Errorf("the syndromes have %d values, want 4096", len(seen))
	}
}

func TestEncodeSymbols(t *testing.T) {
	for _, word := range codewords {
		expectEncoded(t, word[3:], word)
	}
}

func TestEncodeSymbolsOfZeros(t *testing.T) {
	expectEncoded(t, make([]int, 8), make([]int, 11))
}

func TestEncodeSymbolsOfSingleSymbols(t *testing.T) {
	for place := range 8 {
		for symbol := range 16 {
			data, want := make([]int, 8), make([]int, 11)
			data[place] = symbol
			for i, term := range codewords[place] {
				want[i] = symbolProducts[symbol][term]
			}
			expectEncoded(t, data, want)
		}
	}
}

func TestEncodeSymbolsOfManyData(t *testing.T) {
	seed := uint32(1202)
	for range 20000 {
		data := anySymbols(&seed, 8)
		expectEncoded(t, data, codewordOf(data))
	}
}

// Of all words with the same data symbols, only the result of EncodeSymbols is
// a codeword.
func TestEncodeSymbolsIsUnique(t *testing.T) {
	for _, codeword := range codewords {
		for checks := range 4096 {
			word := slices.Concat([]int{checks % 16, checks / 16 % 16, checks / 256}, codeword[3:])
			expectWordOk(t, word, slices.Equal(word, codeword))
		}
	}
}

func TestSumsOfCodewords(t *testing.T) {
	seed := uint32(1203)
	for range 5000 {
		a, b := anySymbols(&seed, 8), anySymbols(&seed, 8)
		want := symbolSums(impl.EncodeSymbols(a), impl.EncodeSymbols(b))
		expectEncoded(t, symbolSums(a, b), want)
	}
}

func TestDataOf(t *testing.T) {
	expectDataOf(t, []int{1, 2, 3, 4, 5, 6, 7, 8, 9, 10, 11}, []int{4, 5, 6, 7, 8, 9, 10, 11})
	expectDataOf(t, []int{15, 15, 15, 0, 0, 0, 0, 0, 0, 0, 0}, []int{0, 0, 0, 0, 0, 0, 0, 0})
	for place := range 11 {
		word, want := make([]int, 11), make([]int, 11)
		word[place], want[place] = 13, 13
		expectDataOf(t, word, want[3:])
	}
	for _, word := range codewords {
		expectDataOf(t, word, word[3:])
	}
}

// The data of a word that is not a codeword are not corrected.
func TestDataOfWrongWords(t *testing.T) {
	seed := uint32(1204)
	for range 5000 {
		word := anySymbols(&seed, 11)
		expectDataOf(t, word, word[3:])
	}
}

// Data that differ in four or more symbols have codewords that do so, too. This
// test changes one, two and three data symbols in every possible way.
func TestCodewordsDifferInFourSymbols(t *testing.T) {
	for _, data := range [][]int{make([]int, 8), {1, 2, 3, 4, 5, 6, 7, 8}} {
		codeword := impl.EncodeSymbols(data)
		for places := range placesOf(8, 3) {
			for differences := range 4096 {
				if differences == 0 {
					continue
				}
				other := changed(data, places, digitsOf(differences, 3))
				if n := distance(codeword, impl.EncodeSymbols(other)); n < 4 {
					t.Errorf("the codewords of %v and %v differ in %d symbols", data, other, n)
				}
			}
		}
	}
}

func TestCorrectWordOfCodewords(t *testing.T) {
	for _, word := range someCodewords() {
		expectCorrected(t, word, word, impl.EcClean, -1)
	}
}

func TestCorrectWord(t *testing.T) {
	cases := []struct {
		word, want  []int
		code, place int
	}{
		{[]int{1, 0, 9, 1, 2, 3, 4, 5, 6, 7, 8}, []int{1, 0, 9, 1, 2, 3, 4, 5, 6, 7, 8}, impl.EcClean, -1},
		{[]int{1, 0, 9, 1, 5, 3, 4, 5, 6, 7, 8}, []int{1, 0, 9, 1, 2, 3, 4, 5, 6, 7, 8}, impl.EcFixed, 4},
		{[]int{0, 0, 9, 1, 2, 3, 4, 5, 6, 7, 8}, []int{1, 0, 9, 1, 2, 3, 4, 5, 6, 7, 8}, impl.EcFixed, 0},
		{[]int{1, 15, 9, 1, 2, 3, 4, 5, 6, 7, 8}, []int{1, 0, 9, 1, 2, 3, 4, 5, 6, 7, 8}, impl.EcFixed, 1},
		{[]int{1, 0, 8, 1, 2, 3, 4, 5, 6, 7, 8}, []int{1, 0, 9, 1, 2, 3, 4, 5, 6, 7, 8}, impl.EcFixed, 2},
		{[]int{1, 0, 9, 1, 2, 3, 4, 5, 6, 7, 0}, []int{1, 0, 9, 1, 2, 3, 4, 5, 6, 7, 8}, impl.EcFixed, 10},
		{[]int{0, 0, 0, 0, 0, 0, 0, 1, 0, 0, 0}, []int{0, 0, 0, 0, 0, 0, 0, 0, 0, 0, 0}, impl.EcFixed, 7},
		{[]int{1, 1, 1, 0, 0, 0, 0, 0, 0, 0, 0}, []int{1, 1, 1, 0, 0, 0, 0, 0, 0, 0, 1}, impl.EcFixed, 10},
		{[]int{1, 0, 0, 0, 0, 0, 0, 0, 0, 0, 1}, []int{1, 0, 0, 0, 0, 0, 0, 0, 0, 0, 1}, impl.EcLost, -1},
		{[]int{1, 1, 0, 0, 0, 0, 0, 0, 0, 0, 0}, []int{1, 1, 0, 0, 0, 0, 0, 0, 0, 0, 0}, impl.EcLost, -1},
		{[]int{1, 0, 9, 2, 1, 3, 4, 5, 6, 7, 8}, []int{1, 0, 9, 2, 1, 3, 4, 5, 6, 7, 8}, impl.EcLost, -1},
		{[]int{0, 0, 9, 0, 2, 3, 4, 5, 6, 7, 8}, []int{0, 0, 9, 0, 2, 3, 4, 5, 6, 7, 8}, impl.EcLost, -1},
	}
	for _, c := range cases {
		expectCorrected(t, c.word, c.want, c.code, c.place)
	}
}

func TestCorrectWordOfOneWrongSymbol(t *testing.T) {
	for _, codeword := range someCodewords() {
		for place := range 11 {
			for difference := 1; difference < 16; difference++ {
				word := changed(codeword, []int{place}, []int{difference})
				expectCorrected(t, word, codeword, impl.EcFixed, place)
				if impl.WordOk(word) {
					t.Errorf("WordOk(%v) is true, but symbol %d is wrong", word, place)
				}
			}
		}
	}
}

// All pairs of places: 28 of the data, 3 of the check symbols, and 24 with one
// of each.
func TestCorrectWordOfTwoWrongSymbols(t *testing.T) {
	for _, codeword := range codewords {
		pairs := [3]int{}
		for places := range placesOf(11, 2) {
			for left := 1; left < 16; left++ {
				for right := 1; right < 16; right++ {
					word := changed(codeword, places, []int{left, right})
					expectCorrected(t, word, word, impl.EcLost, -1)
				}
			}
			pairs[checkPlaces(places)]++
		}
		if pairs != [3]int{28, 24, 3} {
			t.Errorf("the numbers of pairs are %v", pairs)
		}
	}
}

// A third wrong symbol can make the word look like another codeword with one
// wrong symbol.
func TestCorrectWordOfThreeWrongSymbols(t *testing.T) {
	seed := uint32(1205)
	codes := [3]int{}
	for _, codeword := range codewords {
		for places := range placesOf(11, 3) {
			for range 3 {
				differences := []int{1 + pick(&seed, 15), 1 + pick(&seed, 15), 1 + pick(&seed, 15)}
				codes[expectSearched(t, changed(codeword, places, differences))]++
			}
		}
	}
	if codes[impl.EcClean] != 0 || codes[impl.EcFixed] == 0 || codes[impl.EcLost] == 0 {
		t.Errorf("the numbers of clean, fixed and lost words are %v", codes)
	}
}

func TestCorrectWordOfMoreWrongSymbols(t *testing.T) {
	seed := uint32(1206)
	for wrong := 4; wrong <= 11; wrong++ {
		for places := range placesOf(11, wrong) {
			differences := anySymbols(&seed, wrong)
			for i := range differences {
				differences[i] = max(differences[i], 1)
			}
			expectSearched(t, changed(codewords[pick(&seed, len(codewords))], places, differences))
		}
	}
}

func TestCorrectWordOfManyWords(t *testing.T) {
	seed := uint32(1207)
	for range 2000 {
		expectSearched(t, anySymbols(&seed, 11))
	}
	for symbol := range 16 {
		expectSearched(t, slices.Repeat([]int{symbol}, 11))
	}
}

// The words whose data are the same have all possible syndromes, each once.
func TestCorrectWordOfEverySyndrome(t *testing.T) {
	for _, data := range [][]int{make([]int, 8), {1, 2, 3, 4, 5, 6, 7, 8}} {
		codes := [3]int{}
		for checks := range 4096 {
			codes[expectSearched(t, slices.Concat(digitsOf(checks, 3), data))]++
		}
		if codes != [3]int{1, 165, 3930} {
			t.Errorf("the numbers of clean, fixed and lost words with the data %v are %v", data, codes)
		}
	}
}

func TestCorrectWordTwice(t *testing.T) {
	seed := uint32(1208)
	for range 2000 {
		codeword := impl.EncodeSymbols(anySymbols(&seed, 8))
		word := changed(codeword, []int{pick(&seed, 11)}, []int{1 + pick(&seed, 15)})
		corrected, _, _ := impl.CorrectWord(word)
		expectCorrected(t, corrected, codeword, impl.EcClean, -1)
		expectDataOf(t, corrected, codeword[3:])
	}
}

func TestCodeOfOtherLengths(t *testing.T) {
	expectNoData(t, nil)
	expectNoWord(t, nil)
	for length := range 30 {
		for _, symbol := range []int{0, 1, 9, 15} {
			list := slices.Repeat([]int{symbol}, length)
			if length != 8 {
				expectNoData(t, list)
			}
			if length != 11 {
				expectNoWord(t, list)
			}
		}
	}
	for _, codeword := range codewords {
		for _, list := range [][]int{codeword[:0], codeword[:7], codeword[:10], codeword[1:], append(slices.Clone(codeword), 0)} {
			expectNoData(t, list)
			expectNoWord(t, list)
		}
		expectNoData(t, codeword[:9])
		expectNoData(t, codeword)
		expectNoWord(t, codeword[:8])
		expectNoWord(t, codeword[:9])
	}
}

func TestCodeOfNoElements(t *testing.T) {
	for _, codeword := range codewords {
		for _, a := range noElements() {
			for place := range 8 {
				expectNoData(t, withSymbol(codeword[3:], place, a))
			}
			for place := range 11 {
				expectNoWord(t, withSymbol(codeword, place, a))
			}
		}
		expectNoWord(t, withSymbol(withSymbol(codeword, 0, -1), 10, 16))
		expectNoData(t, slices.Repeat([]int{math.MinInt}, 8))
		expectNoWord(t, slices.Repeat([]int{math.MaxInt}, 11))
	}
}

// The symbols of a wrong length are rejected whether they are elements or not.
func TestCodeOfOtherLengthsAndNoElements(t *testing.T) {
	for length := 1; length < 14; length++ {
		for place := range length {
			for _, a := range []int{-1, 16, math.MinInt, math.MaxInt} {
				list := withSymbol(make([]int, length), place, a)
				expectNoData(t, list)
				expectNoWord(t, list)
			}
		}
	}
}

// The functions change neither their argument nor the spare capacity behind it,
// and their results share no memory with it.
func TestCodeMemory(t *testing.T) {
	calls := []struct {
		name string
		list []int
		call func([]int) []int
	}{
		{"SymbolsOk", codewords[12], func(list []int) []int { impl.SymbolsOk(list, 11); return nil }},
		{"WordOk", codewords[12], func(list []int) []int { impl.WordOk(list); return nil }},
		{"WordOk", []int{1, 2, 3}, func(list []int) []int { impl.WordOk(list); return nil }},
		{"Syndromes", codewords[12], impl.Syndromes},
		{"Syndromes", slices.Repeat([]int{9}, 11), impl.Syndromes},
		{"Syndromes", []int{1, 2, 3}, impl.Syndromes},
		{"EncodeSymbols", []int{1, 2, 3, 4, 5, 6, 7, 8}, impl.EncodeSymbols},
		{"EncodeSymbols", make([]int, 8), impl.EncodeSymbols},
		{"EncodeSymbols", codewords[12], impl.EncodeSymbols},
		{"DataOf", codewords[12], impl.DataOf},
		{"DataOf", slices.Repeat([]int{9}, 11), impl.DataOf},
		{"DataOf", codewords[12][:8], impl.DataOf},
		{"CorrectWord", codewords[12], firstOfCorrectWord},
		{"CorrectWord", changed(codewords[12], []int{0}, []int{7}), firstOfCorrectWord},
		{"CorrectWord", changed(codewords[12], []int{10}, []int{7}), firstOfCorrectWord},
		{"CorrectWord", changed(codewords[12], []int{2, 5}, []int{7, 1}), firstOfCorrectWord},
		{"CorrectWord", codewords[12][:8], firstOfCorrectWord},
	}
	for _, c := range calls {
		expectOwnMemory(t, c.name, c.list, c.call)
	}
}

func firstOfCorrectWord(word []int) []int {
	corrected, _, _ := impl.CorrectWord(word)
	return corrected
}

func expectOwnMemory(t *testing.T, name string, list []int, call func([]int) []int) {
	t.Helper()
	whole := slices.Concat([]int{77}, list, []int{78, 79, 80, 81, 82, 83, 84, 85})
	before := slices.Clone(whole)
	argument := whole[1 : 1+len(list)]
	result := call(argument)
	want := slices.Clone(result)
	result = result[:cap(result)]
	for i := range result {
		result[i] = -99
	}
	if !slices.Equal(whole, before) {
		t.Errorf("%s(%v) left %v around its argument, or shares memory with it, want %v", name, list, whole, before)
	}
	second := call(argument)
	if !slices.Equal(second, want) {
		t.Errorf("%s(%v) = %v after a change of its first result, want %v", name, list, second, want)
	}
	for i := range whole {
		whole[i] = -98
	}
	if !slices.Equal(second, want) {
		t.Errorf("the result of %s(%v) changed with the argument", name, list)
	}
}

func expectSymbolsOk(t *testing.T, list []int, n int, want bool) {
	t.Helper()
	if got := impl.SymbolsOk(list, n); got != want {
		t.Errorf("SymbolsOk(%v, %d) = %v, want %v", list, n, got, want)
	}
}

func expectWordOk(t *testing.T, word []int, want bool) {
	t.Helper()
	if got := impl.WordOk(word); got != want {
		t.Errorf("WordOk(%v) = %v, want %v", word, got, want)
	}
}

func expectEncoded(t *testing.T, data, want []int) {
	t.Helper()
	got := impl.EncodeSymbols(data)
	if !slices.Equal(got, want) {
		t.Errorf("EncodeSymbols(%v) = %v, want %v", data, got, want)
	}
	expectWordOk(t, got, true)
	expectDataOf(t, got, data)
}

func expectDataOf(t *testing.T, word, want []int) {
	t.Helper()
	if got := impl.DataOf(word); !slices.Equal(got, want) {
		t.Errorf("DataOf(%v) = %v, want %v", word, got, want)
	}
}

func expectCorrected(t *testing.T, word, want []int, code, place int) {
	t.Helper()
	if got, c, p := impl.CorrectWord(word); !slices.Equal(got, want) || c != code || p != place {
		t.Errorf("CorrectWord(%v) = %v, %d, %d, want %v, %d, %d", word, got, c, p, want, code, place)
	}
}

// expectSearched compares CorrectWord with the search, and returns the code.
func expectSearched(t *testing.T, word []int) int {
	t.Helper()
	want, code, place := searchCodeword(t, word)
	expectCorrected(t, word, want, code, place)
	return code
}

func expectNoData(t *testing.T, data []int) {
	t.Helper()
	if got := impl.EncodeSymbols(data); len(got) != 0 {
		t.Errorf("EncodeSymbols(%v) = %v, want nil", data, got)
	}
}

func expectNoWord(t *testing.T, word []int) {
	t.Helper()
	if got := impl.Syndromes(word); len(got) != 0 {
		t.Errorf("Syndromes(%v) = %v, want nil", word, got)
	}
	expectWordOk(t, word, false)
	expectDataOf(t, word, nil)
	expectCorrected(t, word, nil, impl.EcLost, -1)
}

// wordSyndromes adds the products of all symbols with powers of 2, as the
// document says.
func wordSyndromes(word []int) []int {
	syndromes := []int{0, 0, 0}
	for j := range syndromes {
		for i, symbol := range word {
			syndromes[j] = polynomialSum(syndromes[j], symbolProducts[symbol][fieldPowers[i*j%15]])
		}
	}
	return syndromes
}

func isCodeword(word []int) bool {
	for j := range 3 {
		syndrome := 0
		for i, symbol := range word {
			syndrome ^= symbolProducts[symbol][fieldPowers[i*j%15]]
		}
		if syndrome != 0 {
			return false
		}
	}
	return true
}

// codewordOf adds multiples of the codewords of single symbols.
func codewordOf(data []int) []int {
	sum := make([]int, 11)
	for place, symbol := range data {
		for i, term := range codewords[place] {
			sum[i] = polynomialSum(sum[i], symbolProducts[symbol][term])
		}
	}
	return sum
}

// searchCodeword tries all words that differ from the given one in one symbol.
func searchCodeword(t *testing.T, word []int) ([]int, int, int) {
	t.Helper()
	if isCodeword(word) {
		return word, impl.EcClean, -1
	}
	found, code, place, count := word, impl.EcLost, -1, 0
	for i := range word {
		for difference := 1; difference < 16; difference++ {
			if near := changed(word, []int{i}, []int{difference}); isCodeword(near) {
				found, code, place = near, impl.EcFixed, i
				count++
			}
		}
	}
	if count > 1 {
		t.Errorf("%d codewords differ from %v in one symbol", count, word)
	}
	return found, code, place
}

// changed returns the list with differences added to the symbols at places.
func changed(list, places, differences []int) []int {
	list = slices.Clone(list)
	for i, place := range places {
		list[place] = polynomialSum(list[place], differences[i])
	}
	return list
}

func withSymbol(list []int, place, symbol int) []int {
	list = slices.Clone(list)
	list[place] = symbol
	return list
}

func symbolSums(a, b []int) []int {
	sums := []int{}
	for i := range a {
		sums = append(sums, polynomialSum(a[i], b[i]))
	}
	return sums
}

func distance(a, b []int) int {
	count := 0
	for i := range a {
		if a[i] != b[i] {
			count++
		}
	}
	return count
}

func checkPlaces(places []int) int {
	count := 0
	for _, place := range places {
		if place < 3 {
			count++
		}
	}
	return count
}

// placesOf yields all choices of the given number of places, in ascending order
// each.
func placesOf(places, count int) func(func([]int) bool) {
	return func(yield func([]int) bool) {
		for choice := range 1 << places {
			chosen := []int{}
			for place := range places {
				if choice>>place&1 == 1 {
					chosen = append(chosen, place)
				}
			}
			if len(chosen) == count && !yield(chosen) {
				return
			}
		}
	}
}

// digitsOf returns the digits of n to the base 16, the last one first.
func digitsOf(n, count int) []int {
	digits := []int{}
	for range count {
		digits = append(digits, n%16)
		n /= 16
	}
	return digits
}

func anySymbols(seed *uint32, count int) []int {
	symbols := []int{}
	for range count {
		symbols = append(symbols, pick(seed, 16))
	}
	return symbols
}

func someCodewords() [][]int {
	seed := uint32(1209)
	list := slices.Clone(codewords)
	for range 150 {
		list = append(list, codewordOf(anySymbols(&seed, 8)))
	}
	return list
}
