package tests

import (
	"math"
	"math/bits"
	"math/rand"
	"testing"

	"loop.example/g00977/impl"
)

// 295559667 times the factor of Mix is 1 modulo 2 to the 32nd.
const mixFactorInverse = 295559667

func TestMaxWord(t *testing.T) {
	if impl.MaxWord != 1<<32-1 {
		t.Errorf("MaxWord = %d", impl.MaxWord)
	}
}

func TestIsWord(t *testing.T) {
	for _, x := range sampleWords() {
		if !impl.IsWord(x) {
			t.Errorf("IsWord(%d) = false", x)
		}
	}
	for _, x := range noWords() {
		if impl.IsWord(x) {
			t.Errorf("IsWord(%d) = true", x)
		}
	}
}

func TestBitOf(t *testing.T) {
	cases := []struct{ x, i, want int }{
		{0, 0, 0}, {1, 0, 1}, {1, 1, 0}, {4, 2, 1}, {4, 1, 0}, {4, 3, 0},
		{5, 0, 1}, {5, 1, 0}, {5, 2, 1},
		{impl.MaxWord, 0, 1}, {impl.MaxWord, 31, 1}, {1 << 31, 31, 1}, {1<<31 - 1, 31, 0},
	}
	for _, c := range cases {
		if got := impl.BitOf(c.x, c.i); got != c.want {
			t.Errorf("BitOf(%d, %d) = %d, want %d", c.x, c.i, got, c.want)
		}
	}
}

// The bits of a word are the digits that division by 2 gives.
func TestBitOfAllBits(t *testing.T) {
	for _, x := range sampleWords() {
		rest := x
		for i := range 32 {
			if got := impl.BitOf(x, i); got != rest%2 {
				t.Errorf("BitOf(%d, %d) = %d, want %d", x, i, got, rest%2)
			}
			rest /= 2
		}
	}
}

func TestBitOfInvalid(t *testing.T) {
	for _, x := range noWords() {
		for _, i := range append(noBitNumbers(), 0, 1, 31) {
			if got := impl.BitOf(x, i); got != 0 {
				t.Errorf("BitOf(%d, %d) = %d, want 0", x, i, got)
			}
		}
	}
	for _, x := range sampleWords() {
		for _, i := range noBitNumbers() {
			if got := impl.BitOf(x, i); got != 0 {
				t.Errorf("BitOf(%d, %d) = %d, want 0", x, i, got)
			}
		}
	}
}

func TestWithBit(t *testing.T) {
	cases := []struct{ x, i, b, want int }{
		{5, 1, 1, 7}, {5, 1, 0, 5}, {5, 0, 0, 4}, {5, 0, 1, 5}, {5, 2, 0, 1},
		{0, 0, 0, 0}, {0, 0, 1, 1}, {0, 31, 1, 1 << 31}, {0, 31, 0, 0},
		{impl.MaxWord, 31, 0, 1<<31 - 1}, {impl.MaxWord, 31, 1, impl.MaxWord},
		{impl.MaxWord, 0, 0, impl.MaxWord - 1},
	}
	for _, c := range cases {
		if got := impl.WithBit(c.x, c.i, c.b); got != c.want {
			t.Errorf("WithBit(%d, %d, %d) = %d, want %d", c.x, c.i, c.b, got, c.want)
		}
	}
}

func TestWithBitChangesOneBit(t *testing.T) {
	for _, x := range sampleWords() {
		for i := range 32 {
			for b := range 2 {
				got := impl.WithBit(x, i, b)
				if !impl.IsWord(got) {
					t.Errorf("WithBit(%d, %d, %d) = %d is not a word", x, i, b, got)
				}
				for j := range 32 {
					want := impl.BitOf(x, j)
					if j == i {
						want = b
					}
					if bit := impl.BitOf(got, j); bit != want {
						t.Errorf("bit %d of WithBit(%d, %d, %d) is %d, want %d", j, x, i, b, bit, want)
					}
				}
			}
		}
	}
}

func TestWithBitInvalid(t *testing.T) {
	noBits := []int{-1, 2, 3, -2, 256, impl.MaxWord, 1 << 32, 1<<32 + 1, math.MinInt, math.MaxInt}
	for _, x := range noWords() {
		for _, i := range append(noBitNumbers(), 0, 1, 31) {
			for _, b := range append(noBits, 0, 1) {
				if got := impl.WithBit(x, i, b); got != x {
					t.Errorf("WithBit(%d, %d, %d) = %d, want no change", x, i, b, got)
				}
			}
		}
	}
	for _, x := range sampleWords() {
		for _, i := range noBitNumbers() {
			for _, b := range append(noBits, 0, 1) {
				if got := impl.WithBit(x, i, b); got != x {
					t.Errorf("WithBit(%d, %d, %d) = %d, want no change", x, i, b, got)
				}
			}
		}
		for i := range 32 {
			for _, b := range noBits {
				if got := impl.WithBit(x, i, b); got != x {
					t.Errorf("WithBit(%d, %d, %d) = %d, want no change", x, i, b, got)
				}
			}
		}
	}
}

func TestCountBits(t *testing.T) {
	cases := []struct{ x, want int }{
		{0, 0}, {1, 1}, {2, 1}, {3, 2}, {7, 3}, {255, 8}, {256, 1}, {65535, 16}, {65536, 1},
		{1 << 31, 1}, {1<<31 - 1, 31}, {impl.MaxWord - 1, 31}, {impl.MaxWord, 32},
		{0x55555555, 16}, {0xaaaaaaaa, 16}, {0x12345678, 13},
	}
	for _, c := range cases {
		if got := impl.CountBits(c.x); got != c.want {
			t.Errorf("CountBits(%d) = %d, want %d", c.x, got, c.want)
		}
	}
	for _, x := range sampleWords() {
		want := bits.OnesCount32(uint32(x))
		if got := impl.CountBits(x); got != want {
			t.Errorf("CountBits(%d) = %d, want %d", x, got, want)
		}
	}
	for _, x := range noWords() {
		if got := impl.CountBits(x); got != 0 {
			t.Errorf("CountBits(%d) = %d, want 0", x, got)
		}
	}
}

func TestParityOf(t *testing.T) {
	cases := []struct{ x, want int }{
		{0, 0}, {1, 1}, {3, 0}, {7, 1}, {1 << 31, 1}, {impl.MaxWord, 0}, {impl.MaxWord - 1, 1},
	}
	for _, c := range cases {
		if got := impl.ParityOf(c.x); got != c.want {
			t.Errorf("ParityOf(%d) = %d, want %d", c.x, got, c.want)
		}
	}
	for _, x := range sampleWords() {
		want := bits.OnesCount32(uint32(x)) % 2
		if got := impl.ParityOf(x); got != want {
			t.Errorf("ParityOf(%d) = %d, want %d", x, got, want)
		}
	}
	for _, x := range noWords() {
		if got := impl.ParityOf(x); got != 0 {
			t.Errorf("ParityOf(%d) = %d, want 0", x, got)
		}
	}
}

func TestMix(t *testing.T) {
	cases := []struct{ x, want int }{
		{0, 0},
		{1, 824515495},
		{2, 1722258072},
		{5, 592649042},
		{65535, 3392487869},
		{65536, 3572949607},
		{65537, 2131896459},
		{123456789, 1952335732},
		{1<<31 - 1, 3192437470},
		{1 << 31, 1029333365},
		{0xaaaaaaaa, 2140649997},
		{impl.MaxWord - 1, 1199205817},
		{impl.MaxWord, 539527247},
	}
	for _, c := range cases {
		if got := impl.Mix(c.x); got != c.want {
			t.Errorf("Mix(%d) = %d, want %d", c.x, got, c.want)
		}
	}
	for _, x := range noWords() {
		if got := impl.Mix(x); got != 0 {
			t.Errorf("Mix(%d) = %d, want 0", x, got)
		}
	}
}

// A function with an inverse gives different words different results.
func TestMixCanBeUndone(t *testing.T) {
	words := sampleWords()
	for x := range 1 << 17 {
		words = append(words, x, impl.MaxWord-x, x<<15)
	}
	for _, x := range words {
		mixed := impl.Mix(x)
		if !impl.IsWord(mixed) {
			t.Fatalf("Mix(%d) = %d is not a word", x, mixed)
		}
		if got := undoMix(mixed); got != x {
			t.Fatalf("Mix(%d) = %d, which is the result for %d", x, mixed, got)
		}
	}
}

func TestMixIsInjective(t *testing.T) {
	origins := map[int]int{}
	for _, x := range sampleWords() {
		mixed := impl.Mix(x)
		if origin, ok := origins[mixed]; ok && origin != x {
			t.Errorf("Mix(%d) and Mix(%d) are both %d", origin, x, mixed)
		}
		origins[mixed] = x
	}
}

func undoMix(mixed int) int {
	x := uint32(mixed)
	x ^= x >> 16
	for range 2 {
		x *= mixFactorInverse
		x ^= x >> 16
	}
	return int(x)
}

// sampleWords returns the words with at most three bits that are 1 or at most
// three that are 0, the words near a power of 2, and words without a pattern.
func sampleWords() []int {
	words := []int{0, impl.MaxWord, 0x55555555, 0xaaaaaaaa, 0x0f0f0f0f, 0x00ff00ff, 65535}
	for i := range 32 {
		words = append(words, 1<<i, 1<<i+1, 1<<i-1)
		for j := range i {
			for k := range j {
				few := 1<<i | 1<<j | 1<<k
				words = append(words, few, impl.MaxWord-few)
			}
			words = append(words, 1<<i|1<<j, impl.MaxWord-(1<<i|1<<j))
		}
		words = append(words, impl.MaxWord-1<<i)
	}
	source := rand.New(rand.NewSource(2))
	for range 2000 {
		words = append(words, int(source.Uint32()))
	}
	return words
}

func noWords() []int {
	numbers := []int{-1, -2, -5, -65536, -impl.MaxWord, -impl.MaxWord - 1, impl.MaxWord + 1, impl.MaxWord + 2, impl.MaxWord + 6}
	for i := 33; i < 63; i++ {
		numbers = append(numbers, 1<<i, 1<<i+1, 1<<i-1, -1<<i)
	}
	return append(numbers, math.MinInt, math.MinInt+1, math.MaxInt-1, math.MaxInt)
}

func noBitNumbers() []int {
	return []int{-1, -2, -31, -32, 32, 33, 62, 63, 64, 65, 1 << 32, math.MinInt, math.MaxInt}
}
