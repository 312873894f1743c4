package tests

import (
	"math"
	"testing"

	"loop.example/g00977/impl"
)

// fieldPowers holds the powers of 2 up to the 14th: each is twice the one
// before, and x^4 is x + 1.
var fieldPowers = []int{1, 2, 4, 8, 3, 6, 12, 11, 5, 10, 7, 14, 15, 13, 9}

var fieldInverses = []int{-1, 1, 9, 14, 13, 11, 7, 6, 15, 2, 12, 5, 10, 4, 3, 8}

var fieldLogs = []int{-1, 0, 1, 4, 2, 8, 5, 10, 3, 14, 9, 7, 6, 13, 11, 12}

func TestGfAdd(t *testing.T) {
	cases := []struct{ a, b, want int }{
		{0, 0, 0}, {0, 1, 1}, {1, 1, 0}, {5, 3, 6}, {8, 4, 12}, {10, 5, 15}, {15, 1, 14}, {15, 15, 0},
	}
	for _, c := range cases {
		if got := impl.GfAdd(c.a, c.b); got != c.want {
			t.Errorf("GfAdd(%d, %d) = %d, want %d", c.a, c.b, got, c.want)
		}
	}
}

func TestGfAddOfAllPairs(t *testing.T) {
	for a := range 16 {
		for b := range 16 {
			if got, want := impl.GfAdd(a, b), polynomialSum(a, b); got != want {
				t.Errorf("GfAdd(%d, %d) = %d, want %d", a, b, got, want)
			}
		}
	}
}

func TestGfMul(t *testing.T) {
	cases := []struct{ a, b, want int }{
		{0, 0, 0}, {0, 1, 0}, {0, 15, 0}, {1, 1, 1}, {1, 15, 15}, {2, 2, 4}, {4, 2, 8}, {8, 2, 3}, {8, 8, 12},
		{3, 3, 5}, {3, 7, 9}, {7, 7, 6}, {5, 10, 4}, {7, 11, 4}, {9, 2, 1}, {15, 2, 13}, {15, 8, 1}, {15, 15, 10},
	}
	for _, c := range cases {
		if got := impl.GfMul(c.a, c.b); got != c.want {
			t.Errorf("GfMul(%d, %d) = %d, want %d", c.a, c.b, got, c.want)
		}
	}
}

func TestGfMulOfAllPairs(t *testing.T) {
	for a := range 16 {
		for b := range 16 {
			if got, want := impl.GfMul(a, b), polynomialProduct(a, b); got != want {
				t.Errorf("GfMul(%d, %d) = %d, want %d", a, b, got, want)
			}
		}
	}
}

// The exponents of two powers of 2 are added in their product, modulo 15.
func TestGfMulOfPowers(t *testing.T) {
	for i, a := range fieldPowers {
		for j, b := range fieldPowers {
			if got, want := impl.GfMul(a, b), fieldPowers[(i+j)%15]; got != want {
				t.Errorf("GfMul(%d, %d) = %d, want %d", a, b, got, want)
			}
		}
	}
}

func TestFieldIsClosed(t *testing.T) {
	for a := range 16 {
		for b := range 16 {
			if got := impl.GfAdd(a, b); got < 0 || got > 15 {
				t.Errorf("GfAdd(%d, %d) = %d is not an element", a, b, got)
			}
			if got := impl.GfMul(a, b); got < 0 || got > 15 {
				t.Errorf("GfMul(%d, %d) = %d is not an element", a, b, got)
			}
		}
	}
}

func TestFieldOrderOfOperands(t *testing.T) {
	for a := range 16 {
		for b := range 16 {
			if ab, ba := impl.GfAdd(a, b), impl.GfAdd(b, a); ab != ba {
				t.Errorf("%d + %d = %d, but %d + %d = %d", a, b, ab, b, a, ba)
			}
			if ab, ba := impl.GfMul(a, b), impl.GfMul(b, a); ab != ba {
				t.Errorf("%d * %d = %d, but %d * %d = %d", a, b, ab, b, a, ba)
			}
		}
	}
}

func TestFieldGroupingOfOperands(t *testing.T) {
	for a := range 16 {
		for b := range 16 {
			for c := range 16 {
				first, last := impl.GfAdd(impl.GfAdd(a, b), c), impl.GfAdd(a, impl.GfAdd(b, c))
				if first != last {
					t.Errorf("(%d + %d) + %d = %d, but %d + (%d + %d) = %d", a, b, c, first, a, b, c, last)
				}
				first, last = impl.GfMul(impl.GfMul(a, b), c), impl.GfMul(a, impl.GfMul(b, c))
				if first != last {
					t.Errorf("(%d * %d) * %d = %d, but %d * (%d * %d) = %d", a, b, c, first, a, b, c, last)
				}
			}
		}
	}
}

func TestFieldDistribution(t *testing.T) {
	for a := range 16 {
		for b := range 16 {
			for c := range 16 {
				whole := impl.GfMul(a, impl.GfAdd(b, c))
				parts := impl.GfAdd(impl.GfMul(a, b), impl.GfMul(a, c))
				if whole != parts {
					t.Errorf("%d * (%d + %d) = %d, but %d * %d + %d * %d = %d", a, b, c, whole, a, b, a, c, parts)
				}
				whole = impl.GfMul(impl.GfAdd(a, b), c)
				parts = impl.GfAdd(impl.GfMul(a, c), impl.GfMul(b, c))
				if whole != parts {
					t.Errorf("(%d + %d) * %d = %d, but %d * %d + %d * %d = %d", a, b, c, whole, a, c, b, c, parts)
				}
			}
		}
	}
}

func TestFieldZeroAndOne(t *testing.T) {
	for a := range 16 {
		for _, c := range []struct {
			name      string
			got, want int
		}{
			{"a + 0", impl.GfAdd(a, 0), a},
			{"0 + a", impl.GfAdd(0, a), a},
			{"a + a", impl.GfAdd(a, a), 0},
			{"a * 0", impl.GfMul(a, 0), 0},
			{"0 * a", impl.GfMul(0, a), 0},
			{"a * 1", impl.GfMul(a, 1), a},
			{"1 * a", impl.GfMul(1, a), a},
		} {
			if c.got != c.want {
				t.Errorf("%s = %d for a = %d, want %d", c.name, c.got, a, c.want)
			}
		}
	}
}

// Every element has one opposite, itself, and every nonzero element one inverse.
func TestFieldInverses(t *testing.T) {
	for a := range 16 {
		for b := range 16 {
			if zero := impl.GfAdd(a, b) == 0; zero != (a == b) {
				t.Errorf("GfAdd(%d, %d) is 0: %v", a, b, zero)
			}
			if zero := impl.GfMul(a, b) == 0; zero != (a == 0 || b == 0) {
				t.Errorf("GfMul(%d, %d) is 0: %v", a, b, zero)
			}
			if one := impl.GfMul(a, b) == 1; one != (fieldInverses[a] == b) {
				t.Errorf("GfMul(%d, %d) is 1: %v", a, b, one)
			}
		}
	}
}

func TestGfInv(t *testing.T) {
	for a, want := range fieldInverses {
		if got := impl.GfInv(a); got != want {
			t.Errorf("GfInv(%d) = %d, want %d", a, got, want)
		}
	}
}

func TestGfInvOfZeroAndOne(t *testing.T) {
	if got := impl.GfInv(0); got != -1 {
		t.Errorf("GfInv(0) = %d, want -1", got)
	}
	if got := impl.GfInv(1); got != 1 {
		t.Errorf("GfInv(1) = %d, want 1", got)
	}
}

func TestGfInvOfNonzeroElements(t *testing.T) {
	for a := 1; a < 16; a++ {
		inverse := impl.GfInv(a)
		if got := impl.GfMul(a, inverse); got != 1 {
			t.Errorf("GfMul(%d, %d) = %d, want 1", a, inverse, got)
		}
		if got := impl.GfMul(inverse, a); got != 1 {
			t.Errorf("GfMul(%d, %d) = %d, want 1", inverse, a, got)
		}
		if got := impl.GfInv(inverse); got != a {
			t.Errorf("GfInv(%d) = %d, want %d", inverse, got, a)
		}
	}
}

func TestGfPow(t *testing.T) {
	cases := []struct{ a, n, want int }{
		{2, 0, 1}, {2, 1, 2}, {2, 3, 8}, {2, 4, 3}, {2, 14, 9}, {2, 15, 1}, {2, 16, 2}, {2, 999, 10}, {2, 1000, 7},
		{0, 0, 1}, {0, 1, 0}, {0, 2, 0}, {0, 14, 0}, {0, 15, 0}, {0, 16, 0}, {0, 1000, 0},
		{1, 0, 1}, {1, 1, 1}, {1, 14, 1}, {1, 15, 1}, {1, 16, 1}, {1, 1000, 1},
		{3, 2, 5}, {3, 14, 14}, {3, 15, 1}, {3, 16, 3}, {3, 1000, 7}, {6, 3, 1}, {6, 1000, 6},
		{7, 2, 6}, {7, 3, 1}, {7, 1000, 7}, {8, 5, 1}, {8, 1000, 1}, {15, 2, 10}, {15, 1000, 1},
	}
	for _, c := range cases {
		expectPow(t, c.a, c.n, c.want)
	}
}

func TestGfPowZero(t *testing.T) {
	for a := range 16 {
		expectPow(t, a, 0, 1)
		expectPow(t, a, 1, a)
	}
}

func TestGfPowOfEveryExponent(t *testing.T) {
	for a := range 16 {
		product := 1
		for n := range 1001 {
			expectPow(t, a, n, product)
			product = polynomialProduct(product, a)
		}
	}
}

// The 15th power of every nonzero element is 1, so exponents count modulo 15.
func TestGfPowRepeats(t *testing.T) {
	for a := 1; a < 16; a++ {
		expectPow(t, a, 14, fieldInverses[a])
		expectPow(t, a, 15, 1)
		expectPow(t, a, 16, a)
		for n := range 1001 {
			expectPow(t, a, n, fieldPowers[fieldLogs[a]*n%15])
		}
	}
}

func TestGfPowOfNoExponent(t *testing.T) {
	for a := range 16 {
		for _, n := range noExponents() {
			expectPow(t, a, n, -1)
		}
	}
}

func TestTwoGeneratesNonzeroElements(t *testing.T) {
	seen := map[int]int{}
	for n := range 15 {
		power := impl.GfPow(2, n)
		if power < 1 || power > 15 {
			t.Errorf("GfPow(2, %d) = %d is not a nonzero element", n, power)
		}
		if power != fieldPowers[n] {
			t.Errorf("GfPow(2, %d) = %d, want %d", n, power, fieldPowers[n])
		}
		if first, ok := seen[power]; ok {
			t.Errorf("GfPow(2, %d) and GfPow(2, %d) are both %d", first, n, power)
		}
		seen[power] = n
	}
	if len(seen) != 15 {
		t.Errorf("the powers of 2 are %d elements, want 15", len(seen))
	}
	for n := 15; n <= 1000; n++ {
		expectPow(t, 2, n, impl.GfPow(2, n-15))
	}
}

func TestGfLog(t *testing.T) {
	for a, want := range fieldLogs {
		if got := impl.GfLog(a); got != want {
			t.Errorf("GfLog(%d) = %d, want %d", a, got, want)
		}
	}
}

func TestGfLogAndGfPowAreInverse(t *testing.T) {
	for a := 1; a < 16; a++ {
		n := impl.GfLog(a)
		if n < 0 || n > 14 {
			t.Errorf("GfLog(%d) = %d, want a number from 0 to 14", a, n)
		}
		if got := impl.GfPow(2, n); got != a {
			t.Errorf("GfPow(2, GfLog(%d)) = %d", a, got)
		}
	}
	for n := range 15 {
		if got := impl.GfLog(impl.GfPow(2, n)); got != n {
			t.Errorf("GfLog(GfPow(2, %d)) = %d", n, got)
		}
	}
}

func TestFieldOfNoElements(t *testing.T) {
	for _, a := range noElements() {
		for b := range 16 {
			expectNoSumOrProduct(t, a, b)
			expectNoSumOrProduct(t, b, a)
		}
		for _, b := range noElements() {
			expectNoSumOrProduct(t, a, b)
		}
		if got := impl.GfInv(a); got != -1 {
			t.Errorf("GfInv(%d) = %d, want -1", a, got)
		}
		if got := impl.GfLog(a); got != -1 {
			t.Errorf("GfLog(%d) = %d, want -1", a, got)
		}
		for n := range 1001 {
			expectPow(t, a, n, -1)
		}
		for _, n := range noExponents() {
			expectPow(t, a, n, -1)
		}
	}
}

func expectPow(t *testing.T, a, n, want int) {
	t.Helper()
	if got := impl.GfPow(a, n); got != want {
		t.Errorf("GfPow(%d, %d) = %d, want %d", a, n, got, want)
	}
}

func expectNoSumOrProduct(t *testing.T, a, b int) {
	t.Helper()
	if got := impl.GfAdd(a, b); got != -1 {
		t.Errorf("GfAdd(%d, %d) = %d, want -1", a, b, got)
	}
	if got := impl.GfMul(a, b); got != -1 {
		t.Errorf("GfMul(%d, %d) = %d, want -1", a, b, got)
	}
}

// coefficients returns those of the polynomial of an element, the constant one
// first.
func coefficients(a int) [4]int { return [4]int{a % 2, a / 2 % 2, a / 4 % 2, a / 8} }

func polynomialSum(a, b int) int {
	sum := 0
	for i := range 4 {
		sum += (coefficients(a)[i] + coefficients(b)[i]) % 2 << i
	}
	return sum
}

// polynomialProduct multiplies as one does on paper, and then replaces x^6, x^5
// and x^4, in this order, by x^2, x and 1 times x + 1.
func polynomialProduct(a, b int) int {
	long := [7]int{}
	for i, left := range coefficients(a) {
		for j, right := range coefficients(b) {
			long[i+j] += left * right
		}
	}
	for i := 6; i >= 4; i-- {
		long[i-3] += long[i]
		long[i-4] += long[i]
	}
	product := 0
	for i := range 4 {
		product += long[i] % 2 << i
	}
	return product
}

// noElements returns numbers around the elements and far away; the last four
// bits of some of them are an element.
func noElements() []int {
	numbers := []int{-1, -2, -8, -15, -16, -17, -256, 16, 17, 18, 19, 31, 32, 33, 127, 255, 256, 257, impl.MaxWord}
	return append(numbers, farNumbers...)
}

func noExponents() []int {
	numbers := []int{-1, -2, -14, -15, -16, -1000, 1001, 1002, 1005, 1015, 1024, 2000, 65536, 1<<32 + 15, math.MaxInt - 1}
	return append(numbers, farNumbers...)
}
