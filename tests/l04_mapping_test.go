package tests

import (
	"math"
	"slices"
	"testing"

	"loop.example/g00977/impl"
)

func TestMappingOk(t *testing.T) {
	cases := []struct {
		order int
		want  bool
	}{
		{-1, false}, {0, true}, {1, true}, {2, true}, {3, false}, {4, false},
		{1 << 32, false}, {-1 << 32, false}, {math.MinInt, false}, {math.MaxInt, false},
	}
	for _, c := range cases {
		for _, hash := range []bool{false, true} {
			m := impl.Mapping{Order: c.order, Hash: hash}
			if got := impl.MappingOk(m); got != c.want {
				t.Errorf("MappingOk(%+v) = %v, want %v", m, got, c.want)
			}
		}
	}
}

func TestMapLineAndLineOf(t *testing.T) {
	g := impl.Geometry{Groups: 2, Banks: 2, Rows: 4, Cols: 2}
	cases := []struct {
		order, line    int
		bank, row, col int
		hashedBank     int
	}{
		{0, 0, 0, 0, 0, 0}, {0, 1, 0, 0, 1, 0}, {0, 5, 2, 0, 1, 2}, {0, 8, 0, 1, 0, 1},
		{0, 13, 2, 1, 1, 3}, {0, 14, 3, 1, 0, 0}, {0, 23, 3, 2, 1, 1}, {0, 31, 3, 3, 1, 2},
		{1, 0, 0, 0, 0, 0}, {1, 1, 1, 0, 0, 1}, {1, 5, 1, 0, 1, 1}, {1, 8, 0, 1, 0, 1},
		{1, 13, 1, 1, 1, 2}, {1, 27, 3, 3, 0, 2}, {1, 31, 3, 3, 1, 2},
		{2, 0, 0, 0, 0, 0}, {2, 1, 0, 0, 1, 0}, {2, 5, 0, 2, 1, 2}, {2, 8, 1, 0, 0, 1},
		{2, 13, 1, 2, 1, 3}, {2, 14, 1, 3, 0, 0}, {2, 31, 3, 3, 1, 2},
	}
	for _, c := range cases {
		plain := impl.Addr{Bank: c.bank, Row: c.row, Col: c.col}
		hashed := impl.Addr{Bank: c.hashedBank, Row: c.row, Col: c.col}
		expectMapped(t, g, impl.Mapping{Order: c.order}, c.line, plain)
		expectMapped(t, g, impl.Mapping{Order: c.order, Hash: true}, c.line, hashed)
	}
}

// Every field goes back to 0 after its last value, and the next one then goes
// on by one: counting in this way gives the address of each line.
func TestMapLineCountsThroughAllAddresses(t *testing.T) {
	for _, g := range allGeometries() {
		for _, m := range allMappings() {
			addrs := addrsInOrder(g, m.Order)
			for line, a := range addrs {
				if m.Hash {
					a.Bank = bankAfterSteps(g, a.Bank, a.Row)
				}
				expectMapped(t, g, m, line, a)
			}
			if len(addrs) != impl.LineCount(g) {
				t.Errorf("%+v has %d lines, want %d", g, impl.LineCount(g), len(addrs))
			}
			expectNoLine(t, g, m, len(addrs))
			if t.Failed() {
				return
			}
		}
	}
}

func TestMapLineIsBijection(t *testing.T) {
	for _, g := range allGeometries() {
		for _, m := range allMappings() {
			found := map[impl.Addr]bool{}
			for line := range impl.LineCount(g) {
				a, ok := impl.MapLine(g, m, line)
				if !ok || !impl.AddrOk(g, a) {
					t.Fatalf("MapLine(%+v, %+v, %d) = %+v, %v, which is no address", g, m, line, a, ok)
				}
				if found[a] {
					t.Fatalf("MapLine(%+v, %+v, %d) = %+v, the address of an earlier line", g, m, line, a)
				}
				found[a] = true
			}
			if len(found) != impl.LineCount(g) {
				t.Fatalf("MapLine(%+v, %+v) gives %d addresses, want %d", g, m, len(found), impl.LineCount(g))
			}
		}
	}
}

// Hash moves the bank by one from row to row and leaves row and column alone,
// so that each row has every bank once.
func TestHashRotatesBanks(t *testing.T) {
	for _, g := range allGeometries() {
		for order := range 3 {
			turns := map[impl.Addr]int{}
			for line := range impl.LineCount(g) {
				plain, _ := impl.MapLine(g, impl.Mapping{Order: order}, line)
				hashed, ok := impl.MapLine(g, impl.Mapping{Order: order, Hash: true}, line)
				want := impl.Addr{Bank: bankAfterSteps(g, plain.Bank, plain.Row), Row: plain.Row, Col: plain.Col}
				if hashed != want || !ok {
					t.Fatalf("%+v, order %d, line %d: %+v with Hash, %v, want %+v", g, order, line, hashed, ok, want)
				}
				turns[impl.Addr{Row: hashed.Row, Col: hashed.Col}] |= 1 << hashed.Bank
			}
			for place, banks := range turns {
				if banks != 1<<(g.Groups*g.Banks)-1 {
					t.Fatalf("%+v, order %d: row %d, column %d is in the banks %b", g, order, place.Row, place.Col, banks)
				}
			}
		}
	}
}

func TestHashWithOneTwoAndEightBanks(t *testing.T) {
	oneBank := impl.Geometry{Groups: 1, Banks: 1, Rows: 3, Cols: 1}
	twoBanks := impl.Geometry{Groups: 2, Banks: 1, Rows: 3, Cols: 1}
	twoInGroup := impl.Geometry{Groups: 1, Banks: 2, Rows: 3, Cols: 1}
	eightBanks := impl.Geometry{Groups: 2, Banks: 4, Rows: 16, Cols: 8}
	cases := []struct {
		g              impl.Geometry
		line           int
		bank, row, col int
	}{
		{oneBank, 0, 0, 0, 0}, {oneBank, 1, 0, 1, 0}, {oneBank, 2, 0, 2, 0},
		{twoBanks, 0, 0, 0, 0}, {twoBanks, 1, 1, 0, 0}, {twoBanks, 2, 1, 1, 0},
		{twoBanks, 3, 0, 1, 0}, {twoBanks, 4, 0, 2, 0}, {twoBanks, 5, 1, 2, 0},
		{twoInGroup, 2, 1, 1, 0}, {twoInGroup, 3, 0, 1, 0}, {twoInGroup, 4, 0, 2, 0},
		{eightBanks, 0, 0, 0, 0}, {eightBanks, 63, 7, 0, 7}, {eightBanks, 64, 1, 1, 0},
		{eightBanks, 127, 0, 1, 7}, {eightBanks, 512, 0, 8, 0}, {eightBanks, 576, 1, 9, 0},
		{eightBanks, 960, 7, 15, 0}, {eightBanks, 968, 0, 15, 0}, {eightBanks, 1023, 6, 15, 7},
	}
	for _, c := range cases {
		a := impl.Addr{Bank: c.bank, Row: c.row, Col: c.col}
		expectMapped(t, c.g, impl.Mapping{Hash: true}, c.line, a)
	}
}

func TestMapLineNoLine(t *testing.T) {
	for _, g := range allGeometries() {
		count := g.Groups * g.Banks * g.Rows * g.Cols
		for _, m := range allMappings() {
			for _, line := range []int{-1, -2, -count, -count - 1, count, count + 1, 2 * count, 1 << 32, math.MinInt, math.MaxInt} {
				expectNoLine(t, g, m, line)
			}
		}
	}
}

func TestMapLineAndLineOfInvalid(t *testing.T) {
	numbers := []int{math.MinInt, -1, 0, 1, 5, 31, math.MaxInt}
	addrs := []impl.Addr{{}, {Bank: 1, Row: 1}, {Bank: math.MaxInt, Row: math.MinInt, Col: math.MaxInt}}
	for _, g := range noGeometries() {
		for _, m := range append(allMappings(), noMappings()...) {
			for _, line := range numbers {
				expectNoLine(t, g, m, line)
			}
			for _, a := range addrs {
				expectNoLineOf(t, g, m, a)
			}
		}
	}
	for _, g := range allGeometries() {
		for _, m := range noMappings() {
			for _, line := range numbers {
				expectNoLine(t, g, m, line)
			}
			for _, a := range addrs {
				expectNoLineOf(t, g, m, a)
			}
		}
	}
}

func TestLineOfNoAddress(t *testing.T) {
	for _, g := range allGeometries() {
		for _, m := range allMappings() {
			for _, a := range addrsOutside(g) {
				expectNoLineOf(t, g, m, a)
			}
		}
	}
}

func TestBanksTouched(t *testing.T) {
	g := impl.Geometry{Groups: 2, Banks: 2, Rows: 4, Cols: 2}
	cases := []struct {
		order   int
		hash    bool
		from, n int
		want    []int
	}{
		{0, false, 0, 1, []int{0}}, {0, false, 1, 1, []int{0}}, {0, false, 0, 2, []int{0}},
		{0, false, 1, 2, []int{0, 1}}, {0, false, 0, 8, []int{0, 1, 2, 3}}, {0, false, 6, 3, []int{0, 3}},
		{0, false, 5, 11, []int{0, 1, 2, 3}}, {0, false, 3, 4, []int{1, 2, 3}},
		{0, true, 6, 3, []int{1, 3}}, {0, true, 12, 4, []int{0, 3}}, {0, true, 13, 4, []int{0, 2, 3}},
		{1, false, 0, 2, []int{0, 1}}, {1, false, 3, 2, []int{0, 3}}, {1, false, 7, 1, []int{3}},
		{1, true, 8, 1, []int{1}}, {1, true, 10, 2, []int{0, 3}}, {1, true, 11, 3, []int{0, 1, 2}},
		{2, false, 0, 8, []int{0}}, {2, false, 7, 2, []int{0, 1}}, {2, false, 24, 8, []int{3}},
		{2, true, 0, 3, []int{0, 1}}, {2, true, 12, 4, []int{0, 3}}, {2, true, 24, 8, []int{0, 1, 2, 3}},
	}
	for _, c := range cases {
		m := impl.Mapping{Order: c.order, Hash: c.hash}
		if got := impl.BanksTouched(g, m, c.from, c.n); !slices.Equal(got, c.want) {
			t.Errorf("BanksTouched(%+v, %+v, %d, %d) = %v, want %v", g, m, c.from, c.n, got, c.want)
		}
	}
}

func TestBanksTouchedOfEveryRange(t *testing.T) {
	geometries := []impl.Geometry{
		{Groups: 1, Banks: 1, Rows: 2, Cols: 1}, {Groups: 2, Banks: 1, Rows: 5, Cols: 3},
		{Groups: 2, Banks: 2, Rows: 4, Cols: 2}, {Groups: 1, Banks: 3, Rows: 5, Cols: 2},
		{Groups: 2, Banks: 4, Rows: 3, Cols: 2}, {Groups: 2, Banks: 4, Rows: 2, Cols: 1},
	}
	for _, g := range geometries {
		count := impl.LineCount(g)
		for _, m := range allMappings() {
			for from := -2; from <= count+1; from++ {
				for n := -1; n <= count+2; n++ {
					expectBanks(t, g, m, from, n)
				}
			}
		}
	}
}

func TestBanksTouchedLimits(t *testing.T) {
	for _, g := range allGeometries() {
		count := g.Groups * g.Banks * g.Rows * g.Cols
		for _, m := range allMappings() {
			for _, n := range []int{math.MinInt, -1, 0, 1, 2, count - 1, count, count + 1, math.MaxInt} {
				expectBanks(t, g, m, 0, n)
				expectBanks(t, g, m, 1, n)
				expectBanks(t, g, m, -1, n)
				expectBanks(t, g, m, count-1, n)
				expectBanks(t, g, m, count, n)
				expectBanks(t, g, m, math.MinInt, n)
				expectBanks(t, g, m, math.MaxInt, n)
			}
			expectBanks(t, g, m, count-2, 2)
			expectBanks(t, g, m, count-2, 3)
			// The sum of both is the number of a line, or is too large for an int.
			expectBanks(t, g, m, -math.MaxInt, math.MaxInt)
			expectBanks(t, g, m, math.MaxInt-1, 2)
			expectBanks(t, g, m, 2, math.MaxInt-1)
		}
	}
}

func TestBanksTouchedInvalid(t *testing.T) {
	numbers := []int{math.MinInt, -1, 0, 1, 2, math.MaxInt}
	for _, from := range numbers {
		for _, n := range numbers {
			for _, g := range noGeometries() {
				for _, m := range append(allMappings(), noMappings()...) {
					expectNoBanks(t, g, m, from, n)
				}
			}
			for _, g := range allGeometries() {
				for _, m := range noMappings() {
					expectNoBanks(t, g, m, from, n)
				}
			}
		}
	}
}

func TestBanksTouchedResultIsNew(t *testing.T) {
	g := impl.Geometry{Groups: 2, Banks: 2, Rows: 4, Cols: 2}
	first := impl.BanksTouched(g, impl.Mapping{}, 0, 8)
	for i := range first {
		first[i] = 9
	}
	if again := impl.BanksTouched(g, impl.Mapping{}, 0, 8); !slices.Equal(again, []int{0, 1, 2, 3}) {
		t.Errorf("BanksTouched after a change of its earlier result = %v", again)
	}
}

func expectMapped(t *testing.T, g impl.Geometry, m impl.Mapping, line int, a impl.Addr) {
	t.Helper()
	if got, ok := impl.MapLine(g, m, line); got != a || !ok {
		t.Errorf("MapLine(%+v, %+v, %d) = %+v, %v, want %+v, true", g, m, line, got, ok, a)
	}
	if got := impl.LineOf(g, m, a); got != line {
		t.Errorf("LineOf(%+v, %+v, %+v) = %d, want %d", g, m, a, got, line)
	}
}

func expectNoLine(t *testing.T, g impl.Geometry, m impl.Mapping, line int) {
	t.Helper()
	if got, ok := impl.MapLine(g, m, line); got != (impl.Addr{}) || ok {
		t.Errorf("MapLine(%+v, %+v, %d) = %+v, %v, want none", g, m, line, got, ok)
	}
}

func expectNoLineOf(t *testing.T, g impl.Geometry, m impl.Mapping, a impl.Addr) {
	t.Helper()
	if got := impl.LineOf(g, m, a); got != -1 {
		t.Errorf("LineOf(%+v, %+v, %+v) = %d, want -1", g, m, a, got)
	}
}

func expectNoBanks(t *testing.T, g impl.Geometry, m impl.Mapping, from int, n int) {
	t.Helper()
	if got := impl.BanksTouched(g, m, from, n); len(got) != 0 {
		t.Errorf("BanksTouched(%+v, %+v, %d, %d) = %v, want none", g, m, from, n, got)
	}
}

// expectBanks takes the lines one by one and stops at the first one that does
// not exist, so that it needs no sum of from and n.
func expectBanks(t *testing.T, g impl.Geometry, m impl.Mapping, from int, n int) {
	t.Helper()
	touched := [8]bool{}
	for i := 0; i < n; i++ {
		a, ok := impl.MapLine(g, m, from+i)
		if !ok {
			expectNoBanks(t, g, m, from, n)
			return
		}
		touched[a.Bank] = true
	}
	want := []int{}
	for bank, is := range touched {
		if is {
			want = append(want, bank)
		}
	}
	if got := impl.BanksTouched(g, m, from, n); !slices.Equal(got, want) {
		t.Errorf("BanksTouched(%+v, %+v, %d, %d) = %v, want %v", g, m, from, n, got, want)
	}
}

// addrsInOrder returns all addresses of g as the order counts them, without Hash.
func addrsInOrder(g impl.Geometry, order int) []impl.Addr {
	banks := g.Groups * g.Banks
	addrs := []impl.Addr{}
	switch order {
	case 0:
		for row := range g.Rows {
			for bank := range banks {
				for col := range g.Cols {
					addrs = append(addrs, impl.Addr{Bank: bank, Row: row, Col: col})
				}
			}
		}
	case 1:
		for row := range g.Rows {
			for col := range g.Cols {
				for bank := range banks {
					addrs = append(addrs, impl.Addr{Bank: bank, Row: row, Col: col})
				}
			}
		}
	case 2:
		for bank := range banks {
			for row := range g.Rows {
				for col := range g.Cols {
					addrs = append(addrs, impl.Addr{Bank: bank, Row: row, Col: col})
				}
			}
		}
	}
	return addrs
}

func bankAfterSteps(g impl.Geometry, bank int, steps int) int {
	for range steps {
		bank++
		if bank == g.Groups*g.Banks {
			bank = 0
		}
	}
	return bank
}

func addrsOutside(g impl.Geometry) []impl.Addr {
	banks := g.Groups * g.Banks
	addrs := []impl.Addr{
		{Bank: -1, Row: -1, Col: -1}, {Bank: banks, Row: g.Rows, Col: g.Cols},
		{Row: 1, Col: -1}, {Bank: 1, Col: -1}, {Bank: -1, Row: g.Rows}, {Bank: banks, Row: -1},
	}
	for _, a := range []impl.Addr{{}, {Bank: banks - 1, Row: g.Rows - 1, Col: g.Cols - 1}} {
		for _, bank := range []int{-1, banks, math.MinInt, math.MaxInt} {
			addrs = append(addrs, impl.Addr{Bank: bank, Row: a.Row, Col: a.Col})
		}
		for _, row := range []int{-1, g.Rows, math.MinInt, math.MaxInt} {
			addrs = append(addrs, impl.Addr{Bank: a.Bank, Row: row, Col: a.Col})
		}
		for _, col := range []int{-1, g.Cols, math.MinInt, math.MaxInt} {
			addrs = append(addrs, impl.Addr{Bank: a.Bank, Row: a.Row, Col: col})
		}
	}
	return addrs
}

func allMappings() []impl.Mapping {
	return []impl.Mapping{{}, {Order: 1}, {Order: 2}, {Hash: true}, {Order: 1, Hash: true}, {Order: 2, Hash: true}}
}

func noMappings() []impl.Mapping {
	mappings := []impl.Mapping{}
	for _, order := range []int{math.MinInt, -2, -1, 3, 4, 1 << 32, math.MaxInt} {
		mappings = append(mappings, impl.Mapping{Order: order}, impl.Mapping{Order: order, Hash: true})
	}
	return mappings
}
