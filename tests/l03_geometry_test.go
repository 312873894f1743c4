package tests

import (
	"math"
	"testing"

	"loop.example/g00977/impl"
)

func TestGeometryOk(t *testing.T) {
	for _, g := range allGeometries() {
		if !impl.GeometryOk(g) {
			t.Errorf("GeometryOk(%+v) = false", g)
		}
	}
	for _, g := range noGeometries() {
		if impl.GeometryOk(g) {
			t.Errorf("GeometryOk(%+v) = true", g)
		}
	}
}

func TestGeometryOkLimits(t *testing.T) {
	cases := []struct {
		groups, banks, rows, cols int
		want                      bool
	}{
		{0, 2, 4, 2, false}, {1, 2, 4, 2, true}, {2, 2, 4, 2, true}, {3, 2, 4, 2, false},
		{1, 0, 4, 2, false}, {1, 1, 4, 2, true}, {1, 4, 4, 2, true}, {1, 5, 4, 2, false},
		{2, 2, 1, 2, false}, {2, 2, 2, 2, true}, {2, 2, 16, 2, true}, {2, 2, 17, 2, false},
		{2, 2, 4, 0, false}, {2, 2, 4, 1, true}, {2, 2, 4, 8, true}, {2, 2, 4, 9, false},
		{1, 1, 2, 1, true}, {2, 4, 16, 8, true}, {0, 0, 0, 0, false},
	}
	for _, c := range cases {
		g := impl.Geometry{Groups: c.groups, Banks: c.banks, Rows: c.rows, Cols: c.cols}
		if got := impl.GeometryOk(g); got != c.want {
			t.Errorf("GeometryOk(%+v) = %v, want %v", g, got, c.want)
		}
	}
}

func TestBankCountAndLineCount(t *testing.T) {
	cases := []struct {
		g            impl.Geometry
		banks, lines int
	}{
		{impl.Geometry{Groups: 2, Banks: 2, Rows: 4, Cols: 2}, 4, 32},
		{impl.Geometry{Groups: 1, Banks: 1, Rows: 2, Cols: 1}, 1, 2},
		{impl.Geometry{Groups: 2, Banks: 1, Rows: 3, Cols: 5}, 2, 30},
		{impl.Geometry{Groups: 1, Banks: 3, Rows: 7, Cols: 8}, 3, 168},
		{impl.Geometry{Groups: 2, Banks: 4, Rows: 16, Cols: 8}, 8, 1024},
	}
	for _, c := range cases {
		if got := impl.BankCount(c.g); got != c.banks {
			t.Errorf("BankCount(%+v) = %d, want %d", c.g, got, c.banks)
		}
		if got := impl.LineCount(c.g); got != c.lines {
			t.Errorf("LineCount(%+v) = %d, want %d", c.g, got, c.lines)
		}
	}
	for _, g := range noGeometries() {
		if got := impl.BankCount(g); got != 0 {
			t.Errorf("BankCount(%+v) = %d, want 0", g, got)
		}
		if got := impl.LineCount(g); got != 0 {
			t.Errorf("LineCount(%+v) = %d, want 0", g, got)
		}
	}
}

// The banks of every geometry, taken in order, are group 0 and then group 1.
func TestGroupOf(t *testing.T) {
	for _, g := range allGeometries() {
		bank := 0
		for group := range g.Groups {
			for range g.Banks {
				if got := impl.GroupOf(g, bank); got != group {
					t.Errorf("GroupOf(%+v, %d) = %d, want %d", g, bank, got, group)
				}
				bank++
			}
		}
		if impl.BankCount(g) != bank {
			t.Errorf("BankCount(%+v) = %d, want %d", g, impl.BankCount(g), bank)
		}
	}
}

func TestGroupOfNoBank(t *testing.T) {
	for _, g := range allGeometries() {
		count := g.Groups * g.Banks
		for _, bank := range []int{-1, -2, count, count + 1, math.MinInt, math.MaxInt} {
			if got := impl.GroupOf(g, bank); got != -1 {
				t.Errorf("GroupOf(%+v, %d) = %d, want -1", g, bank, got)
			}
		}
	}
	for _, g := range noGeometries() {
		for _, bank := range []int{-1, 0, 1, 3, math.MinInt, math.MaxInt} {
			if got := impl.GroupOf(g, bank); got != -1 {
				t.Errorf("GroupOf(%+v, %d) = %d, want -1", g, bank, got)
			}
		}
	}
}

func TestAddrIndex(t *testing.T) {
	g := impl.Geometry{Groups: 2, Banks: 2, Rows: 4, Cols: 2}
	cases := []struct{ bank, row, col, want int }{
		{0, 0, 0, 0}, {0, 0, 1, 1}, {0, 1, 0, 2}, {0, 3, 1, 7}, {1, 0, 0, 8},
		{1, 2, 1, 13}, {2, 0, 0, 16}, {3, 3, 0, 30}, {3, 3, 1, 31},
	}
	for _, c := range cases {
		a := impl.Addr{Bank: c.bank, Row: c.row, Col: c.col}
		if got := impl.AddrIndex(g, a); got != c.want {
			t.Errorf("AddrIndex(%+v, %+v) = %d, want %d", g, a, got, c.want)
		}
		if got, ok := impl.AddrAt(g, c.want); got != a || !ok {
			t.Errorf("AddrAt(%+v, %d) = %+v, %v, want %+v, true", g, c.want, got, ok, a)
		}
	}
}

func TestGeometryWithOneBank(t *testing.T) {
	g := impl.Geometry{Groups: 1, Banks: 1, Rows: 3, Cols: 2}
	if !impl.GeometryOk(g) || impl.BankCount(g) != 1 || impl.LineCount(g) != 6 {
		t.Errorf("%+v is valid: %v, banks: %d, lines: %d", g, impl.GeometryOk(g), impl.BankCount(g), impl.LineCount(g))
	}
	if got := impl.GroupOf(g, 0); got != 0 {
		t.Errorf("GroupOf(%+v, 0) = %d, want 0", g, got)
	}
	for _, bank := range []int{-1, 1} {
		if got := impl.GroupOf(g, bank); got != -1 {
			t.Errorf("GroupOf(%+v, %d) = %d, want -1", g, bank, got)
		}
		expectNoAddr(t, g, impl.Addr{Bank: bank})
	}
	last := impl.Addr{Row: 2, Col: 1}
	if got := impl.AddrIndex(g, last); got != 5 {
		t.Errorf("AddrIndex(%+v, %+v) = %d, want 5", g, last, got)
	}
	if got, ok := impl.AddrAt(g, 5); got != last || !ok {
		t.Errorf("AddrAt(%+v, 5) = %+v, %v, want %+v, true", g, got, ok, last)
	}
	if got, ok := impl.AddrAt(g, 6); got != (impl.Addr{}) || ok {
		t.Errorf("AddrAt(%+v, 6) = %+v, %v, want none", g, got, ok)
	}
}

// Lines are numbered by bank, then row, then column, so that counting the
// addresses in this order gives their indices.
func TestAddrIndexAndAddrAtAreInverse(t *testing.T) {
	for _, g := range allGeometries() {
		n := 0
		for bank := range g.Groups * g.Banks {
			for row := range g.Rows {
				for col := range g.Cols {
					a := impl.Addr{Bank: bank, Row: row, Col: col}
					if !impl.AddrOk(g, a) {
						t.Fatalf("AddrOk(%+v, %+v) = false", g, a)
					}
					if got := impl.AddrIndex(g, a); got != n {
						t.Fatalf("AddrIndex(%+v, %+v) = %d, want %d", g, a, got, n)
					}
					if got, ok := impl.AddrAt(g, n); got != a || !ok {
						t.Fatalf("AddrAt(%+v, %d) = %+v, %v, want %+v, true", g, n, got, ok, a)
					}
					n++
				}
			}
		}
		if got := impl.LineCount(g); got != n {
			t.Errorf("LineCount(%+v) = %d, want %d", g, got, n)
		}
	}
}

func TestAddrAtNoIndex(t *testing.T) {
	for _, g := range allGeometries() {
		lines := g.Groups * g.Banks * g.Rows * g.Cols
		for _, n := range []int{-1, -2, -lines, lines, lines + 1, math.MinInt, math.MaxInt} {
			if got, ok := impl.AddrAt(g, n); got != (impl.Addr{}) || ok {
				t.Errorf("AddrAt(%+v, %d) = %+v, %v, want none", g, n, got, ok)
			}
		}
	}
	for _, g := range noGeometries() {
		for _, n := range []int{-1, 0, 1, 5, 31, math.MinInt, math.MaxInt} {
			if got, ok := impl.AddrAt(g, n); got != (impl.Addr{}) || ok {
				t.Errorf("AddrAt(%+v, %d) = %+v, %v, want none", g, n, got, ok)
			}
		}
	}
}

func TestNoAddress(t *testing.T) {
	for _, g := range allGeometries() {
		banks := g.Groups * g.Banks
		first := impl.Addr{}
		last := impl.Addr{Bank: banks - 1, Row: g.Rows - 1, Col: g.Cols - 1}
		for _, a := range []impl.Addr{first, last} {
			for _, bank := range []int{-1, banks, math.MinInt, math.MaxInt} {
				expectNoAddr(t, g, impl.Addr{Bank: bank, Row: a.Row, Col: a.Col})
			}
			for _, row := range []int{-1, g.Rows, math.MinInt, math.MaxInt} {
				expectNoAddr(t, g, impl.Addr{Bank: a.Bank, Row: row, Col: a.Col})
			}
			for _, col := range []int{-1, g.Cols, math.MinInt, math.MaxInt} {
				expectNoAddr(t, g, impl.Addr{Bank: a.Bank, Row: a.Row, Col: col})
			}
		}
		expectNoAddr(t, g, impl.Addr{Bank: banks, Row: g.Rows, Col: g.Cols})
		expectNoAddr(t, g, impl.Addr{Bank: -1, Row: -1, Col: -1})
		// The formula would give each of these the index of a line.
		expectNoAddr(t, g, impl.Addr{Row: 1, Col: -1})
		expectNoAddr(t, g, impl.Addr{Bank: -1, Row: g.Rows, Col: 0})
		expectNoAddr(t, g, impl.Addr{Col: g.Cols})
	}
}

func TestNoAddressInInvalidGeometry(t *testing.T) {
	addrs := []impl.Addr{{}, {Bank: 1, Row: 1, Col: 1}, {Bank: -1}, {Bank: math.MaxInt, Row: math.MinInt, Col: math.MaxInt}}
	for _, g := range noGeometries() {
		for _, a := range addrs {
			expectNoAddr(t, g, a)
		}
	}
}

func expectNoAddr(t *testing.T, g impl.Geometry, a impl.Addr) {
	t.Helper()
	if impl.AddrOk(g, a) {
		t.Errorf("AddrOk(%+v, %+v) = true", g, a)
	}
	if got := impl.AddrIndex(g, a); got != -1 {
		t.Errorf("AddrIndex(%+v, %+v) = %d, want -1", g, a, got)
	}
}

func allGeometries() []impl.Geometry {
	geometries := []impl.Geometry{}
	for groups := 1; groups <= 2; groups++ {
		for banks := 1; banks <= 4; banks++ {
			for rows := 2; rows <= 16; rows++ {
				for cols := 1; cols <= 8; cols++ {
					geometries = append(geometries, impl.Geometry{Groups: groups, Banks: banks, Rows: rows, Cols: cols})
				}
			}
		}
	}
	return geometries
}

// noGeometries returns the zero Geometry and geometries of which one field is
// not in its range, or all fields are not.
func noGeometries() []impl.Geometry {
	geometries := []impl.Geometry{{}}
	outside := []int{math.MinInt, math.MinInt + 1, -1, 0, 17, 1 << 32, 1<<62 + 1, math.MaxInt}
	valid := []impl.Geometry{
		{Groups: 1, Banks: 1, Rows: 2, Cols: 1},
		{Groups: 2, Banks: 2, Rows: 4, Cols: 2},
		{Groups: 2, Banks: 4, Rows: 16, Cols: 8},
	}
	for _, g := range valid {
		for _, groups := range append(outside, 3) {
			geometries = append(geometries, impl.Geometry{Groups: groups, Banks: g.Banks, Rows: g.Rows, Cols: g.Cols})
		}
		for _, banks := range append(outside, 5) {
			geometries = append(geometries, impl.Geometry{Groups: g.Groups, Banks: banks, Rows: g.Rows, Cols: g.Cols})
		}
		for _, rows := range append(outside, 1) {
			geometries = append(geometries, impl.Geometry{Groups: g.Groups, Banks: g.Banks, Rows: rows, Cols: g.Cols})
		}
		for _, cols := range append(outside, 9) {
			geometries = append(geometries, impl.Geometry{Groups: g.Groups, Banks: g.Banks, Rows: g.Rows, Cols: cols})
		}
	}
	for _, n := range outside {
		geometries = append(geometries, impl.Geometry{Groups: n, Banks: n, Rows: n, Cols: n})
	}
	return geometries
}
