package tests

import (
	"fmt"
	"math"
	"slices"
	"testing"

	"loop.example/g00977/impl"
)

// farLimits are limits that no number of a row exceeds.
var farLimits = impl.Limits{Age: impl.MaxAge, Hits: impl.MaxAge}

func TestArrayNew(t *testing.T) {
	for _, g := range allGeometries() {
		want := blankMemory(g).array()
		got := impl.ArrayNew(g)
		if difference := arrayDifference(got, want); difference != "" || !impl.ArrayOk(g, got) {
			t.Errorf("ArrayNew(%+v) is not valid or not new: %s", g, difference)
		}
		spoilArray(t, got)
		if difference := arrayDifference(impl.ArrayNew(g), want); difference != "" {
			t.Errorf("ArrayNew(%+v) after a change of its first result: %s", g, difference)
		}
		for n := range g.Groups * g.Banks * g.Rows * g.Cols {
			if cell := want.Cells[n]; !impl.WordOk(cell.Symbols) || impl.FormatLine(cell.Symbols) != "00000000000" {
				t.Errorf("line %d of a new array is %+v", n, cell)
			}
		}
	}
	for _, g := range noGeometries() {
		if got := impl.ArrayNew(g); len(got.Cells) != 0 || len(got.Age) != 0 || len(got.Hits) != 0 {
			t.Errorf("ArrayNew(%+v) has %d cells, %d ages and %d counts, want the zero Array", g, len(got.Cells), len(got.Age), len(got.Hits))
		}
	}
}

// Any elements are symbols of a cell, and any numbers up to MaxAge are ages and
// counts, also with poison.
func TestArrayOk(t *testing.T) {
	seed := uint32(1401)
	for _, g := range allGeometries() {
		a := anyArray(&seed, g, farLimits)
		expectArrayOk(t, g, a, true)
		for _, n := range []int{0, 1, impl.MaxAge - 1, impl.MaxAge} {
			for place := range len(a.Age) {
				a.Age[place], a.Hits[len(a.Hits)-1-place] = n, impl.MaxAge-n
			}
			expectArrayOk(t, g, a, true)
		}
		for symbol := range 16 {
			a.Cells[pick(&seed, len(a.Cells))] = impl.Cell{Symbols: slices.Repeat([]int{symbol}, 11), Poison: symbol%2 == 0}
			expectArrayOk(t, g, a, true)
		}
	}
}

// The numbers of cells and of rows decide, not where the rows are.
func TestArrayOkOfOtherGeometries(t *testing.T) {
	for _, g := range arrayGeometries() {
		a := impl.ArrayNew(g)
		for _, other := range allGeometries() {
			rows := other.Groups * other.Banks * other.Rows
			want := rows == g.Groups*g.Banks*g.Rows && rows*other.Cols == g.Groups*g.Banks*g.Rows*g.Cols
			if got := impl.ArrayOk(other, a); got != want {
				t.Errorf("ArrayOk(%+v, a new array of %+v) = %v, want %v", other, g, got, want)
			}
		}
	}
}

func TestInvalidArrays(t *testing.T) {
	for _, g := range arrayGeometries() {
		for _, a := range noArrays(g) {
			expectNoArray(t, g, a)
		}
	}
}

// A number that is not valid is found in every place.
func TestInvalidNumbersInEveryPlace(t *testing.T) {
	for _, g := range arrayGeometries() {
		a := rampArray(g)
		for place := range a.Age {
			for _, n := range append([]int{-1, impl.MaxAge + 1}, farNumbers...) {
				expectArrayOk(t, g, arrayWithAge(a, place, n), false)
				expectArrayOk(t, g, arrayWithHits(a, place, n), false)
			}
		}
		for line, cell := range a.Cells {
			for chip := range 11 {
				for _, symbol := range noElements() {
					expectArrayOk(t, g, arrayWithCell(a, line, impl.Cell{Symbols: withSymbol(cell.Symbols, chip, symbol)}), false)
				}
			}
			for _, cell := range noCells() {
				expectArrayOk(t, g, arrayWithCell(a, line, cell), false)
			}
		}
	}
}

// The arrays have the sizes that the geometry would ask for. A bank of one row,
// which would have no neighbors, is among these geometries.
func TestArraysOfInvalidGeometries(t *testing.T) {
	shaped := 0
	for _, g := range append(noGeometries(), impl.Geometry{Groups: 1, Banks: 1, Rows: 1, Cols: 1}, impl.Geometry{Groups: 1, Banks: 2, Rows: 1, Cols: 3}) {
		expectNoArray(t, g, impl.Array{})
		expectNoArray(t, g, impl.ArrayNew(traceGeometry))
		if min(g.Groups, g.Banks, g.Rows, g.Cols) >= 1 && max(g.Groups, g.Banks, g.Rows, g.Cols) <= 17 {
			expectNoArray(t, g, rampArray(g))
			shaped++
		}
	}
	if shaped < 10 {
		t.Errorf("%d of the geometries have a shape", shaped)
	}
}

func TestTimePasses(t *testing.T) {
	const most = impl.MaxAge
	cases := []struct{ age, n, want int }{
		{0, 0, 0}, {0, 1, 1}, {1, 1, 2}, {7, 0, 7}, {7, 5, 12}, {0, most - 1, most - 1}, {0, most, most}, {1, most, most}, {most, most, most},
		{most - 1, 0, most - 1}, {most - 1, 1, most}, {most - 1, 2, most}, {most - 1, most, most}, {most, 0, most}, {most, 1, most},
		{most - 5, 4, most - 1}, {most - 5, 5, most}, {most - 5, 6, most}, {1, most - 1, most}, {2, most - 1, most}, {50000, 50000, most}, {50000, 49999, most - 1},
	}
	for _, g := range arrayGeometries() {
		for _, c := range cases {
			// One row has another age than all others, which all have hits.
			for place := range g.Groups * g.Banks * g.Rows {
				a := rampArray(g)
				want := rampArray(g)
				for i := range a.Age {
					want.Age[i] = min(a.Age[i]+c.n, most)
				}
				a.Age[place], want.Age[place] = c.age, c.want
				expectTimePasses(t, g, a, c.n, want)
			}
		}
	}
}

// All rows of all geometries grow older, and nothing else changes.
func TestTimePassesForEveryRow(t *testing.T) {
	for _, g := range allGeometries() {
		want := rampArray(g)
		for i := range want.Age {
			want.Age[i] += 1000
		}
		expectTimePasses(t, g, rampArray(g), 1000, want)
	}
}

func TestTimePassesInParts(t *testing.T) {
	seed := uint32(1402)
	for _, g := range arrayGeometries() {
		for range 100 {
			a := anyArray(&seed, g, farLimits)
			n, m := pick(&seed, 50001), pick(&seed, 50001)
			parts := impl.TimePasses(g, impl.TimePasses(g, a, n), m)
			if difference := arrayDifference(parts, impl.TimePasses(g, a, n+m)); difference != "" {
				t.Errorf("after %d and %d cycles: %s", n, m, difference)
			}
		}
	}
}

func TestTimePassesOfInvalidTimes(t *testing.T) {
	for _, g := range arrayGeometries() {
		for _, n := range append([]int{-1, -2, -impl.MaxAge, impl.MaxAge + 1, impl.MaxAge + 2, math.MaxInt - impl.MaxAge, math.MinInt + impl.MaxAge}, farNumbers...) {
			expectTimePasses(t, g, rampArray(g), n, rampArray(g))
		}
	}
}

func TestRowDecayed(t *testing.T) {
	const most = impl.MaxAge
	cases := []struct {
		limits    impl.Limits
		age, hits int
		want      bool
	}{
		{impl.Limits{Age: 10, Hits: 5}, 0, 0, false}, {impl.Limits{Age: 10, Hits: 5}, 10, 5, false}, {impl.Limits{Age: 10, Hits: 5}, 11, 5, true},
		{impl.Limits{Age: 10, Hits: 5}, 10, 6, true}, {impl.Limits{Age: 10, Hits: 5}, 11, 6, true}, {impl.Limits{Age: 10, Hits: 5}, 9, 4, false},
		{impl.Limits{Age: 10, Hits: 5}, 11, 0, true}, {impl.Limits{Age: 10, Hits: 5}, 0, 6, true}, {impl.Limits{Age: 10, Hits: 5}, 6, 0, false},
		{impl.Limits{Age: 5, Hits: 10}, 5, 10, false}, {impl.Limits{Age: 5, Hits: 10}, 6, 0, true}, {impl.Limits{Age: 5, Hits: 10}, 0, 6, false},
		{impl.Limits{}, 0, 0, false}, {impl.Limits{}, 1, 0, true}, {impl.Limits{}, 0, 1, true}, {impl.Limits{}, 1, 1, true},
		{impl.Limits{Age: -1}, 0, 0, true}, {impl.Limits{Hits: -1}, 0, 0, true}, {impl.Limits{Age: -1, Hits: most}, 0, 0, true}, {impl.Limits{Age: most, Hits: -1}, 0, 0, true},
		{impl.Limits{Age: -5, Hits: -5}, 0, 0, true}, {impl.Limits{Age: math.MinInt, Hits: most}, 0, 0, true}, {impl.Limits{Age: most, Hits: math.MinInt}, 0, 0, true},
		{impl.Limits{Age: most - 1, Hits: most}, most - 1, most, false}, {impl.Limits{Age: most - 1, Hits: most}, most, most, true},
		{impl.Limits{Age: most, Hits: most - 1}, most, most - 1, false}, {impl.Limits{Age: most, Hits: most - 1}, most, most, true},
		{impl.Limits{Age: most, Hits: most}, most, most, false}, {impl.Limits{Age: math.MaxInt, Hits: math.MaxInt}, most, most, false},
		{impl.Limits{Age: math.MaxInt}, most, 1, true}, {impl.Limits{Hits: math.MaxInt}, 1, most, true},
	}
	for _, g := range arrayGeometries() {
		for _, c := range cases {
			for place := range g.Groups * g.Banks * g.Rows {
				// All other rows have the opposite state.
				age, hits := most, most
				if c.want {
					age, hits = 0, 0
				}
				a := impl.ArrayNew(g)
				for i := range a.Age {
					a.Age[i], a.Hits[i] = age, hits
				}
				a.Age[place], a.Hits[place] = c.age, c.hits
				expectDecayed(t, g, c.limits, a, place/g.Rows, place%g.Rows, c.want)
			}
		}
	}
}

func TestRowDecayedOfAnyArrays(t *testing.T) {
	seed := uint32(1403)
	for _, g := range allGeometries() {
		l := impl.Limits{Age: 1 + pick(&seed, 100), Hits: 1 + pick(&seed, 20)}
		a := anyArray(&seed, g, l)
		for place := range a.Age {
			want := a.Age[place] > l.Age || a.Hits[place] > l.Hits
			if got := impl.RowDecayed(g, l, a, place/g.Rows, place%g.Rows); got != want {
				t.Errorf("RowDecayed(%+v, %+v) of age %d and %d hits = %v, want %v", g, l, a.Age[place], a.Hits[place], got, want)
			}
		}
	}
}

func TestMissingRows(t *testing.T) {
	for _, g := range arrayGeometries() {
		for _, l := range []impl.Limits{{}, {Age: -1, Hits: -1}, farLimits, {Age: math.MinInt, Hits: math.MinInt}} {
			a := rampArray(g)
			for _, at := range addrsOutside(g) {
				if at.Bank < 0 || at.Bank >= g.Groups*g.Banks || at.Row < 0 || at.Row >= g.Rows {
					expectDecayed(t, g, l, a, at.Bank, at.Row, false)
					expectSensed(t, g, l, a, at.Bank, at.Row, a)
				}
				if at.Bank < 0 || at.Bank >= g.Groups*g.Banks {
					expectBankSensed(t, g, l, a, at.Bank, a)
				}
			}
		}
	}
}

// The banks have four rows of one column each.
func TestSenseRowExamples(t *testing.T) {
	const most = impl.MaxAge
	g := impl.Geometry{Groups: 1, Banks: 3, Rows: 4, Cols: 1}
	cases := []struct {
		bank, row  int
		hits, want []int
	}{
		{0, 0, []int{1, 2, 3, 4, 5, 6, 7, 8, 9, 10, 11, 12}, []int{0, 3, 3, 4, 5, 6, 7, 8, 9, 10, 11, 12}},
		{0, 3, []int{1, 2, 3, 4, 5, 6, 7, 8, 9, 10, 11, 12}, []int{1, 2, 4, 0, 5, 6, 7, 8, 9, 10, 11, 12}},
		{1, 0, []int{1, 2, 3, 4, 5, 6, 7, 8, 9, 10, 11, 12}, []int{1, 2, 3, 4, 0, 7, 7, 8, 9, 10, 11, 12}},
		{1, 1, []int{1, 2, 3, 4, 5, 6, 7, 8, 9, 10, 11, 12}, []int{1, 2, 3, 4, 6, 0, 8, 8, 9, 10, 11, 12}},
		{1, 2, []int{1, 2, 3, 4, 5, 6, 7, 8, 9, 10, 11, 12}, []int{1, 2, 3, 4, 5, 7, 0, 9, 9, 10, 11, 12}},
		{1, 3, []int{1, 2, 3, 4, 5, 6, 7, 8, 9, 10, 11, 12}, []int{1, 2, 3, 4, 5, 6, 8, 0, 9, 10, 11, 12}},
		{2, 0, []int{1, 2, 3, 4, 5, 6, 7, 8, 9, 10, 11, 12}, []int{1, 2, 3, 4, 5, 6, 7, 8, 0, 11, 11, 12}},
		{2, 3, []int{1, 2, 3, 4, 5, 6, 7, 8, 9, 10, 11, 12}, []int{1, 2, 3, 4, 5, 6, 7, 8, 9, 10, 12, 0}},
		{1, 1, make([]int, 12), []int{0, 0, 0, 0, 1, 0, 1, 0, 0, 0, 0, 0}},
		{1, 2, []int{0, 0, 0, 0, 0, most - 1, most, most, 0, 0, 0, 0}, []int{0, 0, 0, 0, 0, most, 0, most, 0, 0, 0, 0}},
		{1, 0, []int{0, 0, 0, most, most, most - 2, 0, 0, 0, 0, 0, 0}, []int{0, 0, 0, most, 0, most - 1, 0, 0, 0, 0, 0, 0}},
		{0, 3, []int{0, 0, most, 0, most, 0, 0, 0, 0, 0, 0, 0}, []int{0, 0, most, 0, most, 0, 0, 0, 0, 0, 0, 0}},
	}
	for _, c := range cases {
		a := rampArray(g)
		want := rampArray(g)
		a.Hits, want.Hits = c.hits, c.want
		want.Age[4*c.bank+c.row] = 0
		expectSensed(t, g, farLimits, a, c.bank, c.row, want)
	}
}

// In each bank of each geometry the rows at its ends and beside them are sensed,
// with limits that some rows exceed.
func TestSenseRowOfEveryGeometry(t *testing.T) {
	seed := uint32(1404)
	decayed := [2]int{}
	for _, g := range allGeometries() {
		l := impl.Limits{Age: 1 + pick(&seed, 100), Hits: 1 + pick(&seed, 20)}
		m := memoryOf(g, anyArray(&seed, g, l))
		banks := g.Groups * g.Banks
		for _, bank := range []int{0, banks / 2, banks - 1} {
			for _, row := range []int{0, 1, pick(&seed, g.Rows), g.Rows - 2, g.Rows - 1} {
				next := m.copied()
				decayed[intOf(next.sense(l, bank, row))]++
				expectSensed(t, g, l, m.array(), bank, row, next.array())
			}
		}
	}
	if min(decayed[0], decayed[1]) < 1000 {
		t.Errorf("%d rows had not decayed, and %d had", decayed[0], decayed[1])
	}
}

// Every row is sensed, and only what the promise names has changed.
func TestSensingCountsForNeighborsOnly(t *testing.T) {
	seed := uint32(1405)
	for _, g := range arrayGeometries() {
		a := anyArray(&seed, g, impl.Limits{Age: 20, Hits: 20})
		for sensed := range a.Age {
			next := impl.SenseRow(g, farLimits, a, sensed/g.Rows, sensed%g.Rows)
			for place := range a.Age {
				age, hits := a.Age[place], a.Hits[place]
				if place == sensed {
					age, hits = 0, 0
				} else if place/g.Rows == sensed/g.Rows && (place == sensed-1 || place == sensed+1) {
					hits++
				}
				if next.Age[place] != age || next.Hits[place] != min(hits, impl.MaxAge) {
					t.Errorf("%+v: when row %d is sensed, row %d has age %d and %d hits, want %d and %d", g, sensed, place, next.Age[place], next.Hits[place], age, hits)
				}
			}
			next.Age, next.Hits = a.Age, a.Hits
			if difference := arrayDifference(next, a); difference != "" {
				t.Errorf("%+v: sensing row %d, which has not decayed, changed a cell: %s", g, sensed, difference)
			}
		}
	}
}

func TestDecayedSymbols(t *testing.T) {
	cases := []struct{ before, after []int }{
		{[]int{0, 0, 0, 0, 0, 0, 0, 0, 0, 0, 0}, []int{5, 10, 0, 0, 0, 0, 0, 0, 0, 0, 0}},
		{[]int{0, 1, 2, 3, 4, 5, 6, 7, 8, 9, 10}, []int{5, 11, 2, 3, 4, 5, 6, 7, 8, 9, 10}},
		{[]int{15, 15, 15, 15, 15, 15, 15, 15, 15, 15, 15}, []int{10, 5, 15, 15, 15, 15, 15, 15, 15, 15, 15}},
		{[]int{5, 10, 5, 10, 5, 10, 5, 10, 5, 10, 5}, []int{0, 0, 5, 10, 5, 10, 5, 10, 5, 10, 5}},
		{[]int{10, 5, 0, 9, 1, 2, 3, 4, 5, 6, 7}, []int{15, 15, 0, 9, 1, 2, 3, 4, 5, 6, 7}},
		{[]int{1, 2, 3, 4, 5, 6, 7, 8, 9, 10, 11}, []int{4, 8, 3, 4, 5, 6, 7, 8, 9, 10, 11}},
		{[]int{14, 9, 12, 12, 11, 11, 8, 8, 0, 0, 15}, []int{11, 3, 12, 12, 11, 11, 8, 8, 0, 0, 15}},
	}
	g := impl.Geometry{Groups: 2, Banks: 1, Rows: 3, Cols: 2}
	l := impl.Limits{Age: 99, Hits: 7}
	for _, c := range cases {
		for place := range 6 {
			for _, poison := range []bool{false, true} {
				// The whole array has the same symbols, and one row has decayed.
				m := blankMemory(g)
				for at := range m.cells {
					m.cells[at] = impl.Cell{Symbols: c.before, Poison: poison && at.Col == 1}
				}
				a, want := m.array(), m.array()
				a.Age[place] = 100
				for line := 2 * place; line <= 2*place+1; line++ {
					want.Cells[line].Symbols = c.after
				}
				for _, beside := range []int{place - 1, place + 1} {
					if beside >= 0 && beside < 6 && beside/3 == place/3 {
						want.Hits[beside] = 1
					}
				}
				expectSensed(t, g, l, a, place/3, place%3, want)
				a.Age[place], a.Hits[place] = 0, 8
				expectSensed(t, g, l, a, place/3, place%3, want)
			}
		}
	}
}

// The limits are those of the row itself, and are compared before its numbers
// become 0.
func TestSenseRowAtLimits(t *testing.T) {
	const most = impl.MaxAge
	for _, g := range arrayGeometries() {
		for _, l := range []impl.Limits{{}, {Age: 1}, {Hits: 1}, {Age: 10, Hits: 5}, {Age: 5, Hits: 10}, {Age: most - 1, Hits: most - 1}, {Age: most, Hits: most - 1}, {Age: most - 1, Hits: most}} {
			for _, over := range [][2]int{{0, 0}, {1, 0}, {0, 1}, {1, 1}} {
				age, hits := min(l.Age+over[0], most), min(l.Hits+over[1], most)
				for place := range g.Groups * g.Banks * g.Rows {
					a := rampArray(g)
					a.Age[place], a.Hits[place] = age, hits
					m := memoryOf(g, a)
					if got, want := m.sense(l, place/g.Rows, place%g.Rows), age == l.Age+1 || hits == l.Hits+1; got != want {
						t.Errorf("a row of age %d and %d hits has decayed: %v, want %v", age, hits, got, want)
					}
					expectSensed(t, g, l, a, place/g.Rows, place%g.Rows, m.array())
				}
			}
		}
	}
}

func TestDecayedRowsAreUncorrectable(t *testing.T) {
	g := impl.Geometry{Groups: 1, Banks: 1, Rows: 3, Cols: 1}
	l := impl.Limits{Age: 10, Hits: 5}
	at := impl.Addr{Row: 1}
	for _, x := range append(sampleWords(), someLines()...) {
		a := impl.StoreCell(g, impl.ArrayNew(g), at, impl.Cell{Symbols: impl.EncodeLine(x)})
		expectLineAt(t, impl.SenseRow(g, l, impl.TimePasses(g, a, 10), 0, 1), 1, x, impl.EcClean, -1)
		expectLineAt(t, impl.SenseRow(g, l, impl.TimePasses(g, a, 11), 0, 1), 1, 0, impl.EcLost, -1)
		for _, row := range []int{0, 2} {
			disturbed := a
			for range 5 {
				disturbed = impl.SenseRow(g, l, disturbed, 0, row)
			}
			expectLineAt(t, impl.SenseRow(g, l, disturbed, 0, 1), 1, x, impl.EcClean, -1)
			disturbed = impl.SenseRow(g, l, disturbed, 0, 2-row)
			expectLineAt(t, impl.SenseRow(g, l, disturbed, 0, 1), 1, 0, impl.EcLost, -1)
		}
	}
}

// The second sensing finds a row that is new, unless a limit is below 0.
func TestSecondSensingOfADecayedRow(t *testing.T) {
	seed := uint32(1406)
	for _, g := range arrayGeometries() {
		for range 20 {
			m := memoryOf(g, anyArray(&seed, g, impl.Limits{Age: 30, Hits: 3}))
			bank, row := pick(&seed, g.Groups*g.Banks), pick(&seed, g.Rows)
			m.age[[2]int{bank, row}] = 31
			for _, l := range []impl.Limits{{Age: 30, Hits: 3}, {Age: 30}, {}} {
				once := impl.SenseRow(g, l, m.array(), bank, row)
				twice := impl.SenseRow(g, l, once, bank, row)
				expectCells(t, twice.Cells, once.Cells)
				for col := range g.Cols {
					line := (bank*g.Rows+row)*g.Cols + col
					want := changed(m.array().Cells[line].Symbols, []int{0, 1}, []int{5, 10})
					expectCells(t, twice.Cells[line:line+1], []impl.Cell{{Symbols: want, Poison: m.array().Cells[line].Poison}})
				}
			}
			for _, l := range []impl.Limits{{Age: -1, Hits: 3}, {Age: 30, Hits: -1}, {Age: math.MinInt, Hits: math.MinInt}} {
				once := impl.SenseRow(g, l, m.array(), bank, row)
				expectCells(t, impl.SenseRow(g, l, once, bank, row).Cells, m.array().Cells)
			}
		}
	}
}

// The columns of the table are those of one bank of four rows between two others.
func TestSenseBankExamples(t *testing.T) {
	const most = impl.MaxAge
	g := impl.Geometry{Groups: 1, Banks: 3, Rows: 4, Cols: 2}
	cases := []struct {
		limits    impl.Limits
		age, hits []int
		decayed   []int
	}{
		{impl.Limits{Age: 100, Hits: 3}, []int{0, 0, 0, 0}, []int{0, 0, 0, 0}, nil},
		{impl.Limits{Age: 100, Hits: 1}, []int{0, 0, 0, 0}, []int{0, 0, 0, 0}, nil},
		{impl.Limits{Age: 100}, []int{0, 0, 0, 0}, []int{0, 0, 0, 0}, []int{1, 2, 3}},
		// Row 1 has as many hits as the limit, until row 0 is sensed.
		{impl.Limits{Age: 100, Hits: 3}, []int{0, 0, 0, 0}, []int{0, 3, 2, 3}, []int{1, 3}},
		{impl.Limits{Age: 100, Hits: 3}, []int{0, 0, 0, 0}, []int{3, 2, 2, 2}, nil},
		{impl.Limits{Age: 100, Hits: 3}, []int{0, 0, 0, 0}, []int{4, 2, 2, 2}, []int{0}},
		{impl.Limits{Age: 100, Hits: 3}, []int{0, 0, 0, 0}, []int{2, 2, 2, 3}, []int{3}},
		{impl.Limits{Age: 100, Hits: 3}, []int{100, 101, 100, 99}, []int{0, 0, 0, 0}, []int{1}},
		{impl.Limits{Age: 100, Hits: 3}, []int{101, 100, 99, 101}, []int{0, 0, 0, 0}, []int{0, 3}},
		{impl.Limits{Age: 100, Hits: most}, []int{0, 0, 0, 0}, []int{most, most, most, most}, nil},
		{impl.Limits{Age: 100, Hits: most - 1}, []int{0, 0, 0, 0}, []int{most - 1, most - 1, most - 2, most}, []int{1, 3}},
		{impl.Limits{Age: -1, Hits: 3}, []int{0, 0, 0, 0}, []int{0, 0, 0, 0}, []int{0, 1, 2, 3}},
		{impl.Limits{Age: 100, Hits: -1}, []int{0, 0, 0, 0}, []int{0, 0, 0, 0}, []int{0, 1, 2, 3}},
	}
	for _, c := range cases {
		for bank := range 3 {
			a, want := rampArray(g), rampArray(g)
			copy(a.Age[4*bank:], c.age)
			copy(a.Hits[4*bank:], c.hits)
			copy(want.Age[4*bank:], []int{0, 0, 0, 0})
			copy(want.Hits[4*bank:], []int{1, 1, 1, 0})
			for _, row := range c.decayed {
				for line := 8*bank + 2*row; line <= 8*bank+2*row+1; line++ {
					want.Cells[line].Symbols = changed(want.Cells[line].Symbols, []int{0, 1}, []int{5, 10})
				}
			}
			expectBankSensed(t, g, c.limits, a, bank, want)
		}
	}
}

// A bank is sensed as its rows are, one after another from row 0 on.
func TestSenseBankOfEveryGeometry(t *testing.T) {
	seed := uint32(1407)
	for _, g := range allGeometries() {
		l := impl.Limits{Age: 1 + pick(&seed, 100), Hits: 1 + pick(&seed, 20)}
		a := anyArray(&seed, g, l)
		for _, bank := range []int{0, pick(&seed, g.Groups*g.Banks), g.Groups*g.Banks - 1} {
			m, rows := memoryOf(g, a), a
			for row := range g.Rows {
				m.sense(l, bank, row)
				rows = impl.SenseRow(g, l, rows, bank, row)
			}
			expectBankSensed(t, g, l, a, bank, m.array())
			if difference := arrayDifference(rows, m.array()); difference != "" {
				t.Errorf("%+v: sensing the rows of bank %d: %s", g, bank, difference)
			}
		}
	}
}

func TestFlipSymbol(t *testing.T) {
	for _, g := range arrayGeometries() {
		a := rampArray(g)
		for line := range a.Cells {
			for chip := range 11 {
				for _, x := range []int{0, 1, 2, 4, 8, 9, 15} {
					want := arrayWithCell(a, line, impl.Cell{Symbols: changed(a.Cells[line].Symbols, []int{chip}, []int{x}), Poison: a.Cells[line].Poison})
					expectFlipped(t, g, a, addrsInOrder(g, 2)[line], chip, x, want)
				}
			}
		}
	}
}

func TestFlipSymbolOfEveryElement(t *testing.T) {
	g := impl.Geometry{Groups: 1, Banks: 1, Rows: 2, Cols: 1}
	at := impl.Addr{Row: 1}
	for symbol := range 16 {
		for x := range 16 {
			a := arrayWithCell(impl.ArrayNew(g), 1, impl.Cell{Symbols: slices.Repeat([]int{symbol}, 11), Poison: symbol > 7})
			for _, chip := range []int{0, 5, 10} {
				want := arrayWithCell(a, 1, impl.Cell{Symbols: withSymbol(a.Cells[1].Symbols, chip, polynomialSum(symbol, x)), Poison: symbol > 7})
				expectFlipped(t, g, a, at, chip, x, want)
				expectFlipped(t, g, want, at, chip, x, a)
			}
		}
	}
}

func TestFlipSymbolOfInvalidArguments(t *testing.T) {
	for _, g := range arrayGeometries() {
		a := rampArray(g)
		last := impl.Addr{Bank: g.Groups*g.Banks - 1, Row: g.Rows - 1, Col: g.Cols - 1}
		for _, at := range []impl.Addr{{}, last} {
			for _, x := range noElements() {
				for _, chip := range []int{-1, 0, 10, 11} {
					expectFlipped(t, g, a, at, chip, x, a)
				}
			}
			for _, chip := range append([]int{-1, -2, -11, 11, 12, 22}, farNumbers...) {
				for _, x := range []int{0, 1, 15, 16} {
					expectFlipped(t, g, a, at, chip, x, a)
				}
			}
		}
		for _, at := range addrsOutside(g) {
			expectFlipped(t, g, a, at, 0, 15, a)
			expectFlipped(t, g, a, at, 10, 1, a)
		}
	}
}

// One wrong chip is corrected wherever it is, since FlipSymbol changes only one
// symbol.
func TestFlippedLinesAreCorrected(t *testing.T) {
	g := impl.Geometry{Groups: 1, Banks: 2, Rows: 2, Cols: 2}
	for line, at := range addrsInOrder(g, 2) {
		a := impl.StoreCell(g, impl.ArrayNew(g), at, impl.Cell{Symbols: impl.EncodeLine(305419896)})
		for chip := range 11 {
			for x := 1; x < 16; x++ {
				expectLineAt(t, impl.FlipSymbol(g, a, at, chip, x), line, 305419896, impl.EcFixed, chip)
			}
		}
	}
}

func TestLoadCell(t *testing.T) {
	for _, g := range arrayGeometries() {
		a := rampArray(g)
		for line, at := range addrsInOrder(g, 2) {
			expectLoaded(t, g, a, at, a.Cells[line], true)
		}
		for _, at := range addrsOutside(g) {
			expectLoaded(t, g, a, at, impl.Cell{}, false)
		}
	}
}

func TestStoreCell(t *testing.T) {
	seed := uint32(1408)
	for _, g := range arrayGeometries() {
		a := rampArray(g)
		for line, at := range addrsInOrder(g, 2) {
			for _, c := range []impl.Cell{
				{Symbols: impl.EncodeLine(0)}, {Symbols: impl.EncodeLine(0), Poison: true}, {Symbols: impl.EncodeLine(impl.MaxWord), Poison: true},
				{Symbols: slices.Repeat([]int{15}, 11)}, {Symbols: anySymbols(&seed, 11)}, {Symbols: anySymbols(&seed, 11), Poison: true},
			} {
				stored := arrayWithCell(a, line, c)
				expectStored(t, g, a, at, c, stored)
				expectLoaded(t, g, impl.StoreCell(g, a, at, c), at, c, true)
				expectStored(t, g, stored, at, a.Cells[line], a)
			}
		}
	}
}

func TestStoreCellOfInvalidArguments(t *testing.T) {
	for _, g := range arrayGeometries() {
		a := rampArray(g)
		for _, at := range addrsOutside(g) {
			expectStored(t, g, a, at, impl.Cell{Symbols: impl.EncodeLine(1)}, a)
			expectStored(t, g, a, at, impl.Cell{Symbols: impl.EncodeLine(1), Poison: true}, a)
		}
		for _, at := range []impl.Addr{{}, {Bank: g.Groups*g.Banks - 1, Row: g.Rows - 1, Col: g.Cols - 1}} {
			for _, c := range noCells() {
				expectStored(t, g, a, at, c, a)
			}
		}
	}
}

// A loaded cell and a stored one are not parts of the array.
func TestCellsAreCopied(t *testing.T) {
	g := impl.Geometry{Groups: 1, Banks: 1, Rows: 2, Cols: 2}
	at := impl.Addr{Row: 1, Col: 1}
	a := rampArray(g)
	loaded, _ := impl.LoadCell(g, a, at)
	spoilList(loaded.Symbols, -5)
	if difference := arrayDifference(a, rampArray(g)); difference != "" {
		t.Errorf("a change of a loaded cell reached the array: %s", difference)
	}
	whole := append(impl.EncodeLine(99), 61, 62, 63)
	c := impl.Cell{Symbols: whole[:11], Poison: true}
	stored := impl.StoreCell(g, a, at, c)
	spoilList(stored.Cells[3].Symbols, -5)
	if !slices.Equal(whole, append(impl.EncodeLine(99), 61, 62, 63)) {
		t.Errorf("a change of the array reached the stored cell, which is %v", whole)
	}
	stored = impl.StoreCell(g, a, at, c)
	spoilList(whole, -6)
	if difference := arrayDifference(stored, arrayWithCell(a, 3, impl.Cell{Symbols: impl.EncodeLine(99), Poison: true})); difference != "" {
		t.Errorf("a change of the stored cell reached the array: %s", difference)
	}
}

// Long sequences of all functions are compared with a model that has no order of
// cells and rows.
func TestArraysOverTime(t *testing.T) {
	seed := uint32(1409)
	for _, g := range arrayGeometries() {
		for range 4 {
			l := impl.Limits{Age: 50 + pick(&seed, 100), Hits: 2 + pick(&seed, 6)}
			m, a := blankMemory(g), impl.ArrayNew(g)
			for range 300 {
				at := addrsInOrder(g, 2)[pick(&seed, g.Groups*g.Banks*g.Rows*g.Cols)]
				a = m.stepBoth(&seed, l, a, at)
				if difference := arrayDifference(a, m.array()); difference != "" {
					t.Fatalf("%+v, %+v: %s", g, l, difference)
				}
				decayed := m.age[[2]int{at.Bank, at.Row}] > l.Age || m.hits[[2]int{at.Bank, at.Row}] > l.Hits
				if got := impl.RowDecayed(g, l, a, at.Bank, at.Row); got != decayed || !impl.ArrayOk(g, a) {
					t.Fatalf("%+v, %+v: row %d of bank %d has decayed: %v, want %v, or the array is not valid", g, l, at.Row, at.Bank, got, decayed)
				}
			}
		}
	}
}

// stepBoth performs the same step, chosen at random, on the model and the array.
func (m memoryModel) stepBoth(seed *uint32, l impl.Limits, a impl.Array, at impl.Addr) impl.Array {
	switch pick(seed, 8) {
	case 0:
		n := pick(seed, 60)
		m.wait(n)
		return impl.TimePasses(m.g, a, n)
	case 1:
		for row := range m.g.Rows {
			m.sense(l, at.Bank, row)
		}
		return impl.SenseBank(m.g, l, a, at.Bank)
	case 2:
		chip, x := pick(seed, 11), pick(seed, 16)
		m.cells[at] = impl.Cell{Symbols: changed(m.cells[at].Symbols, []int{chip}, []int{x}), Poison: m.cells[at].Poison}
		return impl.FlipSymbol(m.g, a, at, chip, x)
	case 3:
		c := impl.Cell{Symbols: anySymbols(seed, 11), Poison: pick(seed, 2) == 0}
		m.cells[at] = c
		return impl.StoreCell(m.g, a, at, c)
	}
	m.sense(l, at.Bank, at.Row)
	return impl.SenseRow(m.g, l, a, at.Bank, at.Row)
}

// A memoryModel keeps cells by their address, and the numbers of rows by bank
// and row. It is written from the text of the chapter.
type memoryModel struct {
	g         impl.Geometry
	cells     map[impl.Addr]impl.Cell
	age, hits map[[2]int]int
}

func blankMemory(g impl.Geometry) memoryModel {
	m := memoryModel{g: g, cells: map[impl.Addr]impl.Cell{}, age: map[[2]int]int{}, hits: map[[2]int]int{}}
	for bank := range g.Groups * g.Banks {
		for row := range g.Rows {
			m.age[[2]int{bank, row}], m.hits[[2]int{bank, row}] = 0, 0
			for col := range g.Cols {
				m.cells[impl.Addr{Bank: bank, Row: row, Col: col}] = impl.Cell{Symbols: make([]int, 11)}
			}
		}
	}
	return m
}

func memoryOf(g impl.Geometry, a impl.Array) memoryModel {
	m := blankMemory(g)
	for at := range m.cells {
		m.cells[at] = a.Cells[(at.Bank*g.Rows+at.Row)*g.Cols+at.Col]
	}
	for row := range m.age {
		m.age[row], m.hits[row] = a.Age[row[0]*g.Rows+row[1]], a.Hits[row[0]*g.Rows+row[1]]
	}
	return m
}

func (m memoryModel) copied() memoryModel { return memoryOf(m.g, m.array()) }

func (m memoryModel) array() impl.Array {
	a := impl.Array{}
	for bank := range m.g.Groups * m.g.Banks {
		for row := range m.g.Rows {
			a.Age = append(a.Age, m.age[[2]int{bank, row}])
			a.Hits = append(a.Hits, m.hits[[2]int{bank, row}])
			for col := range m.g.Cols {
				c := m.cells[impl.Addr{Bank: bank, Row: row, Col: col}]
				a.Cells = append(a.Cells, impl.Cell{Symbols: slices.Clone(c.Symbols), Poison: c.Poison})
			}
		}
	}
	return a
}

func (m memoryModel) wait(n int) {
	for row := range m.age {
		m.age[row] = min(m.age[row]+n, 100000)
	}
}

// sense returns whether the row had decayed.
func (m memoryModel) sense(l impl.Limits, bank, row int) bool {
	decayed := m.age[[2]int{bank, row}] > l.Age || m.hits[[2]int{bank, row}] > l.Hits
	for col := range m.g.Cols {
		at := impl.Addr{Bank: bank, Row: row, Col: col}
		if c := m.cells[at]; decayed {
			m.cells[at] = impl.Cell{Symbols: changed(c.Symbols, []int{0, 1}, []int{5, 10}), Poison: c.Poison}
		}
	}
	m.age[[2]int{bank, row}], m.hits[[2]int{bank, row}] = 0, 0
	for _, beside := range [][2]int{{bank, row - 1}, {bank, row + 1}} {
		if n, there := m.hits[beside]; there {
			m.hits[beside] = min(n+1, 100000)
		}
	}
	return decayed
}

func expectArrayOk(t *testing.T, g impl.Geometry, a impl.Array, want bool) {
	t.Helper()
	if got := impl.ArrayOk(g, a); got != want {
		t.Errorf("ArrayOk(%+v, %s) = %v, want %v", g, arrayText(a), got, want)
	}
}

func expectTimePasses(t *testing.T, g impl.Geometry, a impl.Array, n int, want impl.Array) {
	t.Helper()
	expectArray(t, fmt.Sprintf("TimePasses(%+v, n %d)", g, n), a, want, func(a impl.Array) impl.Array { return impl.TimePasses(g, a, n) })
}

func expectSensed(t *testing.T, g impl.Geometry, l impl.Limits, a impl.Array, bank, row int, want impl.Array) {
	t.Helper()
	expectArray(t, fmt.Sprintf("SenseRow(%+v, %+v, bank %d, row %d)", g, l, bank, row), a, want, func(a impl.Array) impl.Array { return impl.SenseRow(g, l, a, bank, row) })
}

func expectBankSensed(t *testing.T, g impl.Geometry, l impl.Limits, a impl.Array, bank int, want impl.Array) {
	t.Helper()
	expectArray(t, fmt.Sprintf("SenseBank(%+v, %+v, bank %d)", g, l, bank), a, want, func(a impl.Array) impl.Array { return impl.SenseBank(g, l, a, bank) })
}

func expectFlipped(t *testing.T, g impl.Geometry, a impl.Array, at impl.Addr, chip, x int, want impl.Array) {
	t.Helper()
	expectArray(t, fmt.Sprintf("FlipSymbol(%+v, %+v, chip %d, x %d)", g, at, chip, x), a, want, func(a impl.Array) impl.Array { return impl.FlipSymbol(g, a, at, chip, x) })
}

func expectStored(t *testing.T, g impl.Geometry, a impl.Array, at impl.Addr, c impl.Cell, want impl.Array) {
	t.Helper()
	expectArray(t, fmt.Sprintf("StoreCell(%+v, %+v, %+v)", g, at, c), a, want, func(a impl.Array) impl.Array { return impl.StoreCell(g, a, at, c) })
}

func expectDecayed(t *testing.T, g impl.Geometry, l impl.Limits, a impl.Array, bank, row int, want bool) {
	t.Helper()
	expectArray(t, fmt.Sprintf("RowDecayed(%+v, %+v, bank %d, row %d)", g, l, bank, row), a, impl.Array{}, func(a impl.Array) impl.Array {
		if got := impl.RowDecayed(g, l, a, bank, row); got != want {
			t.Errorf("RowDecayed(%+v, %+v, %s, %d, %d) = %v, want %v", g, l, arrayText(a), bank, row, got, want)
		}
		return impl.Array{}
	})
}

func expectLoaded(t *testing.T, g impl.Geometry, a impl.Array, at impl.Addr, want impl.Cell, ok bool) {
	t.Helper()
	expectArray(t, fmt.Sprintf("LoadCell(%+v, %+v)", g, at), a, impl.Array{Cells: []impl.Cell{want}}, func(a impl.Array) impl.Array {
		c, there := impl.LoadCell(g, a, at)
		if there != ok {
			t.Errorf("LoadCell(%+v, %+v) has returned %v, want %v", g, at, there, ok)
		}
		return impl.Array{Cells: []impl.Cell{c}}
	})
}

// expectNoArray passes an array that is not valid to all functions, with
// arguments that are valid for some array, and others that are not.
func expectNoArray(t *testing.T, g impl.Geometry, a impl.Array) {
	t.Helper()
	expectArrayOk(t, g, a, false)
	for _, n := range []int{0, 1, impl.MaxAge, -1} {
		expectTimePasses(t, g, a, n, a)
	}
	l := impl.Limits{Age: -1, Hits: -1}
	for _, at := range []impl.Addr{{}, {Row: 1}, {Bank: -1, Row: -1, Col: -1}} {
		expectDecayed(t, g, l, a, at.Bank, at.Row, false)
		expectSensed(t, g, l, a, at.Bank, at.Row, a)
		expectBankSensed(t, g, l, a, at.Bank, a)
		expectFlipped(t, g, a, at, 0, 1, a)
		expectLoaded(t, g, a, at, impl.Cell{}, false)
		expectStored(t, g, a, at, impl.Cell{Symbols: impl.EncodeLine(3)}, a)
	}
}

// expectArray passes a copy of the array with some capacity behind its slices,
// and checks the result, that its slices share no memory, and that neither the
// call nor a change of the result reaches the argument.
func expectArray(t *testing.T, name string, a, want impl.Array, call func(impl.Array) impl.Array) {
	t.Helper()
	given := roomyArray(a)
	before := copiedArray(wholeArray(given))
	got := call(given)
	if difference := arrayDifference(got, want); difference != "" {
		t.Errorf("%s of %s: %s", name, arrayText(a), difference)
	}
	spoilArray(t, got)
	if difference := arrayDifference(wholeArray(given), before); difference != "" {
		t.Errorf("%s or a change of its result changed its argument: %s", name, difference)
	}
}

func expectCells(t *testing.T, got, want []impl.Cell) {
	t.Helper()
	if difference := arrayDifference(impl.Array{Cells: got}, impl.Array{Cells: want}); difference != "" {
		t.Error(difference)
	}
}

func expectLineAt(t *testing.T, a impl.Array, line int, x, code, place int) {
	t.Helper()
	expectDecoded(t, a.Cells[line].Symbols, x, code, place)
}

// arrayDifference returns the first difference, or "" if there is none.
func arrayDifference(got, want impl.Array) string {
	if len(got.Cells) != len(want.Cells) {
		return fmt.Sprintf("%d cells, want %d", len(got.Cells), len(want.Cells))
	}
	for i, c := range got.Cells {
		if c.Poison != want.Cells[i].Poison || !slices.Equal(c.Symbols, want.Cells[i].Symbols) {
			return fmt.Sprintf("cell %d is %+v, want %+v", i, c, want.Cells[i])
		}
	}
	if !slices.Equal(got.Age, want.Age) || !slices.Equal(got.Hits, want.Hits) {
		return fmt.Sprintf("Age and Hits are %v and %v, want %v and %v", got.Age, got.Hits, want.Age, want.Hits)
	}
	return ""
}

func arrayText(a impl.Array) string {
	return fmt.Sprintf("{%d cells from %+v on, Age %v, Hits %v}", len(a.Cells), a.Cells[:min(1, len(a.Cells))], a.Age, a.Hits)
}

func copiedArray(a impl.Array) impl.Array {
	cells := []impl.Cell{}
	for _, c := range a.Cells {
		cells = append(cells, impl.Cell{Symbols: slices.Clone(c.Symbols), Poison: c.Poison})
	}
	return impl.Array{Cells: cells, Age: slices.Clone(a.Age), Hits: slices.Clone(a.Hits)}
}

// roomyArray returns a copy of the array with some capacity behind each slice.
func roomyArray(a impl.Array) impl.Array {
	cells := []impl.Cell{}
	for _, c := range a.Cells {
		cells = append(cells, impl.Cell{Symbols: roomyList(c.Symbols), Poison: c.Poison})
	}
	cells = append(cells, impl.Cell{Symbols: roomyList(nil), Poison: true}, impl.Cell{Symbols: roomyList(nil)})
	return impl.Array{Cells: cells[:len(a.Cells)], Age: roomyList(a.Age), Hits: roomyList(a.Hits)}
}

func roomyList(list []int) []int { return append(slices.Clone(list), 44, 45, 46)[:len(list)] }

// wholeArray returns the array with the capacity behind its slices.
func wholeArray(a impl.Array) impl.Array {
	cells := slices.Clone(a.Cells[:cap(a.Cells)])
	for i, c := range cells {
		cells[i].Symbols = c.Symbols[:cap(c.Symbols)]
	}
	return impl.Array{Cells: cells, Age: a.Age[:cap(a.Age)], Hits: a.Hits[:cap(a.Hits)]}
}

// spoilArray writes another number into each slice of an array, the capacity
// behind it included, and checks that no slice has a number of another.
func spoilArray(t *testing.T, a impl.Array) {
	t.Helper()
	lists := [][]int{a.Age, a.Hits}
	for _, c := range a.Cells {
		lists = append(lists, c.Symbols)
	}
	for i, list := range lists {
		spoilList(list, -100-i)
	}
	for i, list := range lists {
		if slices.ContainsFunc(list[:cap(list)], func(n int) bool { return n != -100-i }) {
			t.Errorf("two slices of an array share memory: %v", list)
		}
	}
	cells := a.Cells[:cap(a.Cells)]
	for i := range cells {
		cells[i] = impl.Cell{Symbols: []int{-99}, Poison: !cells[i].Poison}
	}
}

func spoilList(list []int, n int) {
	list = list[:cap(list)]
	for i := range list {
		list[i] = n
	}
}

// rampArray returns an array in which no two rows have the same numbers, and
// cells are not codewords; every third one is poisoned.
func rampArray(g impl.Geometry) impl.Array {
	a := impl.Array{}
	for place := range g.Groups * g.Banks * g.Rows {
		a.Age = append(a.Age, 20+place)
		a.Hits = append(a.Hits, 500+2*place)
		for col := range g.Cols {
			line := place*g.Cols + col
			symbols := append(digitsOf(line, 4), 1, 3, 5, 7, 9, 11, 13)
			a.Cells = append(a.Cells, impl.Cell{Symbols: symbols, Poison: line%3 == 2})
		}
	}
	return a
}

// anyArray returns a valid array with numbers around the limits and around MaxAge.
func anyArray(seed *uint32, g impl.Geometry, l impl.Limits) impl.Array {
	a := impl.Array{}
	for range g.Groups * g.Banks * g.Rows {
		a.Age = append(a.Age, numberAround(seed, l.Age))
		a.Hits = append(a.Hits, numberAround(seed, l.Hits))
		for range g.Cols {
			a.Cells = append(a.Cells, impl.Cell{Symbols: anySymbols(seed, 11), Poison: pick(seed, 4) == 0})
		}
	}
	return a
}

func numberAround(seed *uint32, limit int) int {
	switch pick(seed, 8) {
	case 0:
		return impl.MaxAge - pick(seed, 2)
	case 1:
		return pick(seed, impl.MaxAge+1)
	case 2, 3:
		return min(max(0, limit-1+pick(seed, 4)), impl.MaxAge)
	}
	return pick(seed, min(max(limit, 0), impl.MaxAge)+1)
}

// noCells returns cells whose symbols are too few, too many or not elements.
func noCells() []impl.Cell {
	word := impl.EncodeLine(305419896)
	cells := []impl.Cell{{}, {Poison: true}}
	for _, n := range []int{0, 1, 3, 8, 10} {
		cells = append(cells, impl.Cell{Symbols: word[:n]}, impl.Cell{Symbols: word[:n], Poison: true})
	}
	for _, more := range [][]int{{0}, {15}, word} {
		cells = append(cells, impl.Cell{Symbols: slices.Concat(word, more)}, impl.Cell{Symbols: slices.Concat(word, more), Poison: true})
	}
	for _, chip := range []int{0, 1, 10} {
		for _, symbol := range []int{-1, 16, math.MinInt, math.MaxInt} {
			cells = append(cells, impl.Cell{Symbols: withSymbol(word, chip, symbol)})
		}
	}
	return cells
}

// noArrays returns arrays of which one part is not valid: the number of cells,
// ages or counts, one cell, or one number.
func noArrays(g impl.Geometry) []impl.Array {
	a := rampArray(g)
	cells, rows := len(a.Cells), len(a.Age)
	arrays := []impl.Array{
		{}, {Age: a.Age, Hits: a.Hits}, {Cells: a.Cells, Hits: a.Hits}, {Cells: a.Cells, Age: a.Age}, {Cells: a.Cells},
		{Cells: a.Cells[:cells-1], Age: a.Age, Hits: a.Hits}, {Cells: append(copiedArray(a).Cells, a.Cells[0]), Age: a.Age, Hits: a.Hits},
		{Cells: a.Cells, Age: a.Age[:rows-1], Hits: a.Hits}, {Cells: a.Cells, Age: append(slices.Clone(a.Age), 0), Hits: a.Hits},
		{Cells: a.Cells, Age: a.Age, Hits: a.Hits[:rows-1]}, {Cells: a.Cells, Age: a.Age, Hits: append(slices.Clone(a.Hits), 0)},
		{Cells: a.Cells, Age: a.Age[:rows-1], Hits: append(slices.Clone(a.Hits), 0)}, {Cells: a.Cells, Age: a.Hits[:rows-1], Hits: a.Hits[:rows-1]},
		{Cells: append(copiedArray(a).Cells, a.Cells...), Age: append(slices.Clone(a.Age), a.Age...), Hits: append(slices.Clone(a.Hits), a.Hits...)},
	}
	for _, line := range []int{0, cells - 1} {
		for _, c := range noCells() {
			arrays = append(arrays, arrayWithCell(a, line, c))
		}
	}
	for _, place := range []int{0, rows - 1} {
		for _, n := range append([]int{-1, impl.MaxAge + 1}, farNumbers...) {
			arrays = append(arrays, arrayWithAge(a, place, n), arrayWithHits(a, place, n))
		}
	}
	return arrays
}

func arrayWithCell(a impl.Array, line int, c impl.Cell) impl.Array {
	a = copiedArray(a)
	a.Cells[line] = impl.Cell{Symbols: slices.Clone(c.Symbols), Poison: c.Poison}
	return a
}

func arrayWithAge(a impl.Array, place, n int) impl.Array {
	a.Age = withSymbol(a.Age, place, n)
	return a
}

func arrayWithHits(a impl.Array, place, n int) impl.Array {
	a.Hits = withSymbol(a.Hits, place, n)
	return a
}

// arrayGeometries returns geometries with few lines, and some with more.
func arrayGeometries() []impl.Geometry {
	return []impl.Geometry{
		{Groups: 1, Banks: 1, Rows: 2, Cols: 1}, {Groups: 1, Banks: 1, Rows: 3, Cols: 2}, {Groups: 2, Banks: 1, Rows: 2, Cols: 2},
		{Groups: 1, Banks: 3, Rows: 4, Cols: 1}, {Groups: 2, Banks: 2, Rows: 3, Cols: 2}, {Groups: 1, Banks: 1, Rows: 16, Cols: 1}, {Groups: 2, Banks: 4, Rows: 2, Cols: 1},
	}
}

func intOf(b bool) int {
	if b {
		return 1
	}
	return 0
}
