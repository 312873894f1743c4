package tests

import (
	"math"
	"slices"
	"testing"

	"loop.example/g00977/impl"
)

// patternCases have the exposure of each row.
var patternCases = []struct {
	rows      int
	pattern   []int
	exposures []int
}{
	{2, nil, []int{0, 0}},
	{2, []int{}, []int{0, 0}},
	{2, []int{0}, []int{0, 1}},
	{2, []int{1}, []int{1, 0}},
	{2, []int{0, 1}, []int{1, 1}},
	{2, []int{0, 0, 0, 1, 0}, []int{1, 3}},
	{2, []int{1, 1, 0, 1, 1, 1}, []int{3, 1}},
	{2, []int{0, 1, 0, 1, 0, 1}, []int{1, 1}},
	{3, []int{0, 2, 0, 2}, []int{0, 4, 0}},
	{3, []int{1, 1, 0, 1, 2}, []int{2, 1, 3}},
	{3, []int{0, 2, 1, 0, 2, 0, 1, 2}, []int{1, 3, 1}},
	{4, []int{0, 2, 0, 1, 2}, []int{1, 3, 1, 2}},
	{4, []int{0, 3, 3, 0}, []int{0, 2, 2, 0}},
	{5, []int{2}, []int{0, 1, 0, 1, 0}},
	{5, []int{2, 2, 2}, []int{0, 3, 0, 3, 0}},
	{5, []int{2, 2, 3, 2, 1, 2}, []int{1, 3, 1, 2, 1}},
	{16, []int{0, 15, 14, 1, 15}, []int{1, 1, 1, 0, 0, 0, 0, 0, 0, 0, 0, 0, 0, 1, 1, 1}},
	{16, []int{7, 9, 7, 9, 8, 9}, []int{0, 0, 0, 0, 0, 0, 2, 1, 4, 1, 3, 0, 0, 0, 0, 0}},
}

func TestPatternOk(t *testing.T) {
	for _, c := range patternCases {
		expectPatternOk(t, c.rows, c.pattern, true)
	}
	for rows := 2; rows <= 16; rows++ {
		all := rampPattern(rows, rows)
		expectPatternOk(t, rows, nil, true)
		expectPatternOk(t, rows, all, true)
		expectPatternOk(t, rows-1, all, false)
		for _, n := range []int{impl.MaxPattern - 1, impl.MaxPattern} {
			expectPatternOk(t, rows, make([]int, n), true)
			expectPatternOk(t, rows, rampPattern(rows, n), true)
		}
		for _, n := range []int{impl.MaxPattern + 1, impl.MaxPattern + 2, 2 * impl.MaxPattern, 1 << 16} {
			expectPatternOk(t, rows, make([]int, n), false)
			expectPatternOk(t, rows, rampPattern(rows, n), false)
		}
	}
	if impl.MaxPattern != 1000 {
		t.Errorf("MaxPattern = %d, want 1000", impl.MaxPattern)
	}
}

func TestPatternOkOfEachElement(t *testing.T) {
	for rows := 2; rows <= 16; rows++ {
		for _, n := range []int{1, 2, 3, 8, impl.MaxPattern} {
			for _, place := range []int{0, n / 2, n - 1} {
				for row := range rows {
					expectPatternOk(t, rows, withSymbol(rampPattern(rows, n), place, row), true)
				}
				for _, row := range noRowsOf(rows) {
					expectPatternOk(t, rows, withSymbol(rampPattern(rows, n), place, row), false)
				}
			}
		}
	}
}

func TestPatternOkOfOtherRows(t *testing.T) {
	for _, rows := range noRowCounts() {
		expectPatternOk(t, rows, nil, false)
		expectPatternOk(t, rows, []int{0}, false)
		expectPatternOk(t, rows, []int{0, 1, 0}, false)
		expectPatternOk(t, rows, make([]int, impl.MaxPattern), false)
	}
}

func TestNeighbors(t *testing.T) {
	cases := []struct {
		rows, row int
		want      []int
	}{
		{2, 0, []int{1}}, {2, 1, []int{0}},
		{3, 0, []int{1}}, {3, 1, []int{0, 2}}, {3, 2, []int{1}},
		{4, 0, []int{1}}, {4, 1, []int{0, 2}}, {4, 2, []int{1, 3}}, {4, 3, []int{2}},
		{15, 13, []int{12, 14}}, {15, 14, []int{13}}, {15, 15, nil},
		{16, 0, []int{1}}, {16, 8, []int{7, 9}}, {16, 14, []int{13, 15}}, {16, 15, []int{14}},
	}
	for _, c := range cases {
		expectNeighbors(t, c.rows, c.row, c.want)
	}
	for rows := 2; rows <= 16; rows++ {
		for row := range rows {
			expectNeighbors(t, rows, row, rowsBeside(rows, row))
		}
	}
}

func TestNeighborsAreMutual(t *testing.T) {
	for rows := 2; rows <= 16; rows++ {
		count := 0
		for row := range rows {
			for _, neighbor := range impl.Neighbors(rows, row) {
				count++
				if !slices.Contains(impl.Neighbors(rows, neighbor), row) {
					t.Errorf("row %d of %d is no neighbor of its neighbor %d", row, rows, neighbor)
				}
			}
		}
		if count != 2*(rows-1) {
			t.Errorf("%d rows have %d neighbors, want two for each of the %d pairs", rows, count, rows-1)
		}
	}
}

func TestNeighborsOfOtherRows(t *testing.T) {
	for rows := 2; rows <= 16; rows++ {
		for _, row := range noRowsOf(rows) {
			expectNeighbors(t, rows, row, nil)
		}
	}
	for _, rows := range noRowCounts() {
		for _, row := range append([]int{-2, -1, 0, 1, 2, 15, 16, rows - 1, rows}, farNumbers...) {
			expectNeighbors(t, rows, row, nil)
		}
	}
}

func TestNeighborsAreNewMemory(t *testing.T) {
	for rows := 2; rows <= 16; rows++ {
		for row := range rows {
			spoilList(impl.Neighbors(rows, row), -99)
		}
		for row := range rows {
			expectNeighbors(t, rows, row, rowsBeside(rows, row))
		}
	}
}

func TestCountRow(t *testing.T) {
	cases := []struct {
		pattern   []int
		row, want int
	}{
		{nil, 0, 0}, {[]int{}, 0, 0}, {[]int{}, -1, 0}, {[]int{0}, 0, 1}, {[]int{0}, 1, 0}, {[]int{1}, 0, 0},
		{[]int{0, 2, 0, 1, 2}, 0, 2}, {[]int{0, 2, 0, 1, 2}, 1, 1}, {[]int{0, 2, 0, 1, 2}, 2, 2},
		{[]int{0, 2, 0, 1, 2}, 3, 0}, {[]int{0, 2, 0, 1, 2}, -1, 0}, {[]int{0, 2, 0, 1, 2}, -2, 0},
		{[]int{7, 7, 7, 7}, 7, 4}, {[]int{5, 7, 7, 7}, 5, 1}, {[]int{7, 7, 7, 5}, 5, 1},
		{[]int{15, 0, 15}, 15, 2}, {[]int{0, 16, 16, 17}, 16, 2}, {[]int{-1, 1, -1}, -1, 2}, {[]int{-1, 1, -1}, 1, 1},
		{make([]int, impl.MaxPattern), 0, impl.MaxPattern}, {make([]int, impl.MaxPattern), 1, 0},
		{make([]int, 3*impl.MaxPattern), 0, 3 * impl.MaxPattern}, {rampPattern(4, 4002), 1, 1001}, {rampPattern(4, 4002), 3, 1000},
		{[]int{math.MaxInt, 0, math.MinInt, math.MaxInt}, math.MaxInt, 2},
		{[]int{math.MaxInt, 0, math.MinInt, math.MaxInt}, math.MinInt, 1},
		{[]int{math.MaxInt, 0, math.MinInt, math.MaxInt}, 0, 1}, {[]int{1 << 32, 0}, 0, 1},
	}
	for _, c := range cases {
		expectCountRow(t, c.pattern, c.row, c.want)
		if !slices.Contains(c.pattern, 99) {
			expectCountRow(t, append(slices.Clone(c.pattern), 99), c.row, c.want)
			expectCountRow(t, append([]int{99}, c.pattern...), 99, 1)
		}
	}
	for _, n := range farNumbers {
		expectCountRow(t, rampPattern(16, impl.MaxPattern), n, 0)
		expectCountRow(t, withSymbol(rampPattern(16, impl.MaxPattern), 500, n), n, 1)
	}
}

// The counts of all rows add up to the length of a pattern.
func TestCountRowOfAllRows(t *testing.T) {
	seed := uint32(1501)
	for range 200 {
		rows := 2 + pick(&seed, 15)
		pattern := anyPattern(&seed, rows, pick(&seed, impl.MaxPattern+1))
		rest := len(pattern)
		for row := range rows {
			count := len(slices.DeleteFunc(slices.Clone(pattern), func(n int) bool { return n != row }))
			expectCountRow(t, pattern, row, count)
			rest -= impl.CountRow(pattern, row)
		}
		if rest != 0 {
			t.Errorf("%d elements of %v are not counted for any of %d rows", rest, pattern, rows)
		}
	}
}

func TestExposure(t *testing.T) {
	for _, c := range patternCases {
		expectExposures(t, c.rows, c.pattern, c.exposures)
	}
}

func TestExposureOfAllShortPatterns(t *testing.T) {
	longest := map[int]int{2: 9, 3: 6, 4: 5, 5: 4, 16: 2}
	for rows, n := range longest {
		patterns := [][]int{nil}
		for range n + 1 {
			var longer [][]int
			for _, pattern := range patterns {
				expectExposures(t, rows, pattern, prefixExposures(rows, pattern))
				for row := range rows {
					longer = append(longer, append(slices.Clone(pattern), row))
				}
			}
			patterns = longer
		}
	}
}

func TestExposureOfLongPatterns(t *testing.T) {
	seed := uint32(1502)
	for rows := 2; rows <= 16; rows++ {
		for _, n := range []int{1, 2, 10, 60, 500, impl.MaxPattern - 1, impl.MaxPattern} {
			pattern := anyPattern(&seed, rows, n)
			exposures := hitsExposures(rows, pattern)
			expectExposures(t, rows, pattern, exposures)
			if n <= 60 && !slices.Equal(exposures, prefixExposures(rows, pattern)) {
				t.Fatalf("the models differ in %d rows for %v", rows, pattern)
			}
		}
	}
}

// A pattern of MaxPattern elements can have any exposure up to MaxPattern.
func TestExposureOfOneRow(t *testing.T) {
	for rows := 2; rows <= 16; rows++ {
		for active := range rows {
			for _, n := range []int{1, impl.MaxPattern} {
				exposures := make([]int, rows)
				for _, row := range rowsBeside(rows, active) {
					exposures[row] = n
				}
				expectExposures(t, rows, slices.Repeat([]int{active}, n), exposures)
			}
		}
	}
}

// Neither neighbor alone is activated as often as both.
func TestExposureToBothNeighbors(t *testing.T) {
	for rows := 3; rows <= 16; rows++ {
		for row := 1; row < rows-1; row++ {
			pattern := slices.Repeat([]int{row - 1, row + 1}, impl.MaxPattern/2)
			expectExposure(t, rows, pattern, row, impl.MaxPattern)
			if row >= 2 {
				expectExposure(t, rows, pattern, row-2, impl.MaxPattern/2)
			}
			if row < rows-2 {
				expectExposure(t, rows, pattern, row+2, impl.MaxPattern/2)
			}
			expectWorst(t, rows, pattern, impl.MaxPattern)
		}
	}
}

// The row's own activation divides the activations of its neighbor; the
// greater part is its exposure, whether it is before or after.
func TestExposureAroundOwnActivation(t *testing.T) {
	for _, place := range []int{0, 1, 2, 333, 498, 499, 500, 501, 998, 999} {
		for rows := 2; rows <= 16; rows++ {
			for row := range rows {
				neighbor := rowsBeside(rows, row)[0]
				pattern := withSymbol(slices.Repeat([]int{neighbor}, impl.MaxPattern), place, row)
				expectExposure(t, rows, pattern, row, max(place, impl.MaxPattern-1-place))
				expectExposure(t, rows, pattern, neighbor, 1)
			}
		}
	}
}

// After each of its own activations the row's count begins again.
func TestExposureBetweenOwnActivations(t *testing.T) {
	for _, parts := range [][]int{{0}, {3}, {1, 2, 3}, {3, 2, 1}, {2, 5, 2}, {0, 0, 4}, {4, 0, 0}, {0, 4, 0}, {3, 3, 3}, {1, 9, 8, 9, 0, 7}} {
		var pattern []int
		for i, n := range parts {
			if i > 0 {
				pattern = append(pattern, 1)
			}
			pattern = append(pattern, slices.Repeat([]int{2}, n)...)
		}
		expectExposure(t, 4, pattern, 1, slices.Max(parts))
		expectExposure(t, 4, pattern, 3, impl.CountRow(pattern, 2))
	}
}

// A row of which the own activations are removed has all activations of its
// neighbors as its exposure: its count begins at the beginning.
func TestExposureWithoutOwnActivations(t *testing.T) {
	seed := uint32(1503)
	for range 100 {
		rows := 2 + pick(&seed, 15)
		whole := anyPattern(&seed, rows, pick(&seed, impl.MaxPattern+1))
		for row := range rows {
			pattern := slices.DeleteFunc(slices.Clone(whole), func(n int) bool { return n == row })
			want := 0
			for _, neighbor := range rowsBeside(rows, row) {
				want += impl.CountRow(pattern, neighbor)
			}
			expectExposure(t, rows, pattern, row, want)
			if got := impl.Exposure(rows, whole, row); got > want {
				t.Errorf("Exposure(%d, %v, %d) = %d, which exceeds the activations of its neighbors, %d", rows, whole, row, got, want)
			}
		}
	}
}

// The exposure of a prefix is at most that of the pattern, and one activation
// increases it by at most one.
func TestExposureOfPrefixes(t *testing.T) {
	seed := uint32(1504)
	for rows := 2; rows <= 16; rows++ {
		pattern := anyPattern(&seed, rows, 120)
		for row := range rows {
			before := 0
			for n := range len(pattern) + 1 {
				got := impl.Exposure(rows, pattern[:n], row)
				if got < before || got > before+1 {
					t.Errorf("Exposure(%d, %v, %d) = %d, and %d without the last element", rows, pattern[:n], row, got, before)
				}
				before = got
			}
		}
	}
}

// The greatest number of hits that a row of the cell array ever has is its exposure.
func TestExposureIsTheMostHitsOfTheArray(t *testing.T) {
	seed := uint32(1505)
	for rows := 2; rows <= 16; rows++ {
		g := impl.Geometry{Groups: 1, Banks: 2, Rows: rows, Cols: 1}
		pattern := anyPattern(&seed, rows, 80)
		most := make([]int, rows)
		a := impl.ArrayNew(g)
		for _, row := range pattern {
			a = impl.SenseRow(g, farLimits, a, 1, row)
			for i, hits := range a.Hits[rows:] {
				most[i] = max(most[i], hits)
			}
		}
		expectExposures(t, rows, pattern, most)
	}
}

func TestExposureOfOtherRows(t *testing.T) {
	for rows := 2; rows <= 16; rows++ {
		for _, pattern := range [][]int{nil, {0}, {rows - 1}, rampPattern(rows, 50), slices.Repeat([]int{0, rows - 1}, 30)} {
			for _, row := range noRowsOf(rows) {
				expectExposure(t, rows, pattern, row, 0)
			}
		}
	}
}

func TestExposureOfInvalidPatterns(t *testing.T) {
	for _, rows := range noRowCounts() {
		for _, pattern := range [][]int{nil, {0}, {1}, {0, 1, 0}, rampPattern(2, impl.MaxPattern), rampPattern(16, impl.MaxPattern)} {
			expectNoExposure(t, rows, pattern)
		}
	}
	for rows := 2; rows <= 16; rows++ {
		for _, n := range []int{impl.MaxPattern + 1, impl.MaxPattern + 2, 1 << 16} {
			expectNoExposure(t, rows, rampPattern(rows, n))
			expectNoExposure(t, rows, make([]int, n))
		}
		for _, n := range []int{1, 3, 9, impl.MaxPattern} {
			for _, place := range []int{0, n / 2, n - 1} {
				for _, row := range noRowsOf(rows) {
					expectNoExposure(t, rows, withSymbol(rampPattern(rows, n), place, row))
				}
			}
		}
	}
}

func TestWorstExposure(t *testing.T) {
	cases := []struct {
		rows    int
		pattern []int
		want    int
	}{
		{2, nil, 0}, {16, nil, 0}, {2, []int{0}, 1}, {2, []int{1}, 1}, {4, []int{0, 2, 0, 1, 2}, 3},
		{3, []int{1, 1, 0, 1, 2}, 3}, {3, []int{0, 0, 2, 1, 0}, 3}, {8, []int{3, 5, 3, 5}, 4}, {8, []int{3, 5, 4, 3, 5}, 2},
		{2, make([]int, impl.MaxPattern), impl.MaxPattern}, {2, rampPattern(2, impl.MaxPattern), 1},
		{16, slices.Repeat([]int{15}, impl.MaxPattern), impl.MaxPattern}, {16, rampPattern(16, impl.MaxPattern), 2},
	}
	for _, c := range cases {
		expectWorst(t, c.rows, c.pattern, c.want)
	}
}

func TestWorstExposureOfEachRow(t *testing.T) {
	for rows := 2; rows <= 16; rows++ {
		for row := range rows {
			pattern := patternAgainst(rows, row)
			for other, exposure := range prefixExposures(rows, pattern) {
				if other != row && exposure >= 8 {
					t.Errorf("row %d of %d, not only %d, has the exposure %d for %v", other, rows, row, exposure, pattern)
				}
			}
			expectExposure(t, rows, pattern, row, 8)
			expectWorst(t, rows, pattern, 8)
		}
	}
}

func expectPatternOk(t *testing.T, rows int, pattern []int, want bool) {
	t.Helper()
	expectKept(t, "PatternOk", pattern, func(pattern []int) {
		if got := impl.PatternOk(rows, pattern); got != want {
			t.Errorf("PatternOk(%d, %v) = %v, want %v", rows, pattern, got, want)
		}
	})
}

func expectNeighbors(t *testing.T, rows, row int, want []int) {
	t.Helper()
	if got := impl.Neighbors(rows, row); !slices.Equal(got, want) {
		t.Errorf("Neighbors(%d, %d) = %v, want %v", rows, row, got, want)
	}
}

func expectCountRow(t *testing.T, pattern []int, row, want int) {
	t.Helper()
	expectKept(t, "CountRow", pattern, func(pattern []int) {
		if got := impl.CountRow(pattern, row); got != want {
			t.Errorf("CountRow(%v, %d) = %d, want %d", pattern, row, got, want)
		}
	})
}

func expectExposure(t *testing.T, rows int, pattern []int, row, want int) {
	t.Helper()
	expectKept(t, "Exposure", pattern, func(pattern []int) {
		if got := impl.Exposure(rows, pattern, row); got != want {
			t.Errorf("Exposure(%d, %v, %d) = %d, want %d", rows, pattern, row, got, want)
		}
	})
}

func expectWorst(t *testing.T, rows int, pattern []int, want int) {
	t.Helper()
	expectKept(t, "WorstExposure", pattern, func(pattern []int) {
		if got := impl.WorstExposure(rows, pattern); got != want {
			t.Errorf("WorstExposure(%d, %v) = %d, want %d", rows, pattern, got, want)
		}
	})
}

// expectExposures checks the exposures of all rows and the greatest of them,
// and that none exceeds the number of activations of the neighbors.
func expectExposures(t *testing.T, rows int, pattern []int, want []int) {
	t.Helper()
	expectPatternOk(t, rows, pattern, true)
	for row := range rows {
		expectExposure(t, rows, pattern, row, want[row])
		activations := 0
		for _, neighbor := range impl.Neighbors(rows, row) {
			activations += impl.CountRow(pattern, neighbor)
		}
		if got := impl.Exposure(rows, pattern, row); got < 0 || got > activations {
			t.Errorf("Exposure(%d, %v, %d) = %d, but there are %d activations of its neighbors", rows, pattern, row, got, activations)
		}
	}
	expectExposure(t, rows, pattern, -1, 0)
	expectExposure(t, rows, pattern, rows, 0)
	expectWorst(t, rows, pattern, slices.Max(want))
}

func expectNoExposure(t *testing.T, rows int, pattern []int) {
	t.Helper()
	expectPatternOk(t, rows, pattern, false)
	for _, row := range []int{math.MinInt, -1, 0, 1, 2, 15, rows - 1, rows, math.MaxInt} {
		expectExposure(t, rows, pattern, row, 0)
	}
	expectWorst(t, rows, pattern, 0)
}

// expectKept passes a copy of the list with other numbers around it, and
// checks that the call changes neither.
func expectKept(t *testing.T, name string, list []int, call func([]int)) {
	t.Helper()
	whole := slices.Concat([]int{77}, list, []int{78, 79, 80})
	before := slices.Clone(whole)
	call(whole[1 : 1+len(list)])
	if !slices.Equal(whole, before) {
		t.Errorf("%s(%v) left %v around its argument, want %v", name, list, whole, before)
	}
}

// rowsBeside returns the rows at the distance 1.
func rowsBeside(rows, row int) []int {
	var beside []int
	for other := range rows {
		if (other-row)*(other-row) == 1 {
			beside = append(beside, other)
		}
	}
	return beside
}

// prefixExposures examines every prefix from its end.
func prefixExposures(rows int, pattern []int) []int {
	exposures := make([]int, rows)
	for n := range len(pattern) + 1 {
		for row := range rows {
			count := 0
			for i := n - 1; i >= 0 && pattern[i] != row; i-- {
				if slices.Contains(rowsBeside(rows, row), pattern[i]) {
					count++
				}
			}
			exposures[row] = max(exposures[row], count)
		}
	}
	return exposures
}

// hitsExposures keeps a count for each row while the rows are activated.
func hitsExposures(rows int, pattern []int) []int {
	exposures := make([]int, rows)
	hits := make([]int, rows)
	for _, active := range pattern {
		hits[active] = 0
		for _, row := range rowsBeside(rows, active) {
			hits[row]++
			exposures[row] = max(exposures[row], hits[row])
		}
	}
	return exposures
}

// rampPattern activates one row after the other, n in all.
func rampPattern(rows, n int) []int {
	pattern := make([]int, n)
	for i := range pattern {
		pattern[i] = i % rows
	}
	return pattern
}

// anyPattern mostly activates rows of a window of 3.
func anyPattern(seed *uint32, rows, n int) []int {
	pattern := make([]int, n)
	first := pick(seed, rows)
	for i := range pattern {
		pattern[i] = (first + pick(seed, 3)) % rows
		if pick(seed, 8) == 0 {
			pattern[i] = pick(seed, rows)
		}
	}
	return pattern
}

// patternAgainst gives only this row the exposure 8: those of the rows beside
// its neighbors are 4, as each is disturbed by one of two neighbors only, or is
// activated itself halfway.
func patternAgainst(rows, row int) []int {
	beside := rowsBeside(rows, row)
	if len(beside) == 2 {
		return slices.Repeat(beside, 4)
	}
	half := slices.Repeat(beside, 4)
	if rows == 2 {
		return slices.Concat(half, half)
	}
	return slices.Concat(half, []int{2*beside[0] - row}, half)
}

func noRowsOf(rows int) []int {
	return append([]int{-17, -16, -2, -1, rows, rows + 1, 2 * rows, 99}, farNumbers...)
}

func noRowCounts() []int { return append([]int{-16, -2, -1, 0, 1, 17, 18, 32, 1000}, farNumbers...) }
