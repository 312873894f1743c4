package tests

import (
	"math"
	"reflect"
	"slices"
	"testing"

	"loop.example/g00977/impl"
)

var timingNames = []string{
	"RCD", "RP", "RAS", "RRDS", "RRDL", "FAW", "CCDS", "CCDL", "RTP", "WR", "WTRS", "WTRL", "RTW", "RFC", "CKE", "XP", "XS",
}

// timingOrders holds the pairs of numbers of which the first is at most the
// second.
var timingOrders = [][2]string{{"RCD", "RAS"}, {"RRDS", "RRDL"}, {"CCDS", "CCDL"}, {"WTRS", "WTRL"}}

// A timingRule names the numbers of a timing whose sum is the distance.
type timingRule struct {
	from, to int
	numbers  []string
}

// bankTimingRules and the lists below are written from the text of the chapter.
var bankTimingRules = []timingRule{
	{impl.CmdAct, impl.CmdRead, []string{"RCD"}},
	{impl.CmdAct, impl.CmdWrite, []string{"RCD"}},
	{impl.CmdAct, impl.CmdPre, []string{"RAS"}},
	{impl.CmdAct, impl.CmdAct, []string{"RAS", "RP"}},
	{impl.CmdAct, impl.CmdRef, []string{"RAS", "RP"}},
	{impl.CmdRead, impl.CmdPre, []string{"RTP"}},
	{impl.CmdRead, impl.CmdAct, []string{"RTP", "RP"}},
	{impl.CmdRead, impl.CmdRef, []string{"RTP", "RP"}},
	{impl.CmdWrite, impl.CmdPre, []string{"WR"}},
	{impl.CmdWrite, impl.CmdAct, []string{"WR", "RP"}},
	{impl.CmdWrite, impl.CmdRef, []string{"WR", "RP"}},
	{impl.CmdPre, impl.CmdAct, []string{"RP"}},
	{impl.CmdPre, impl.CmdRef, []string{"RP"}},
	{impl.CmdRef, impl.CmdAct, []string{"RFC"}},
	{impl.CmdRef, impl.CmdRef, []string{"RFC"}},
}

var nearTimingRules = []timingRule{
	{impl.CmdAct, impl.CmdAct, []string{"RRDL"}},
	{impl.CmdRead, impl.CmdRead, []string{"CCDL"}},
	{impl.CmdWrite, impl.CmdWrite, []string{"CCDL"}},
	{impl.CmdWrite, impl.CmdRead, []string{"WTRL"}},
}

var farTimingRules = []timingRule{
	{impl.CmdAct, impl.CmdAct, []string{"RRDS"}},
	{impl.CmdRead, impl.CmdRead, []string{"CCDS"}},
	{impl.CmdWrite, impl.CmdWrite, []string{"CCDS"}},
	{impl.CmdWrite, impl.CmdRead, []string{"WTRS"}},
}

var rankTimingRules = []timingRule{
	{impl.CmdRead, impl.CmdWrite, []string{"RTW"}},
	{impl.CmdRef, impl.CmdRef, []string{"RRDL"}},
	{impl.CmdRead, impl.CmdPde, []string{"RTP"}},
	{impl.CmdWrite, impl.CmdPde, []string{"WR"}},
	{impl.CmdAct, impl.CmdSre, []string{"RAS", "RP"}},
	{impl.CmdRead, impl.CmdSre, []string{"RTP", "RP"}},
	{impl.CmdWrite, impl.CmdSre, []string{"WR", "RP"}},
	{impl.CmdPre, impl.CmdSre, []string{"RP"}},
	{impl.CmdRef, impl.CmdSre, []string{"RFC"}},
	{impl.CmdPde, impl.CmdPdx, []string{"CKE"}},
	{impl.CmdSre, impl.CmdSrx, []string{"CKE"}},
}

func TestTimingNames(t *testing.T) {
	fields := reflect.VisibleFields(reflect.TypeFor[impl.Timing]())
	if len(fields) != len(timingNames) {
		t.Fatalf("a timing has %d numbers, want %d", len(fields), len(timingNames))
	}
	for i, field := range fields {
		if field.Name != timingNames[i] {
			t.Errorf("the number %d is %s, want %s", i, field.Name, timingNames[i])
		}
	}
	if impl.MaxTime != 1000000 {
		t.Errorf("MaxTime = %d", impl.MaxTime)
	}
}

func TestFastTiming(t *testing.T) {
	want := impl.Timing{
		RCD: 3, RP: 3, RAS: 7, RRDS: 2, RRDL: 3, FAW: 10, CCDS: 2, CCDL: 3, RTP: 3,
		WR: 6, WTRS: 4, WTRL: 5, RTW: 4, RFC: 12, CKE: 3, XP: 4, XS: 16,
	}
	if got := impl.FastTiming(); got != want || !impl.TimingOk(got) {
		t.Errorf("FastTiming() = %+v, want %+v", got, want)
	}
}

// Every number is valid from 1 to 64 if the numbers that it must not exceed
// are 64 and those that must not exceed it are 1.
func TestTimingOkAtTheEndsOfTheRange(t *testing.T) {
	for _, name := range timingNames {
		base := timingOf(1)
		for _, order := range timingOrders {
			base = timingWith(base, order[1], 64)
		}
		for n, want := range map[int]bool{
			math.MinInt: false, -64: false, -1: false, 0: false, 1: true, 2: true, 32: true, 63: true, 64: true, 65: false,
			66: false, 1<<32 + 1: false, math.MaxInt: false,
		} {
			timing := timingWith(base, name, n)
			if got := impl.TimingOk(timing); got != want {
				t.Errorf("TimingOk(%+v) = %v, want %v for %s", timing, got, want, name)
			}
		}
	}
}

func TestTimingOkOrders(t *testing.T) {
	for _, order := range timingOrders {
		for _, base := range []impl.Timing{timingOf(1), timingOf(64), impl.FastTiming(), distinctTiming()} {
			for _, n := range []int{1, 2, 3, 31, 32, 63, 64} {
				equal := timingWith(timingWith(base, order[0], n), order[1], n)
				if !impl.TimingOk(equal) {
					t.Errorf("TimingOk(%+v) = false with %s equal to %s", equal, order[0], order[1])
				}
				if less := timingWith(equal, order[0], n-1); impl.TimingOk(less) != (n > 1) {
					t.Errorf("TimingOk(%+v) = %v with %s less than %s", less, n <= 1, order[0], order[1])
				}
				if greater := timingWith(equal, order[0], n+1); impl.TimingOk(greater) {
					t.Errorf("TimingOk(%+v) = true with %s greater than %s", greater, order[0], order[1])
				}
			}
		}
	}
}

// No other two numbers of a timing depend on each other.
func TestTimingOkOfTwoNumbers(t *testing.T) {
	for _, base := range []impl.Timing{timingOf(1), timingOf(32), timingOf(64), impl.FastTiming()} {
		for _, first := range timingNames {
			for _, second := range timingNames {
				for _, n := range []int{math.MinInt, 0, 1, 64, 65, math.MaxInt} {
					for _, k := range []int{math.MinInt, 0, 1, 64, 65, math.MaxInt} {
						expectTimingOk(t, timingWith(timingWith(base, first, n), second, k))
					}
				}
			}
		}
	}
}

func TestGapExamples(t *testing.T) {
	f := impl.FastTiming()
	cases := []struct{ a, b, bank, near, far int }{
		{impl.CmdAct, impl.CmdAct, 10, 3, 2},
		{impl.CmdAct, impl.CmdRead, 3, 0, 0},
		{impl.CmdAct, impl.CmdWrite, 3, 0, 0},
		{impl.CmdAct, impl.CmdPre, 7, 0, 0},
		{impl.CmdAct, impl.CmdRef, 10, 0, 0},
		{impl.CmdAct, impl.CmdPde, 0, 0, 0},
		{impl.CmdAct, impl.CmdSre, 0, 10, 10},
		{impl.CmdRead, impl.CmdAct, 6, 0, 0},
		{impl.CmdRead, impl.CmdRead, 0, 3, 2},
		{impl.CmdRead, impl.CmdWrite, 0, 4, 4},
		{impl.CmdRead, impl.CmdPre, 3, 0, 0},
		{impl.CmdRead, impl.CmdRef, 6, 0, 0},
		{impl.CmdRead, impl.CmdPde, 0, 3, 3},
		{impl.CmdRead, impl.CmdSre, 0, 6, 6},
		{impl.CmdWrite, impl.CmdAct, 9, 0, 0},
		{impl.CmdWrite, impl.CmdRead, 0, 5, 4},
		{impl.CmdWrite, impl.CmdWrite, 0, 3, 2},
		{impl.CmdWrite, impl.CmdPre, 6, 0, 0},
		{impl.CmdWrite, impl.CmdRef, 9, 0, 0},
		{impl.CmdWrite, impl.CmdPde, 0, 6, 6},
		{impl.CmdWrite, impl.CmdSre, 0, 9, 9},
		{impl.CmdPre, impl.CmdAct, 3, 0, 0},
		{impl.CmdPre, impl.CmdRead, 0, 0, 0},
		{impl.CmdPre, impl.CmdPre, 0, 0, 0},
		{impl.CmdPre, impl.CmdRef, 3, 0, 0},
		{impl.CmdPre, impl.CmdPde, 0, 0, 0},
		{impl.CmdPre, impl.CmdSre, 0, 3, 3},
		{impl.CmdRef, impl.CmdAct, 12, 0, 0},
		{impl.CmdRef, impl.CmdRef, 12, 3, 3},
		{impl.CmdRef, impl.CmdPde, 0, 0, 0},
		{impl.CmdRef, impl.CmdSre, 0, 12, 12},
		{impl.CmdPde, impl.CmdPdx, 0, 3, 3},
		{impl.CmdPde, impl.CmdSrx, 0, 0, 0},
		{impl.CmdPde, impl.CmdAct, 0, 0, 0},
		{impl.CmdPdx, impl.CmdAct, 0, 4, 4},
		{impl.CmdPdx, impl.CmdPde, 0, 4, 4},
		{impl.CmdPdx, impl.CmdPdx, 0, 4, 4},
		{impl.CmdPdx, impl.CmdSrx, 0, 4, 4},
		{impl.CmdSre, impl.CmdSrx, 0, 3, 3},
		{impl.CmdSre, impl.CmdPdx, 0, 0, 0},
		{impl.CmdSrx, impl.CmdAct, 0, 16, 16},
		{impl.CmdSrx, impl.CmdSre, 0, 16, 16},
		{impl.CmdSrx, impl.CmdPdx, 0, 16, 16},
		{impl.CmdSrx, impl.CmdSrx, 0, 16, 16},
		{impl.CmdPdx, 0, 0, 0, 0},
		{impl.CmdPdx, impl.CmdSrx + 1, 0, 0, 0},
		{impl.CmdSrx, 0, 0, 0, 0},
		{impl.CmdSrx, impl.CmdSrx + 1, 0, 0, 0},
		{0, 0, 0, 0, 0},
	}
	for _, c := range cases {
		expectGaps(t, f, c.a, c.b, c.bank, c.near, c.far)
	}
}

func TestGapsOfEveryTwoKinds(t *testing.T) {
	for _, timing := range someTimings() {
		for _, a := range kindsOrNone() {
			for _, b := range kindsOrNone() {
				expectGaps(t, timing, a, b, bankDistance(timing, a, b), rankDistance(timing, a, b, true), rankDistance(timing, a, b, false))
			}
		}
	}
}

func TestGapsOfInvalidTiming(t *testing.T) {
	g := impl.Geometry{Groups: 2, Banks: 2, Rows: 4, Cols: 2}
	for _, timing := range noTimings() {
		for _, a := range kindsOrNone() {
			for _, b := range kindsOrNone() {
				expectGaps(t, timing, a, b, 0, 0, 0)
			}
		}
		for _, a := range commandsIn(g) {
			for _, b := range commandsIn(g) {
				expectGap(t, g, timing, a, b, 0)
			}
		}
	}
}

func TestGapOfCommands(t *testing.T) {
	g := impl.Geometry{Groups: 2, Banks: 2, Rows: 4, Cols: 2}
	act, read, write := impl.Command{Kind: impl.CmdAct}, impl.Command{Kind: impl.CmdRead}, impl.Command{Kind: impl.CmdWrite}
	cases := []struct {
		a, b impl.Command
		want int
	}{
		{act, act, 10}, {act, impl.Command{Kind: impl.CmdAct, Row: 3}, 10},
		{act, impl.Command{Kind: impl.CmdAct, Bank: 1}, 3}, {act, impl.Command{Kind: impl.CmdAct, Bank: 2}, 2}, {act, impl.Command{Kind: impl.CmdAct, Bank: 3}, 2},
		{impl.Command{Kind: impl.CmdAct, Bank: 2}, impl.Command{Kind: impl.CmdAct, Bank: 1}, 2},
		{impl.Command{Kind: impl.CmdAct, Bank: 2}, impl.Command{Kind: impl.CmdAct, Bank: 3}, 3},
		{act, read, 3}, {act, impl.Command{Kind: impl.CmdRead, Bank: 1}, 1}, {act, impl.Command{Kind: impl.CmdRead, Bank: 2}, 1},
		{act, impl.Command{Kind: impl.CmdPre}, 7}, {act, impl.Command{Kind: impl.CmdPre, Bank: 1}, 1},
		{act, impl.Command{Kind: impl.CmdRef}, 10}, {act, impl.Command{Kind: impl.CmdRef, Bank: 1}, 1},
		{read, read, 3}, {read, impl.Command{Kind: impl.CmdRead, Bank: 1}, 3}, {read, impl.Command{Kind: impl.CmdRead, Bank: 2}, 2},
		{read, write, 4}, {read, impl.Command{Kind: impl.CmdWrite, Bank: 1}, 4}, {read, impl.Command{Kind: impl.CmdWrite, Bank: 2}, 4},
		{write, read, 5}, {write, impl.Command{Kind: impl.CmdRead, Bank: 1}, 5}, {write, impl.Command{Kind: impl.CmdRead, Bank: 2}, 4},
		{write, impl.Command{Kind: impl.CmdPre}, 6}, {write, impl.Command{Kind: impl.CmdPre, Bank: 1}, 1}, {write, act, 9},
		{impl.Command{Kind: impl.CmdRef}, impl.Command{Kind: impl.CmdRef}, 12}, {impl.Command{Kind: impl.CmdRef}, impl.Command{Kind: impl.CmdRef, Bank: 1}, 3},
		{impl.Command{Kind: impl.CmdRef}, impl.Command{Kind: impl.CmdRef, Bank: 2}, 3}, {impl.Command{Kind: impl.CmdRef}, impl.Command{Kind: impl.CmdSre}, 12},
		{impl.Command{Kind: impl.CmdPre}, impl.Command{Kind: impl.CmdPre}, 1}, {impl.Command{Kind: impl.CmdPre}, impl.Command{Kind: impl.CmdPde}, 1},
		{impl.Command{Kind: impl.CmdPde}, impl.Command{Kind: impl.CmdPdx}, 3}, {impl.Command{Kind: impl.CmdPde}, impl.Command{Kind: impl.CmdPde}, 1},
		{impl.Command{Kind: impl.CmdPdx}, act, 4}, {impl.Command{Kind: impl.CmdPdx}, impl.Command{Kind: impl.CmdPde}, 4},
		{impl.Command{Kind: impl.CmdSre}, impl.Command{Kind: impl.CmdSrx}, 3}, {impl.Command{Kind: impl.CmdSrx}, read, 16},
		{act, impl.Command{Kind: impl.CmdPde}, 1}, {impl.Command{Kind: impl.CmdAct, Bank: 3}, impl.Command{Kind: impl.CmdSre}, 10},
		{act, impl.Command{Kind: impl.CmdAct, Bank: 4}, 0}, {impl.Command{Kind: impl.CmdAct, Bank: 4}, act, 0},
		{act, impl.Command{Kind: impl.CmdAct, Row: 4}, 0}, {impl.Command{Kind: impl.CmdRead, Col: 2}, read, 0},
		{act, impl.Command{}, 0}, {impl.Command{}, act, 0}, {impl.Command{}, impl.Command{}, 0},
	}
	for _, c := range cases {
		expectGap(t, g, impl.FastTiming(), c.a, c.b, c.want)
	}
}

// The distance is at least 1 and at least every rule, and no greater than the
// greatest of them.
func TestGapOfEveryTwoCommands(t *testing.T) {
	for _, g := range gapGeometries() {
		for _, timing := range []impl.Timing{impl.FastTiming(), distinctTiming(), timingOf(1)} {
			for _, a := range commandsIn(g) {
				for _, b := range commandsIn(g) {
					expectGap(t, g, timing, a, b, commandDistance(g, timing, a, b))
				}
			}
		}
	}
}

func TestGapIsAtLeastEveryRule(t *testing.T) {
	g := impl.Geometry{Groups: 2, Banks: 2, Rows: 2, Cols: 1}
	for _, timing := range someTimings() {
		for _, a := range commandsIn(g) {
			for _, b := range commandsIn(g) {
				got := impl.Gap(g, timing, a, b)
				if got < 1 || got < impl.RankGap(timing, a.Kind, b.Kind, false) {
					t.Errorf("Gap(%+v, %+v, %+v, %+v) = %d", g, timing, a, b, got)
				}
				if !commandForms[a.Kind-1].bank || !commandForms[b.Kind-1].bank {
					continue
				}
				if a.Bank/2 == b.Bank/2 && got < impl.RankGap(timing, a.Kind, b.Kind, true) {
					t.Errorf("Gap(%+v, %+v, %+v, %+v) = %d in one group", g, timing, a, b, got)
				}
				if a.Bank == b.Bank && got < impl.BankGap(timing, a.Kind, b.Kind) {
					t.Errorf("Gap(%+v, %+v, %+v, %+v) = %d in one bank", g, timing, a, b, got)
				}
			}
		}
	}
}

// One of the geometries has more groups than another one, so that the same
// banks are in one group or in two.
func TestGapDependsOnTheGroups(t *testing.T) {
	f := impl.FastTiming()
	first, second := impl.Command{Kind: impl.CmdAct, Bank: 1}, impl.Command{Kind: impl.CmdAct, Bank: 2}
	for banks, want := range map[int]int{2: 2, 3: 3, 4: 3} {
		g := impl.Geometry{Groups: 2, Banks: banks, Rows: 2, Cols: 1}
		expectGap(t, g, f, first, second, want)
		expectGap(t, g, f, second, first, want)
	}
}

func TestGapOfInvalidGeometry(t *testing.T) {
	for _, g := range noGeometries() {
		for _, form := range commandForms {
			for _, bank := range []int{0, 1} {
				c := impl.Command{Kind: form.kind}
				if form.bank {
					c.Bank = bank
				}
				expectGap(t, g, impl.FastTiming(), c, c, 0)
				expectGap(t, g, impl.FastTiming(), c, impl.Command{Kind: impl.CmdPdx}, 0)
				expectGap(t, g, impl.FastTiming(), impl.Command{Kind: impl.CmdPdx}, c, 0)
			}
		}
	}
}

func TestGapOfInvalidCommands(t *testing.T) {
	largest := impl.Geometry{Groups: 2, Banks: 4, Rows: 16, Cols: 8}
	known := map[impl.Command]bool{}
	for _, c := range allCommands() {
		known[c] = true
	}
	for _, c := range commandsOfAnyFields() {
		if known[c] {
			continue
		}
		for _, other := range []impl.Command{{Kind: impl.CmdAct}, {Kind: impl.CmdPdx}, c} {
			expectGap(t, largest, impl.FastTiming(), c, other, 0)
			expectGap(t, largest, impl.FastTiming(), other, c, 0)
		}
	}
}

// A well-formed command that does not exist in the geometry has no distance.
func TestGapOfMissingCommands(t *testing.T) {
	for _, g := range gapGeometries() {
		present := commandsIn(g)
		for _, c := range allCommands() {
			if slices.Contains(present, c) {
				continue
			}
			for _, other := range []impl.Command{{Kind: impl.CmdRead}, {Kind: impl.CmdSrx}, c} {
				expectGap(t, g, impl.FastTiming(), c, other, 0)
				expectGap(t, g, impl.FastTiming(), other, c, 0)
			}
		}
	}
}

func TestFawOk(t *testing.T) {
	f := impl.FastTiming()
	cases := []struct {
		times []int
		want  bool
	}{
		{nil, true}, {[]int{}, true},
		{[]int{0}, true}, {[]int{impl.MaxTime}, true}, {[]int{-1}, false}, {[]int{impl.MaxTime + 1}, false},
		{[]int{math.MinInt}, false}, {[]int{math.MaxInt}, false},
		{[]int{0, 0, 0, 0}, true}, {[]int{9, 6, 3, 0}, true}, {[]int{impl.MaxTime, 0, impl.MaxTime, 0}, true},
		{[]int{0, 0, 0, -1}, false}, {[]int{0, 0, 0, impl.MaxTime + 1}, false}, {[]int{0, -1, 0, 0}, false},
		{[]int{0, 2, 4, 6, 9}, false}, {[]int{0, 2, 4, 6, 10}, true}, {[]int{0, 2, 4, 6, 11}, true},
		{[]int{5, 0, 0, 0, 14}, false}, {[]int{5, 0, 0, 0, 15}, true}, {[]int{5, 20, 30, 40, 15}, true},
		{[]int{0, 2, 4, 6, 10, 12}, true}, {[]int{0, 2, 4, 6, 10, 11}, false}, {[]int{0, 2, 4, 6, 10, 12, 14, 16, 20}, true},
		{[]int{0, 2, 4, 6, 10, 12, 14, 16, 19}, false}, {[]int{0, 2, 4, 6, 10, 12, 13, 16, 20}, false},
		{[]int{9, 8, 7, 6, 19, 18, 17, 16, 29}, true}, {[]int{9, 8, 7, 6, 19, 18, 17, 15, 29}, false},
		{[]int{0, 0, 0, 0, impl.MaxTime}, true}, {[]int{0, 0, 0, 0, impl.MaxTime + 1}, false}, {[]int{0, 0, 0, 0, -1}, false},
		{[]int{impl.MaxTime - 10, 0, 0, 0, impl.MaxTime}, true}, {[]int{impl.MaxTime - 9, 0, 0, 0, impl.MaxTime}, false},
		{[]int{impl.MaxTime - 9, 0, 0, 0, impl.MaxTime + 1}, false}, {[]int{-1, 2, 4, 6, 10}, false}, {[]int{-10, 2, 4, 6, 0}, false},
		{[]int{math.MinInt, 2, 4, 6, 10}, false}, {[]int{math.MaxInt, 2, 4, 6, 10}, false}, {[]int{0, 2, 4, 6, math.MaxInt}, false},
		{[]int{0, 2, 4, 6, math.MinInt}, false}, {[]int{math.MaxInt, 2, 4, 6, math.MinInt + 9}, false},
	}
	for _, c := range cases {
		expectFawOk(t, f, c.times, c.want)
	}
}

// The fifth activation is at least FAW after the first one, whatever FAW is.
func TestFawOkOfEveryFaw(t *testing.T) {
	for faw := 1; faw <= 64; faw++ {
		timing := timingWith(impl.FastTiming(), "FAW", faw)
		for _, start := range []int{0, 1, 100, impl.MaxTime - faw} {
			expectFawOk(t, timing, []int{start, 0, 0, 0, start + faw}, true)
			expectFawOk(t, timing, []int{start, 0, 0, 0, start + faw - 1}, false)
			expectFawOk(t, timing, []int{start, start, start, start, start + faw}, true)
			expectFawOk(t, timing, []int{start, start, start, start, start}, false)
		}
	}
}

func TestFawOkOfShortTimes(t *testing.T) {
	timing := timingWith(timingOf(2), "FAW", 2)
	for length := range 7 {
		for _, sequence := range sequencesOf([]string{"a", "b", "c", "d"}, length) {
			times := []int{}
			for _, letter := range sequence {
				times = append(times, int(letter[0]-'a'))
			}
			expectFawOk(t, timing, times, fawDistancesHold(timing, times))
		}
	}
}

// Each element of a long list is checked.
func TestFawOkOfLongTimes(t *testing.T) {
	f := impl.FastTiming()
	times := make([]int, 2100)
	for i := range times {
		times[i] = i/4*f.FAW + i%4
	}
	expectFawOk(t, f, times, true)
	for i := range times {
		for _, n := range []int{math.MinInt, -1, impl.MaxTime + 1, math.MaxInt} {
			other := slices.Clone(times)
			other[i] = n
			expectFawOk(t, f, other, false)
		}
		earlier, later := slices.Clone(times), slices.Clone(times)
		earlier[i]--
		later[i]++
		expectFawOk(t, f, earlier, i < 4 && i > 0)
		expectFawOk(t, f, later, i >= len(times)-4)
	}
}

func TestFawOkOfInvalidTiming(t *testing.T) {
	for _, timing := range noTimings() {
		for _, times := range [][]int{nil, {0}, {0, 0, 0, 0}, {0, 100, 200, 300, 400}, {0, 2, 4, 6, impl.MaxTime}, {-1}} {
			expectFawOk(t, timing, times, false)
		}
	}
}

func expectTimingOk(t *testing.T, timing impl.Timing) {
	t.Helper()
	if got, want := impl.TimingOk(timing), timingHolds(timing); got != want {
		t.Errorf("TimingOk(%+v) = %v, want %v", timing, got, want)
	}
}

func expectGaps(t *testing.T, timing impl.Timing, a, b, bank, near, far int) {
	t.Helper()
	if got := impl.BankGap(timing, a, b); got != bank {
		t.Errorf("BankGap(%+v, %d, %d) = %d, want %d", timing, a, b, got, bank)
	}
	if got := impl.RankGap(timing, a, b, true); got != near {
		t.Errorf("RankGap(%+v, %d, %d, true) = %d, want %d", timing, a, b, got, near)
	}
	if got := impl.RankGap(timing, a, b, false); got != far {
		t.Errorf("RankGap(%+v, %d, %d, false) = %d, want %d", timing, a, b, got, far)
	}
}

func expectGap(t *testing.T, g impl.Geometry, timing impl.Timing, a, b impl.Command, want int) {
	t.Helper()
	if got := impl.Gap(g, timing, a, b); got != want {
		t.Errorf("Gap(%+v, %+v, %+v, %+v) = %d, want %d", g, timing, a, b, got, want)
	}
}

func expectFawOk(t *testing.T, timing impl.Timing, times []int, want bool) {
	t.Helper()
	before := slices.Clone(times)
	if got := impl.FawOk(timing, times); got != want {
		t.Errorf("FawOk(%+v, %v) = %v, want %v", timing, times, got, want)
	}
	if !slices.Equal(times, before) {
		t.Errorf("FawOk changed %v to %v", before, times)
	}
}

// timingOf returns the timing whose numbers are all n.
func timingOf(n int) impl.Timing {
	timing := impl.Timing{}
	for _, name := range timingNames {
		timing = timingWith(timing, name, n)
	}
	return timing
}

func timingWith(timing impl.Timing, name string, n int) impl.Timing {
	reflect.ValueOf(&timing).Elem().FieldByName(name).SetInt(int64(n))
	return timing
}

func timingNumber(timing impl.Timing, name string) int {
	return int(reflect.ValueOf(timing).FieldByName(name).Int())
}

// distinctTiming is valid, and no number in it is equal to another one or to a
// sum that a rule uses.
func distinctTiming() impl.Timing {
	return impl.Timing{
		RCD: 19, RP: 7, RAS: 23, RRDS: 5, RRDL: 11, FAW: 64, CCDS: 2, CCDL: 13, RTP: 10,
		WR: 41, WTRS: 3, WTRL: 14, RTW: 37, RFC: 61, CKE: 6, XP: 15, XS: 53,
	}
}

// someTimings returns valid timings in which one or two numbers are far from
// the others.
func someTimings() []impl.Timing {
	timings := []impl.Timing{impl.FastTiming(), distinctTiming(), timingOf(1), timingOf(2), timingOf(63), timingOf(64)}
	for _, base := range []impl.Timing{impl.FastTiming(), distinctTiming(), timingOf(32)} {
		for _, name := range timingNames {
			for _, n := range []int{1, 2, 63, 64} {
				if timing := timingWith(base, name, n); timingHolds(timing) {
					timings = append(timings, timing)
				}
			}
		}
	}
	return timings
}

// noTimings returns the timings in which one number is out of its range or one
// pair is out of order.
func noTimings() []impl.Timing {
	timings := []impl.Timing{{}, timingOf(0), timingOf(65), timingOf(-1), timingOf(math.MinInt), timingOf(math.MaxInt)}
	for _, name := range timingNames {
		for _, n := range []int{math.MinInt, -1, 0, 65, math.MaxInt} {
			timings = append(timings, timingWith(impl.FastTiming(), name, n))
		}
	}
	for _, order := range timingOrders {
		greater := timingNumber(impl.FastTiming(), order[1]) + 1
		timings = append(timings, timingWith(impl.FastTiming(), order[0], greater), timingWith(timingOf(64), order[1], 63))
	}
	return timings
}

func timingHolds(timing impl.Timing) bool {
	for _, name := range timingNames {
		if n := timingNumber(timing, name); n < 1 || n > 64 {
			return false
		}
	}
	for _, order := range timingOrders {
		if timingNumber(timing, order[0]) > timingNumber(timing, order[1]) {
			return false
		}
	}
	return true
}

// kindsOrNone returns every kind and numbers that are none.
func kindsOrNone() []int {
	kinds := []int{math.MinInt, -1 << 32, -1, 1 << 32, 1<<32 + 1, math.MaxInt}
	for kind := range impl.CmdSrx + 3 {
		kinds = append(kinds, kind)
	}
	return kinds
}

// commandsIn returns the commands that exist in g.
func commandsIn(g impl.Geometry) []impl.Command {
	return slices.DeleteFunc(allCommands(), func(c impl.Command) bool {
		return c.Bank >= g.Groups*g.Banks || c.Row >= g.Rows || c.Col >= g.Cols
	})
}

func gapGeometries() []impl.Geometry {
	return []impl.Geometry{
		{Groups: 1, Banks: 1, Rows: 2, Cols: 1}, {Groups: 2, Banks: 1, Rows: 2, Cols: 1}, {Groups: 1, Banks: 4, Rows: 2, Cols: 2},
		{Groups: 2, Banks: 2, Rows: 4, Cols: 2}, {Groups: 2, Banks: 3, Rows: 3, Cols: 2}, {Groups: 2, Banks: 4, Rows: 2, Cols: 3},
	}
}

func bankDistance(timing impl.Timing, a, b int) int {
	return ruleDistance(timing, bankTimingRules, a, b)
}

func rankDistance(timing impl.Timing, a, b int, near bool) int {
	rules := append(slices.Clone(rankTimingRules), farTimingRules...)
	if near {
		rules = append(slices.Clone(rankTimingRules), nearTimingRules...)
	}
	for kind := impl.CmdAct; kind <= impl.CmdSrx; kind++ {
		rules = append(rules, timingRule{impl.CmdPdx, kind, []string{"XP"}}, timingRule{impl.CmdSrx, kind, []string{"XS"}})
	}
	return ruleDistance(timing, rules, a, b)
}

func ruleDistance(timing impl.Timing, rules []timingRule, a, b int) int {
	sum := 0
	for _, rule := range rules {
		if rule.from == a && rule.to == b {
			for _, name := range rule.numbers {
				sum += timingNumber(timing, name)
			}
		}
	}
	return sum
}

func commandDistance(g impl.Geometry, timing impl.Timing, a, b impl.Command) int {
	banks := commandForms[a.Kind-1].bank && commandForms[b.Kind-1].bank
	most := max(1, rankDistance(timing, a.Kind, b.Kind, banks && a.Bank/g.Banks == b.Bank/g.Banks))
	if banks && a.Bank == b.Bank {
		most = max(most, bankDistance(timing, a.Kind, b.Kind))
	}
	return most
}

func fawDistancesHold(timing impl.Timing, times []int) bool {
	for i := range len(times) - min(4, len(times)) {
		if times[i+4]-times[i] < timing.FAW {
			return false
		}
	}
	return true
}
