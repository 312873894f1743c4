package tests

import (
	"math"
	"slices"
	"strconv"
	"strings"
	"testing"

	"loop.example/g00977/impl"
)

// traceGeometry has two groups of two banks.
var traceGeometry = impl.Geometry{Groups: 2, Banks: 2, Rows: 4, Cols: 2}

// A traceModel compares every two events of a trace, as the chapter says.
type traceModel struct {
	g      impl.Geometry
	timing impl.Timing
	known  map[impl.Command]bool
	gaps   map[[2]impl.Command]int
}

func TestTraceNames(t *testing.T) {
	if impl.TrForm != 1 || impl.TrState != 2 || impl.TrGap != 3 || impl.TrFaw != 4 || impl.MaxTrace != 2000 {
		t.Errorf("the constants are %d, %d, %d, %d and %d", impl.TrForm, impl.TrState, impl.TrGap, impl.TrFaw, impl.MaxTrace)
	}
}

func TestTraceFaultExamples(t *testing.T) {
	cases := []struct {
		trace     string
		code, bad int
	}{
		{"", 0, -1},
		{"0 act 0 1", 0, -1}, {"1 act 0 1", 0, -1}, {"1000000 act 3 3", 0, -1},
		{"0 act 0 1, 3 read 0 0, 7 pre 0", 0, -1},
		{"-1 act 0 1", impl.TrForm, 0}, {"1000001 act 0 1", impl.TrForm, 0},
		{"999997 act 0 1, 1000000 read 0 1", 0, -1}, {"999998 act 0 1, 1000001 read 0 1", impl.TrForm, 1},
		{"5 act 0 1, 5 pre 1", impl.TrForm, 1}, {"5 act 0 1, 4 pre 1", impl.TrForm, 1}, {"5 act 0 1, 0 act 1 1", impl.TrForm, 1},
		{"5 act 0 1, -1 act 1 1", impl.TrForm, 1},
		{"0 act 4 0", impl.TrForm, 0}, {"0 act 0 4", impl.TrForm, 0}, {"0 act 0 1, 3 read 0 2", impl.TrForm, 1}, {"0 act 0 1, 3 read 4 0", impl.TrForm, 1},
		{"0 read 0 1", impl.TrState, 0}, {"0 up", impl.TrState, 0}, {"0 act 0 1, 90 act 0 1", impl.TrState, 1}, {"0 act 0 1, 90 ref 0", impl.TrState, 1},
		{"0 act 0 1, 90 read 1 0", impl.TrState, 1}, {"0 act 0 1, 90 sleep", impl.TrState, 1}, {"0 down, 90 act 0 1", impl.TrState, 1},
		{"0 sleep, 90 up", impl.TrState, 1}, {"0 down, 90 wake", impl.TrState, 1}, {"0 act 0 1, 90 pre 0, 180 pre 0", impl.TrState, 2},
		{"0 act 0 1, 2 read 0 0", impl.TrGap, 1}, {"0 act 0 1, 6 pre 0", impl.TrGap, 1}, {"0 act 0 1, 7 pre 0", 0, -1},
		{"0 act 0 1, 2 act 1 1", impl.TrGap, 1}, {"0 act 0 1, 3 act 1 1", 0, -1}, {"0 act 0 1, 1 act 2 1", impl.TrGap, 1}, {"0 act 0 1, 2 act 2 1", 0, -1},
		{"0 sleep, 2 wake", impl.TrGap, 1}, {"0 sleep, 3 wake", 0, -1}, {"0 sleep, 3 wake, 18 act 0 0", impl.TrGap, 2}, {"0 sleep, 3 wake, 19 act 0 0", 0, -1},
		{"0 down, 3 up, 6 ref 0", impl.TrGap, 2}, {"0 down, 3 up, 7 ref 0", 0, -1}, {"0 ref 2, 11 act 2 0", impl.TrGap, 1}, {"0 ref 2, 12 act 2 0", 0, -1},
		// The distance to an event that is not the last one.
		{"0 act 0 1, 2 act 2 1, 6 pre 0", impl.TrGap, 2}, {"0 act 0 1, 2 act 2 1, 7 pre 0", 0, -1},
		{"0 act 0 1, 7 pre 0, 9 ref 1, 9 act 0 1", impl.TrForm, 3}, {"0 act 0 1, 7 pre 0, 8 ref 1, 9 act 0 1", impl.TrGap, 3}, {"0 act 0 1, 7 pre 0, 8 ref 1, 10 act 0 1", 0, -1},
		{"0 act 0 1, 3 write 0 0, 4 act 2 0, 7 read 2 0, 8 pre 0", impl.TrGap, 4}, {"0 act 0 1, 3 write 0 0, 4 act 2 0, 7 read 2 0, 9 pre 0", 0, -1},
		{"0 ref 0, 3 ref 1, 6 ref 2, 9 ref 3, 11 act 0 0", impl.TrGap, 4}, {"0 ref 0, 3 ref 1, 6 ref 2, 9 ref 3, 12 act 0 0", 0, -1},
		{"0 ref 0, 1 down, 4 up, 8 down, 11 up, 15 sleep", 0, -1}, {"0 ref 0, 1 down, 4 up, 8 down, 11 up, 14 sleep", impl.TrGap, 5},
	}
	for _, c := range cases {
		expectFault(t, traceGeometry, impl.FastTiming(), traceOf(c.trace), c.code, c.bad)
	}
}

// With FAW 40, four activations are always farther than the other distances
// from the fifth one.
func TestTraceFaultOfTheFifthActivation(t *testing.T) {
	timing := timingWith(impl.FastTiming(), "FAW", 40)
	four := "5 act 0 1, 7 act 2 1, 10 act 1 1, 12 act 3 1, "
	cases := []struct {
		trace     string
		code, bad int
	}{
		{"5 act 0 1, 7 act 2 1, 10 act 1 1, 12 act 3 1", 0, -1},
		{four + "12 pre 0, 44 act 0 1", impl.TrForm, 4},
		{four + "13 pre 0, 44 act 0 1", impl.TrFaw, 5}, {four + "13 pre 0, 45 act 0 1", 0, -1}, {four + "13 pre 0, 16 act 0 1", impl.TrFaw, 5},
		{four + "13 pre 0, 15 act 0 1", impl.TrGap, 5},
		{four + "13 pre 0, 44 ref 0, 45 act 0 1", impl.TrGap, 6}, {four + "13 pre 0, 31 ref 0, 44 act 0 1", impl.TrFaw, 6}, {four + "13 pre 0, 31 ref 0, 45 act 0 1", 0, -1},
		{four + "13 pre 0, 14 pre 2, 45 act 0 1, 46 act 2 1", impl.TrGap, 7}, {four + "14 pre 0, 15 pre 2, 45 act 0 1, 47 act 2 1", 0, -1},
		{four + "14 pre 0, 15 pre 2, 46 act 0 1, 48 act 2 1", 0, -1}, {four + "14 pre 0, 17 pre 1, 45 act 0 1, 48 act 1 1", 0, -1},
		{four + "14 pre 0, 17 pre 1, 19 pre 3, 45 act 0 1, 48 act 1 1, 50 act 3 1", 0, -1},
		{four + "14 pre 0, 17 pre 1, 19 pre 3, 45 act 0 1, 48 act 1 1, 51 act 3 1", 0, -1},
		{four + "14 pre 0, 17 pre 1, 19 pre 3, 45 act 0 1, 47 act 3 1, 49 act 1 1", impl.TrFaw, 9},
		{four + "14 pre 0, 17 pre 1, 19 pre 3, 45 act 0 1, 47 act 3 1, 50 act 1 1", 0, -1},
	}
	for _, c := range cases {
		expectFault(t, traceGeometry, timing, traceOf(c.trace), c.code, c.bad)
	}
	for faw := 1; faw <= 64; faw++ {
		for _, start := range []int{0, 1, 700, impl.MaxTime - 64} {
			list := []impl.Event{}
			for bank := range 5 {
				list = append(list, impl.Event{At: start + 10*bank, Cmd: impl.Command{Kind: impl.CmdAct, Bank: bank % 4}})
			}
			first := impl.Event{At: start + 35, Cmd: impl.Command{Kind: impl.CmdPre}}
			list = slices.Insert(list, 4, first)
			list[5].At = start + max(38, faw)
			timing := timingWith(impl.FastTiming(), "FAW", faw)
			expectFault(t, traceGeometry, timing, list, 0, -1)
			expectEarliest(t, traceGeometry, timing, list[:5], list[5].Cmd, start+max(38, faw))
			list[5].At--
			code := impl.TrGap
			if faw > 38 {
				code = impl.TrFaw
			}
			expectFault(t, traceGeometry, timing, list, code, 5)
		}
	}
}

// An event may break several rules: the first check decides.
func TestTraceFaultOfSeveralFaultsAtOnce(t *testing.T) {
	timing := timingWith(impl.FastTiming(), "FAW", 40)
	opened := "5 act 0 1, 7 act 2 1, 10 act 1 1, 12 act 3 1"
	closed := opened + ", 14 pre 0"
	cases := []struct {
		trace     string
		code, bad int
	}{
		{opened + ", 12 act 0 1", impl.TrForm, 4}, {opened + ", 13 act 0 1", impl.TrState, 4}, {closed + ", 14 act 0 1", impl.TrForm, 5},
		{closed + ", 15 act 0 1", impl.TrGap, 5}, {closed + ", 17 act 0 1", impl.TrFaw, 5}, {closed + ", 15 act 0 4", impl.TrForm, 5},
		{closed + ", 15 act 1 1", impl.TrState, 5}, {closed + ", 17 act 1 1", impl.TrState, 5},
		{"5 read 0 0, 5 read 0 0", impl.TrState, 0}, {"0 act 0 1, 0 read 1 0", impl.TrForm, 1}, {"0 act 0 1, 1 act 0 1", impl.TrState, 1},
		{"1000001 read 0 0", impl.TrForm, 0}, {"-1 read 0 0", impl.TrForm, 0}, {"0 read 0 2", impl.TrForm, 0}, {"0 down, 1 sleep", impl.TrState, 1},
		// Several events have faults: the first of them decides.
		{"0 read 0 0, -1 act 0 1", impl.TrState, 0}, {"0 act 0 1, 2 read 0 0, 2 read 0 2", impl.TrGap, 1}, {"0 act 0 1, 2 pre 0, 1000001 up", impl.TrGap, 1},
		{closed + ", 17 act 0 1, 17 act 0 9", impl.TrFaw, 5}, {closed + ", 17 act 0 1, 18 act 0 1", impl.TrFaw, 5}, {closed + ", 44 act 0 1, 45 pre 0", impl.TrFaw, 5},
		{"0 act 0 1, 1 read 0 0, 2 act 0 1", impl.TrGap, 1}, {"0 act 0 1, 1 act 0 1, 2 read 0 0", impl.TrState, 1}, {"3 up, 2 act 0 4", impl.TrState, 0},
	}
	for _, c := range cases {
		list := traceOf(c.trace)
		expectFault(t, traceGeometry, timing, list, c.code, c.bad)
		expectEarliest(t, traceGeometry, timing, list, impl.Command{Kind: impl.CmdPdx}, -1)
		expectEarliest(t, traceGeometry, timing, list, impl.Command{Kind: impl.CmdPde}, -1)
	}
}

func TestTracesOfInvalidGeometryOrTiming(t *testing.T) {
	f, c := impl.FastTiming(), impl.Command{Kind: impl.CmdPde}
	bad := []impl.Event{{At: 0, Cmd: c}, {At: 0, Cmd: impl.Command{Kind: 77}}}
	for _, list := range [][]impl.Event{nil, {{At: 0, Cmd: c}}, bad, spreadTrace(2001)} {
		for _, g := range noGeometries() {
			expectFault(t, g, f, list, impl.TrForm, -1)
			expectEarliest(t, g, f, list, c, -1)
			expectEnd(t, g, list, impl.Rank{}, false)
		}
		for _, timing := range noTimings() {
			expectFault(t, traceGeometry, timing, list, impl.TrForm, -1)
			expectEarliest(t, traceGeometry, timing, list, c, -1)
		}
		expectFault(t, impl.Geometry{}, impl.Timing{}, list, impl.TrForm, -1)
	}
}

// spreadTrace enters power-down and leaves it again, with distances that no
// rule of the fast timing forbids.
func spreadTrace(count int) []impl.Event {
	list := []impl.Event{}
	for i := range count {
		list = append(list, impl.Event{At: 4 * i, Cmd: impl.Command{Kind: impl.CmdPde + i%2}})
	}
	return list
}

func TestTracesOfMaxTraceEvents(t *testing.T) {
	f := impl.FastTiming()
	down, up := impl.Command{Kind: impl.CmdPde}, impl.Command{Kind: impl.CmdPdx}
	expectFault(t, traceGeometry, f, spreadTrace(1999), 0, -1)
	expectFault(t, traceGeometry, f, spreadTrace(2000), 0, -1)
	for _, count := range []int{2001, 2002, 4000, 20000} {
		expectFault(t, traceGeometry, f, spreadTrace(count), impl.TrForm, -1)
	}
	expectEarliest(t, traceGeometry, f, spreadTrace(1998), down, 4*1997+4)
	expectEarliest(t, traceGeometry, f, spreadTrace(1999), up, 4*1998+3)
	for _, count := range []int{2000, 2001, 2002, 4000} {
		expectEarliest(t, traceGeometry, f, spreadTrace(count), down, -1)
		expectEarliest(t, traceGeometry, f, spreadTrace(count), up, -1)
	}
	for _, i := range []int{0, 1, 2, 1000, 1998, 1999} {
		list := spreadTrace(2000)
		list[i].Cmd.Kind = 10
		expectFault(t, traceGeometry, f, list, impl.TrForm, i)
		expectFault(t, traceGeometry, f, append(list, impl.Event{At: 8000, Cmd: down}), impl.TrForm, -1)
		list[i].Cmd.Kind = impl.CmdPre
		expectFault(t, traceGeometry, f, list, impl.TrState, i)
	}
	// TraceEnd has no limit.
	for _, count := range []int{1999, 2000, 2001, 5001} {
		expectEnd(t, traceGeometry, spreadTrace(count), impl.Rank{Banks: make([]impl.Bank, 4), Power: count % 2}, true)
	}
	if got := impl.ActTimes(slices.Repeat(traceOf("7 act 0 1"), 5000)); !slices.Equal(got, slices.Repeat([]int{7}, 5000)) {
		t.Errorf("ActTimes returns %d times of 5000", len(got))
	}
	if got := impl.FormatTrace(spreadTrace(5000)); strings.Count(got, "\n") != 5000 || !strings.HasSuffix(got, "\n19992 down\n19996 up\n") {
		t.Errorf("FormatTrace returns %d lines of 5000", strings.Count(got, "\n"))
	}
}

func TestTraceFaultOfInvalidEvents(t *testing.T) {
	f, first := impl.FastTiming(), traceOf("0 act 0 1")
	for _, at := range append([]int{-2, -1, impl.MaxTime + 1, impl.MaxTime + 2}, farNumbers...) {
		for _, c := range []impl.Command{{Kind: impl.CmdAct}, {Kind: impl.CmdRead}, {Kind: impl.CmdPdx}, {}} {
			e := impl.Event{At: at, Cmd: c}
			expectFault(t, traceGeometry, f, []impl.Event{e}, impl.TrForm, 0)
			expectFault(t, traceGeometry, f, append(slices.Clone(first), e), impl.TrForm, 1)
			expectFault(t, traceGeometry, f, append([]impl.Event{e}, first...), impl.TrForm, 0)
			for _, next := range commandsIn(traceGeometry) {
				expectEarliest(t, traceGeometry, f, []impl.Event{e}, next, -1)
				expectEarliest(t, traceGeometry, f, append(slices.Clone(first), e), next, -1)
			}
		}
	}
	for _, name := range timingNames {
		for _, n := range []int{math.MinInt, math.MaxInt} {
			list := append(slices.Clone(first), impl.Event{At: n, Cmd: impl.Command{Kind: impl.CmdPre}})
			expectFault(t, traceGeometry, timingWith(f, name, n), list, impl.TrForm, -1)
			expectEarliest(t, traceGeometry, timingWith(f, name, n), list, impl.Command{Kind: impl.CmdAct}, -1)
		}
	}
}

func TestTracesOfInvalidCommands(t *testing.T) {
	g := impl.Geometry{Groups: 2, Banks: 4, Rows: 16, Cols: 8}
	known := map[impl.Command]bool{}
	for _, c := range allCommands() {
		known[c] = true
	}
	for _, c := range commandsOfAnyFields() {
		if !known[c] {
			expectInvalidCommand(t, g, c)
		}
	}
	for _, g := range gapGeometries() {
		present := commandsIn(g)
		for _, c := range allCommands() {
			if !slices.Contains(present, c) {
				expectInvalidCommand(t, g, c)
			}
		}
	}
}

func TestTracesWithUnusedFields(t *testing.T) {
	for _, c := range commandsIn(traceGeometry) {
		form := commandForms[c.Kind-1]
		for _, n := range append([]int{-1, 1, 2, 3}, farNumbers...) {
			if !form.bank {
				expectInvalidCommand(t, traceGeometry, impl.Command{Kind: c.Kind, Bank: n, Row: c.Row, Col: c.Col})
			}
			if !form.row {
				expectInvalidCommand(t, traceGeometry, impl.Command{Kind: c.Kind, Bank: c.Bank, Row: n, Col: c.Col})
			}
			if !form.col {
				expectInvalidCommand(t, traceGeometry, impl.Command{Kind: c.Kind, Bank: c.Bank, Row: c.Row, Col: n})
			}
		}
	}
}

func expectInvalidCommand(t *testing.T, g impl.Geometry, c impl.Command) {
	t.Helper()
	f := impl.FastTiming()
	list := []impl.Event{{At: 0, Cmd: impl.Command{Kind: impl.CmdAct, Row: 1}}, {At: 50, Cmd: c}}
	expectFault(t, g, f, list, impl.TrForm, 1)
	expectFault(t, g, f, list[1:], impl.TrForm, 0)
	expectEnd(t, g, list, impl.Rank{}, false)
	expectEarliest(t, g, f, nil, c, -1)
	expectEarliest(t, g, f, list[:1], c, -1)
	expectEarliest(t, g, f, list, impl.Command{Kind: impl.CmdPde}, -1)
}

func TestEarliestNextExamples(t *testing.T) {
	cases := []struct {
		trace, next string
		want        int
	}{
		{"", "act 0 1", 0}, {"", "ref 3", 0}, {"", "down", 0}, {"", "sleep", 0}, {"", "up", -1}, {"", "wake", -1}, {"", "read 0 0", -1}, {"", "pre 0", -1},
		{"", "act 4 0", -1}, {"", "act 0 4", -1}, {"", "read 0 2", -1},
		{"0 act 0 1", "read 0 0", 3}, {"0 act 0 1", "write 0 1", 3}, {"0 act 0 1", "pre 0", 7}, {"0 act 0 1", "act 1 0", 3}, {"0 act 0 1", "act 2 0", 2},
		{"0 act 0 1", "ref 1", 1}, {"0 act 0 1", "down", 1}, {"0 act 0 1", "act 0 1", -1}, {"0 act 0 1", "ref 0", -1}, {"0 act 0 1", "sleep", -1},
		{"0 act 0 1", "read 1 0", -1}, {"0 act 0 1", "read 0 2", -1}, {"90 act 0 1", "read 0 0", 93},
		{"0 act 0 1, 3 read 0 0, 7 pre 0", "act 0 0", 10}, {"0 act 0 1, 3 read 0 0, 7 pre 0", "sleep", 10}, {"0 act 0 1, 3 read 0 0, 7 pre 0", "act 1 0", 8},
		{"0 act 0 1, 3 write 0 0, 20 pre 0", "act 0 0", 23}, {"0 act 0 1, 3 write 0 0, 4 ref 2", "pre 0", 9}, {"0 act 0 1, 3 write 0 0, 4 ref 2", "ref 2", 16},
		{"0 sleep", "wake", 3}, {"0 sleep", "up", -1}, {"0 sleep, 3 wake", "ref 0", 19}, {"0 down", "up", 3}, {"0 down, 3 up", "down", 7}, {"0 down, 3 up", "up", -1},
		{"0 act 0 1, 2 act 2 1, 5 act 1 1, 7 act 3 1, 8 pre 0", "act 0 1", 11}, {"0 act 0 1, 2 act 2 1, 5 act 1 1, 7 act 3 1", "act 0 1", -1},
		{"999993 act 0 1", "pre 0", 1000000}, {"999994 act 0 1", "pre 0", -1}, {"999994 act 0 1", "read 0 1", 999997}, {"999997 act 0 1", "read 0 1", 1000000},
		{"999998 act 0 1", "read 0 1", -1}, {"999999 act 0 1", "ref 1", 1000000}, {"1000000 act 0 1", "ref 1", -1}, {"1000000 down", "up", -1},
		{"999984 sleep, 999987 wake", "down", -1}, {"999981 sleep, 999984 wake", "down", 1000000}, {"1000001 act 0 1", "ref 1", -1},
		{"0 act 0 1, 2 read 0 0", "pre 0", -1}, {"0 act 0 1, 0 act 2 0", "pre 0", -1}, {"0 act 0 1, 90 ref 0", "pre 0", -1}, {"-1 act 0 1", "pre 0", -1},
	}
	for _, c := range cases {
		expectEarliest(t, traceGeometry, impl.FastTiming(), traceOf(c.trace), commandOf(t, c.next), c.want)
	}
}

// The fourth activation before the next one decides whether its time is in the
// range.
func TestEarliestNextOfFawAtMaxTime(t *testing.T) {
	timing := timingWith(impl.FastTiming(), "FAW", 64)
	next := impl.Command{Kind: impl.CmdAct}
	for shift, want := range map[int]int{-64: impl.MaxTime, -65: impl.MaxTime - 1, -63: -1, -62: -1} {
		list := traceOf("0 act 0 1, 3 act 1 1, 6 act 2 1, 9 act 3 1, 12 pre 0")
		for i := range list {
			list[i].At += impl.MaxTime + shift
		}
		expectEarliest(t, traceGeometry, timing, list, next, want)
	}
}

// From the empty trace on, every command at its earliest time, and one cycle
// later, in all orders.
func TestTracesOfAllShortSequences(t *testing.T) {
	for _, timing := range []impl.Timing{impl.FastTiming(), timingWith(timingOf(1), "RTW", 3)} {
		for g, depth := range map[impl.Geometry]int{
			{Groups: 1, Banks: 1, Rows: 2, Cols: 1}: 5, {Groups: 1, Banks: 2, Rows: 2, Cols: 1}: 3, {Groups: 2, Banks: 1, Rows: 2, Cols: 1}: 3,
		} {
			m := newTraceModel(g, timing)
			followTraces(t, m, nil, depth)
		}
	}
}

func followTraces(t *testing.T, m traceModel, list []impl.Event, depth int) {
	end, ok := m.end(list)
	expectEnd(t, m.g, list, end, ok)
	for _, c := range commandsIn(m.g) {
		at := m.earliest(list, c)
		expectEarliest(t, m.g, m.timing, list, c, at)
		if at < 0 || depth == 1 {
			continue
		}
		for _, delay := range []int{0, 1} {
			followTraces(t, m, append(slices.Clone(list), impl.Event{At: at + delay, Cmd: c}), depth-1)
		}
	}
}

// Long traces, and the same traces with one event moved, replaced, doubled or
// left out.
func TestTracesOfLongWalks(t *testing.T) {
	seed := uint32(9)
	timings := someTimings()
	for i, g := range gapGeometries() {
		for k := i; k < len(timings); k += len(gapGeometries()) {
			m := newTraceModel(g, timings[k])
			list := walk(m, &seed, 32)
			expectFault(t, g, timings[k], list, 0, -1)
			expectChangedWalks(t, m, list, &seed)
			end, ok := m.end(list)
			expectEnd(t, g, list, end, ok)
			for _, c := range commandsIn(g) {
				expectEarliest(t, g, timings[k], list, c, m.earliest(list, c))
			}
		}
	}
}

// walk appends commands that are allowed, mostly at their earliest times.
func walk(m traceModel, seed *uint32, count int) []impl.Event {
	list := []impl.Event{}
	for range count {
		order := commandsIn(m.g)
		for i := range order {
			j := i + pick(seed, len(order)-i)
			order[i], order[j] = order[j], order[i]
		}
		for _, c := range order {
			if c.Kind >= impl.CmdPde && pick(seed, 3) > 0 {
				continue
			}
			if at := m.earliest(list, c); at >= 0 {
				list = append(list, impl.Event{At: at + max(0, pick(seed, 8)-5), Cmd: c})
				break
			}
		}
	}
	return list
}

func expectChangedWalks(t *testing.T, m traceModel, list []impl.Event, seed *uint32) {
	t.Helper()
	commands := commandsIn(m.g)
	for i := range list {
		moved := slices.Clone(list)
		moved[i].At += []int{-7, -2, -1, -1, 1, 2, 7}[pick(seed, 7)]
		expectModelFault(t, m, moved)
		closer := slices.Clone(list)
		for k := i; k < len(closer); k++ {
			closer[k].At--
		}
		expectModelFault(t, m, closer)
		replaced := slices.Clone(list)
		replaced[i].Cmd = commands[pick(seed, len(commands))]
		expectModelFault(t, m, replaced)
		if pick(seed, 4) == 0 {
			expectModelFault(t, m, slices.Insert(slices.Clone(list), i, list[i]))
			expectModelFault(t, m, slices.Delete(slices.Clone(list), i, i+1))
		}
	}
}

// A trace with the most events, each of them at its earliest time: no event can
// be a cycle earlier.
func TestTraceOfManyDenseEvents(t *testing.T) {
	g := impl.Geometry{Groups: 2, Banks: 4, Rows: 16, Cols: 8}
	for _, timing := range []impl.Timing{timingOf(1), timingWith(impl.FastTiming(), "FAW", 64), timingOf(64)} {
		m := newTraceModel(g, timing)
		list := denseTrace(m)
		expectFault(t, g, timing, list, 0, -1)
		for i := 1; i < len(list); i += 222 {
			early := slices.Clone(list)
			early[i].At--
			rank, _ := m.end(list[:i])
			expectFault(t, g, timing, early, m.eventCode(early, i, rank), i)
			expectEarliest(t, g, timing, list[:i], list[i].Cmd, list[i].At)
		}
	}
}

func denseTrace(m traceModel) []impl.Event {
	list, acts := []impl.Event{}, []int{}
	for i := range 2000 {
		c := impl.Command{Kind: impl.CmdAct + i/8%5, Bank: i * 3 % 8}
		at := 0
		for _, e := range list {
			at = max(at, e.At+m.gap(e.Cmd, c))
		}
		if c.Kind == impl.CmdAct && len(acts) >= 4 {
			at = max(at, acts[len(acts)-4]+m.timing.FAW)
		}
		if c.Kind == impl.CmdAct {
			acts = append(acts, at)
		}
		list = append(list, impl.Event{At: at, Cmd: c})
	}
	return list
}

// A trace of which the state is asked needs no valid times.
func TestTraceEnd(t *testing.T) {
	row := func(n int) impl.Bank { return impl.Bank{Open: true, Row: n} }
	closed := impl.Bank{}
	cases := []struct {
		trace string
		want  impl.Rank
		ok    bool
	}{
		{"", impl.Rank{Banks: []impl.Bank{closed, closed, closed, closed}}, true},
		{"0 act 0 3", impl.Rank{Banks: []impl.Bank{row(3), closed, closed, closed}}, true},
		{"0 act 0 1, 3 read 0 0, 7 pre 0", impl.Rank{Banks: []impl.Bank{closed, closed, closed, closed}}, true},
		{"0 act 0 1, 2 act 2 0, 3 down", impl.Rank{Banks: []impl.Bank{row(1), closed, row(0), closed}, Power: 1}, true},
		{"0 act 0 1, 2 act 2 0, 3 down, 6 up, 10 pre 0", impl.Rank{Banks: []impl.Bank{closed, closed, row(0), closed}}, true},
		{"0 sleep", impl.Rank{Banks: []impl.Bank{closed, closed, closed, closed}, Power: 2}, true},
		// The times have faults, the commands have none.
		{"0 act 0 1, 0 read 0 0, 0 pre 0, 0 act 0 2", impl.Rank{Banks: []impl.Bank{row(2), closed, closed, closed}}, true},
		{"-9 act 3 1, -10 act 1 2, 1000001 ref 0", impl.Rank{Banks: []impl.Bank{closed, row(2), closed, row(1)}}, true},
		{"9 sleep, 8 wake, 7 down", impl.Rank{Banks: []impl.Bank{closed, closed, closed, closed}, Power: 1}, true},
		{"0 act 0 1, 1 act 1 1, 2 act 2 1, 3 act 3 1, 4 pre 0, 5 act 0 3", impl.Rank{Banks: []impl.Bank{row(3), row(1), row(1), row(1)}}, true},
		{"-9223372036854775808 act 0 1, 9223372036854775807 down", impl.Rank{Banks: []impl.Bank{row(1), closed, closed, closed}, Power: 1}, true},
		{"0 read 0 0", impl.Rank{}, false}, {"0 up", impl.Rank{}, false}, {"0 act 0 1, 20 act 0 1", impl.Rank{}, false}, {"0 act 0 1, 20 sleep", impl.Rank{}, false},
		{"0 act 0 1, 20 pre 0, 40 read 0 0", impl.Rank{}, false}, {"0 act 0 1, 20 down, 40 read 0 0, 60 up", impl.Rank{}, false},
		{"0 act 4 0", impl.Rank{}, false}, {"0 act 0 4", impl.Rank{}, false}, {"0 act 0 0, 20 read 0 2", impl.Rank{}, false},
	}
	for _, c := range cases {
		expectEnd(t, traceGeometry, traceOf(c.trace), c.want, c.ok)
	}
}

func TestTraceEndResultIsNew(t *testing.T) {
	list := traceOf("0 act 0 1, 3 read 0 0")
	for _, trace := range [][]impl.Event{nil, list} {
		first, _ := impl.TraceEnd(traceGeometry, trace)
		want := slices.Clone(first.Banks)
		for i := range first.Banks {
			first.Banks[i] = impl.Bank{Open: true, Row: 99}
		}
		if got, _ := impl.TraceEnd(traceGeometry, trace); !slices.Equal(got.Banks, want) {
			t.Errorf("TraceEnd(%v) = %+v after a change of an earlier result", trace, got)
		}
	}
}

// Neither ActTimes nor FormatTrace asks for a valid trace.
func TestActTimesAndFormatTrace(t *testing.T) {
	act := impl.Command{Kind: impl.CmdAct, Bank: 7, Row: 15}
	cases := []struct {
		list  []impl.Event
		times []int
		text  string
	}{
		{nil, nil, ""}, {[]impl.Event{}, nil, ""},
		{traceOf("0 act 0 1"), []int{0}, "0 act 0 1\n"},
		{traceOf("0 act 0 1, 3 read 0 0, 7 pre 0"), []int{0}, "0 act 0 1\n3 read 0 0\n7 pre 0\n"},
		{traceOf("3 ref 5, 4 down, 7 up, 12 sleep, 15 wake"), nil, "3 ref 5\n4 down\n7 up\n12 sleep\n15 wake\n"},
		{traceOf("9 act 1 2, 9 act 1 2, 8 write 1 7, -3 act 0 0"), []int{9, 9, -3}, "9 act 1 2\n9 act 1 2\n8 write 1 7\n-3 act 0 0\n"},
		{traceOf("1000000 act 7 15, 1000001 act 0 9"), []int{1000000, 1000001}, "1000000 act 7 15\n1000001 act 0 9\n"},
		{[]impl.Event{{At: math.MinInt, Cmd: act}, {At: math.MaxInt, Cmd: act}}, []int{math.MinInt, math.MaxInt},
			"-9223372036854775808 act 7 15\n9223372036854775807 act 7 15\n"},
		{[]impl.Event{{}, {At: 5}, {At: 6, Cmd: impl.Command{Kind: 10}}}, nil, "0 \n5 \n6 \n"},
		{[]impl.Event{{At: 2, Cmd: impl.Command{Kind: impl.CmdAct, Bank: 8}}, {At: 1, Cmd: impl.Command{Kind: impl.CmdAct, Col: 1}}}, []int{2, 1}, "2 \n1 \n"},
		{[]impl.Event{{At: -1, Cmd: impl.Command{Kind: math.MinInt}}, {At: 4, Cmd: impl.Command{Kind: impl.CmdAct, Row: math.MaxInt}}}, []int{4}, "-1 \n4 \n"},
	}
	for _, c := range cases {
		expectActTimes(t, c.list, c.times)
		expectTraceText(t, c.list, c.text)
	}
	for _, c := range commandsOfAnyFields() {
		e := impl.Event{At: c.Row, Cmd: c}
		if c.Kind == impl.CmdAct {
			expectActTimes(t, []impl.Event{e}, []int{c.Row})
		} else {
			expectActTimes(t, []impl.Event{e}, nil)
		}
		expectTraceText(t, []impl.Event{e}, impl.FormatInt(c.Row)+" "+impl.FormatCommand(c)+"\n")
	}
}

func TestActTimesResultIsNew(t *testing.T) {
	list := traceOf("2 act 0 1, 5 act 1 1")
	first := impl.ActTimes(list)
	first[0], first[1] = 77, 78
	expectActTimes(t, list, []int{2, 5})
}

func expectFault(t *testing.T, g impl.Geometry, timing impl.Timing, list []impl.Event, code, bad int) {
	t.Helper()
	expectUnchanged(t, "TraceFault", list, func(list []impl.Event) {
		if got, i := impl.TraceFault(g, timing, list); got != code || i != bad {
			t.Errorf("TraceFault(%+v, %+v, %v) = %d, %d, want %d, %d", g, timing, some(list), got, i, code, bad)
		}
	})
}

func expectModelFault(t *testing.T, m traceModel, list []impl.Event) {
	t.Helper()
	code, bad := m.fault(list)
	expectFault(t, m.g, m.timing, list, code, bad)
}

func expectEnd(t *testing.T, g impl.Geometry, list []impl.Event, want impl.Rank, ok bool) {
	t.Helper()
	expectUnchanged(t, "TraceEnd", list, func(list []impl.Event) {
		if got, gotOk := impl.TraceEnd(g, list); !sameRank(got, want) || gotOk != ok {
			t.Errorf("TraceEnd(%+v, %v) = %+v, %v, want %+v, %v", g, some(list), got, gotOk, want, ok)
		}
	})
}

// expectEarliest also checks that the command causes no fault at its earliest
// time and one at each earlier time.
func expectEarliest(t *testing.T, g impl.Geometry, timing impl.Timing, list []impl.Event, c impl.Command, want int) {
	t.Helper()
	expectUnchanged(t, "EarliestNext", list, func(list []impl.Event) {
		if got := impl.EarliestNext(g, timing, list, c); got != want {
			t.Errorf("EarliestNext(%+v, %+v, %v, %+v) = %d, want %d", g, timing, some(list), c, got, want)
		}
	})
	if want < 0 {
		return
	}
	expectFault(t, g, timing, append(slices.Clone(list), impl.Event{At: want, Cmd: c}), 0, -1)
	for at := want - 1; at >= max(-1, want-3); at-- {
		code, bad := impl.TraceFault(g, timing, append(slices.Clone(list), impl.Event{At: at, Cmd: c}))
		if code == 0 || bad != len(list) {
			t.Errorf("TraceFault of %v and then %+v at %d = %d, %d", some(list), c, at, code, bad)
		}
	}
}

func expectActTimes(t *testing.T, list []impl.Event, want []int) {
	t.Helper()
	expectUnchanged(t, "ActTimes", list, func(list []impl.Event) {
		if got := impl.ActTimes(list); !slices.Equal(got, want) {
			t.Errorf("ActTimes(%v) = %v, want %v", list, got, want)
		}
	})
}

func expectTraceText(t *testing.T, list []impl.Event, want string) {
	t.Helper()
	expectUnchanged(t, "FormatTrace", list, func(list []impl.Event) {
		if got := impl.FormatTrace(list); got != want {
			t.Errorf("FormatTrace(%v) = %q, want %q", list, got, want)
		}
	})
}

// expectUnchanged passes a copy of the list with some capacity behind it, and
// checks that the call changes neither.
func expectUnchanged(t *testing.T, name string, list []impl.Event, call func([]impl.Event)) {
	t.Helper()
	mark := impl.Event{At: -55, Cmd: impl.Command{Kind: 55}}
	before := append(slices.Clone(list), mark, mark)
	backing := slices.Clone(before)
	call(backing[:len(list)])
	if !slices.Equal(backing, before) {
		t.Errorf("%s changed %v to %v", name, some(before), some(backing))
	}
}

// some returns the end of a list that is too long to be printed.
func some(list []impl.Event) []impl.Event { return list[max(0, len(list)-50):] }

// traceOf reads "At command, At command, ..".
func traceOf(text string) []impl.Event {
	list := []impl.Event{}
	for part := range strings.SplitSeq(text, ", ") {
		at, command, found := strings.Cut(part, " ")
		if !found {
			continue
		}
		n, err := strconv.Atoi(at)
		c, ok := impl.ParseCommand(command)
		if err != nil || !ok {
			panic("no event: " + part)
		}
		list = append(list, impl.Event{At: n, Cmd: c})
	}
	return list
}

func newTraceModel(g impl.Geometry, timing impl.Timing) traceModel {
	m := traceModel{g: g, timing: timing, known: map[impl.Command]bool{}, gaps: map[[2]impl.Command]int{}}
	for _, c := range commandsIn(g) {
		m.known[c] = true
	}
	return m
}

func (m traceModel) gap(a, b impl.Command) int {
	key := [2]impl.Command{a, b}
	if _, ok := m.gaps[key]; !ok {
		m.gaps[key] = commandDistance(m.g, m.timing, a, b)
	}
	return m.gaps[key]
}

func (m traceModel) fault(list []impl.Event) (int, int) {
	rank := impl.Rank{Banks: make([]impl.Bank, m.g.Groups*m.g.Banks)}
	for i, e := range list {
		if code := m.eventCode(list, i, rank); code != 0 {
			return code, i
		}
		rank, _ = rankStep(rank, e.Cmd)
	}
	return 0, -1
}

// eventCode expects that the events before index i have no fault and lead to
// the state.
func (m traceModel) eventCode(list []impl.Event, i int, rank impl.Rank) int {
	e := list[i]
	if !m.known[e.Cmd] || e.At < 0 || e.At > 1000000 || i > 0 && e.At <= list[i-1].At {
		return impl.TrForm
	}
	if _, ok := rankStep(rank, e.Cmd); !ok {
		return impl.TrState
	}
	acts := []int{}
	for _, earlier := range list[:i] {
		if e.At < earlier.At+m.gap(earlier.Cmd, e.Cmd) {
			return impl.TrGap
		}
		if earlier.Cmd.Kind == impl.CmdAct {
			acts = append(acts, earlier.At)
		}
	}
	if e.Cmd.Kind == impl.CmdAct && len(acts) >= 4 && e.At < acts[len(acts)-4]+m.timing.FAW {
		return impl.TrFaw
	}
	return 0
}

// end expects commands that exist in the geometry.
func (m traceModel) end(list []impl.Event) (impl.Rank, bool) {
	rank, ok := impl.Rank{Banks: make([]impl.Bank, m.g.Groups*m.g.Banks)}, true
	for _, e := range list {
		if rank, ok = rankStep(rank, e.Cmd); !ok {
			return impl.Rank{}, false
		}
	}
	return rank, true
}

// earliest tries one time after the other. It expects a list without faults.
func (m traceModel) earliest(list []impl.Event, c impl.Command) int {
	rank, _ := m.end(list)
	longer := append(slices.Clone(list), impl.Event{Cmd: c})
	next := &longer[len(list)]
	if len(list) > 0 {
		next.At = list[len(list)-1].At
	}
	for ; next.At <= 1000000; next.At++ {
		code := m.eventCode(longer, len(list), rank)
		if code == 0 {
			return next.At
		}
		if code == impl.TrState {
			return -1
		}
	}
	return -1
}

// pick returns a number from 0 to n-1.
func pick(seed *uint32, n int) int {
	*seed = *seed*1664525 + 1013904223
	return int(*seed>>8) % n
}
