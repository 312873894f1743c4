package tests

import (
	"math"
	"slices"
	"testing"

	"loop.example/g00977/impl"
)

var readyGeometry = impl.Geometry{Groups: 2, Banks: 2, Rows: 4, Cols: 2}

func TestReadyNew(t *testing.T) {
	for _, g := range allGeometries() {
		want := impl.Ready{Last: slices.Repeat([]int{-1}, 9*g.Groups*g.Banks+9)}
		if got := impl.ReadyNew(g); !sameReady(got, want) || !impl.ReadyOk(g, got) {
			t.Errorf("ReadyNew(%+v) = %+v, want %+v", g, got, want)
		}
		expectReadyOf(t, g, nil, want)
		expectReadyOf(t, g, []impl.Event{}, want)
	}
	for _, g := range noGeometries() {
		if got := impl.ReadyNew(g); !sameReady(got, impl.Ready{}) {
			t.Errorf("ReadyNew(%+v) = %+v, want the zero summary", g, got)
		}
	}
}

func TestReadyResultsAreNew(t *testing.T) {
	list := traceOf("0 act 0 1, 3 read 0 0, 7 act 2 1")
	for _, make := range []func() impl.Ready{
		func() impl.Ready { return impl.ReadyNew(readyGeometry) },
		func() impl.Ready { return impl.ReadyOf(readyGeometry, nil) },
		func() impl.Ready { return impl.ReadyOf(readyGeometry, list) },
	} {
		first := make()
		want := copiedReady(first)
		spoil(first)
		if got := make(); !sameReady(got, want) {
			t.Errorf("the summary is %+v after a change of an earlier result, want %+v", got, want)
		}
	}
}

// The length of Last decides, whatever its elements are.
func TestReadyOkOfOtherLengths(t *testing.T) {
	for _, g := range allGeometries() {
		count := 9*g.Groups*g.Banks + 9
		for _, n := range []int{0, 1, 9, count - 9, count - 8, count - 1, count, count + 1, count + 9, 2 * count} {
			expectReadyOk(t, g, impl.Ready{Last: slices.Repeat([]int{-1}, n)}, n == count)
		}
		for _, r := range someReadies(g) {
			expectReadyOk(t, g, impl.Ready{Last: r.Last[:count-1], Acts: r.Acts}, false)
			for _, at := range []int{-1, 0, impl.MaxTime, math.MaxInt} {
				expectReadyOk(t, g, impl.Ready{Last: append(slices.Clone(r.Last), at), Acts: r.Acts}, false)
			}
		}
	}
}

// At an index that is used, a time may be any from -1 to MaxTime. At the others
// it is -1.
func TestReadyOkOfEveryIndex(t *testing.T) {
	for _, g := range gapGeometries() {
		for _, r := range someReadies(g) {
			expectReadyOk(t, g, r, true)
			for i := range r.Last {
				for _, at := range append([]int{-2, -1, 0, 1, impl.MaxTime - 1, impl.MaxTime, impl.MaxTime + 1}, farNumbers...) {
					want := at == -1 || isLastIndex(g, i) && at >= 0 && at <= 1000000
					expectReadyOk(t, g, readyWith(r, i, at), want)
				}
			}
		}
	}
}

// The used indices are those of the kinds with a bank, for each bank, and then
// those of the kinds without one.
func TestReadyOkOfUsedIndices(t *testing.T) {
	one := impl.Geometry{Groups: 1, Banks: 1, Rows: 2, Cols: 1}
	two := impl.Geometry{Groups: 2, Banks: 1, Rows: 2, Cols: 1}
	for g, used := range map[impl.Geometry][]int{
		one: {0, 1, 2, 3, 4, 14, 15, 16, 17},
		two: {0, 1, 2, 3, 4, 9, 10, 11, 12, 13, 23, 24, 25, 26},
	} {
		for i := range 9*g.Groups + 9 {
			expectReadyOk(t, g, readyWith(impl.ReadyNew(g), i, 0), slices.Contains(used, i))
		}
	}
}

func TestReadyOkOfActs(t *testing.T) {
	const most = impl.MaxTime
	cases := []struct {
		acts []int
		want bool
	}{
		{nil, true}, {[]int{}, true}, {[]int{0}, true}, {[]int{1}, true}, {[]int{most}, true}, {[]int{most - 1, most}, true}, {[]int{0, most}, true},
		{[]int{0, 1, 2}, true}, {[]int{0, 1, 2, 3}, true}, {[]int{5, 100, 101, most}, true}, {[]int{most - 3, most - 2, most - 1, most}, true},
		{[]int{0, 1, 2, 3, 4}, false}, {[]int{5, 100, 200, 300, most}, false}, {[]int{0, 1, 2, 3, 4, 5, 6, 7}, false},
		{[]int{-1}, false}, {[]int{-2}, false}, {[]int{-1, 0}, false}, {[]int{-2, -1}, false}, {[]int{-1, 0, 1, 2}, false}, {[]int{0, -1}, false},
		{[]int{most + 1}, false}, {[]int{most, most + 1}, false}, {[]int{0, 1, 2, most + 1}, false}, {[]int{most + 1, 0}, false},
		{[]int{3, 3}, false}, {[]int{0, 0}, false}, {[]int{most, most}, false}, {[]int{1, 2, 2}, false}, {[]int{1, 1, 2}, false}, {[]int{1, 2, 3, 3}, false}, {[]int{1, 1, 2, 3}, false},
		{[]int{4, 3}, false}, {[]int{1, 0}, false}, {[]int{1, 3, 2}, false}, {[]int{2, 1, 3}, false}, {[]int{1, 2, 4, 3}, false}, {[]int{4, 3, 2, 1}, false}, {[]int{1, 3, 2, 4}, false},
		{[]int{math.MinInt}, false}, {[]int{math.MaxInt}, false}, {[]int{math.MinInt, 0, math.MaxInt}, false}, {[]int{0, math.MaxInt}, false}, {[]int{math.MinInt, 5}, false}, {[]int{5, math.MinInt}, false},
	}
	for _, c := range cases {
		for _, g := range gapGeometries() {
			for _, r := range someReadies(g) {
				expectReadyOk(t, g, impl.Ready{Last: r.Last, Acts: c.acts}, c.want)
			}
		}
	}
}

func TestReadyOkOfInvalidGeometry(t *testing.T) {
	for _, g := range noGeometries() {
		for _, blocks := range []int{0, 1, 2, 3, 5, 9, 18} {
			expectReadyOk(t, g, impl.Ready{Last: slices.Repeat([]int{-1}, 9*blocks)}, false)
		}
	}
}

// The place of a command in Last is written from the text of the chapter.
func TestReadyOfExamples(t *testing.T) {
	cases := []struct {
		trace string
		last  map[int]int
		acts  []int
	}{
		{"", nil, nil},
		{"0 act 0 1", map[int]int{0: 0}, []int{0}}, {"7 act 3 3", map[int]int{27: 7}, []int{7}},
		{"0 act 0 1, 3 read 0 0, 7 pre 0", map[int]int{0: 0, 1: 3, 3: 7}, []int{0}},
		{"4 read 1 0, 5 write 1 1, 6 pre 2, 7 ref 3", map[int]int{10: 4, 11: 5, 21: 6, 31: 7}, nil},
		{"1 down, 2 up, 3 sleep, 4 wake", map[int]int{41: 1, 42: 2, 43: 3, 44: 4}, nil},
		{"1 down, 4 up, 8 down, 11 up", map[int]int{41: 8, 42: 11}, nil},
		{"2 act 0 1, 5 act 1 0, 9 act 0 3", map[int]int{0: 9, 9: 5}, []int{2, 5, 9}},
		{"0 act 0 1, 1 act 1 1, 2 act 2 1, 3 act 3 1", map[int]int{0: 0, 9: 1, 18: 2, 27: 3}, []int{0, 1, 2, 3}},
		{"0 act 0 1, 1 act 1 1, 2 act 2 1, 3 act 3 1, 4 act 0 0", map[int]int{0: 4, 9: 1, 18: 2, 27: 3}, []int{1, 2, 3, 4}},
		{"0 act 0 1, 1 act 0 1, 2 act 0 1, 3 act 0 1, 4 act 0 0, 9 act 0 1", map[int]int{0: 9}, []int{2, 3, 4, 9}},
		// An activation must be later than the last one, whatever its bank is.
		{"5 act 0 1, 5 act 1 1", map[int]int{0: 5}, []int{5}}, {"5 act 0 1, 4 act 1 1", map[int]int{0: 5}, []int{5}}, {"5 act 0 1, 6 act 1 1", map[int]int{0: 5, 9: 6}, []int{5, 6}},
		{"5 act 0 1, 4 act 1 1, 6 act 1 1", map[int]int{0: 5, 9: 6}, []int{5, 6}}, {"0 act 0 1, 0 act 0 1", map[int]int{0: 0}, []int{0}},
		{"1000000 act 0 1, 1000000 act 1 1, 999999 act 2 1", map[int]int{0: 1000000}, []int{1000000}},
		// No other command must be later than anything.
		{"9 read 0 0, 4 read 0 1", map[int]int{1: 4}, nil}, {"9 act 0 1, 4 pre 0, 0 down", map[int]int{0: 9, 3: 4, 41: 0}, []int{9}},
		{"9 act 0 1, 9 down, 8 down, 9 act 1 1", map[int]int{0: 9, 41: 8}, []int{9}}, {"9 pre 0, 4 act 0 1", map[int]int{0: 4, 3: 9}, []int{4}},
		{"1000000 wake, 0 wake", map[int]int{44: 0}, nil}, {"1000000 ref 2, 0 act 1 1", map[int]int{9: 0, 22: 1000000}, []int{0}},
		// What is not valid is left out.
		{"-1 act 0 1, 1000001 act 1 1, -1 down, 1000001 up, 3 act 4 0, 4 act 0 4, 5 read 0 2, 6 ref 7", nil, nil},
		{"-1 act 0 1, 0 act 0 1, 1000001 act 0 1, 1000000 act 0 1", map[int]int{0: 1000000}, []int{0, 1000000}},
		{"2 down, -1 down, 1000001 down", map[int]int{41: 2}, nil}, {"2 act 0 1, 9 act 4 1, 3 act 1 1", map[int]int{0: 2, 9: 3}, []int{2, 3}},
		// The commands need not be allowed.
		{"3 wake, 5 act 0 1, 6 act 0 2, 7 up", map[int]int{0: 6, 42: 7, 44: 3}, []int{5, 6}},
	}
	for _, c := range cases {
		want := impl.Ready{Last: slices.Repeat([]int{-1}, 45), Acts: c.acts}
		for i, at := range c.last {
			want.Last[i] = at
		}
		expectReadyOf(t, readyGeometry, traceOf(c.trace), want)
	}
}

// The place of the kinds without a bank is found with every number of banks.
func TestReadyAfterOfEveryCommand(t *testing.T) {
	for _, g := range append(gapGeometries(), impl.Geometry{Groups: 2, Banks: 4, Rows: 16, Cols: 8}) {
		for _, c := range commandsIn(g) {
			for _, at := range []int{0, 1, 777, impl.MaxTime - 1, impl.MaxTime} {
				for _, r := range someReadies(g) {
					e := impl.Event{At: at, Cmd: c}
					expectReadyAfter(t, g, r, e, readyStep(g, r, e))
				}
			}
		}
	}
}

// An activation is compared with the last element of Acts alone.
func TestReadyAfterOfActivations(t *testing.T) {
	cases := []struct {
		acts []int
		at   int
		want []int
	}{
		{nil, 0, []int{0}}, {nil, impl.MaxTime, []int{impl.MaxTime}}, {[]int{0}, 1, []int{0, 1}}, {[]int{0}, 0, []int{0}},
		{[]int{50}, 49, []int{50}}, {[]int{50}, 50, []int{50}}, {[]int{50}, 51, []int{50, 51}}, {[]int{50}, 0, []int{50}},
		{[]int{10, 50}, 49, []int{10, 50}}, {[]int{10, 50}, 50, []int{10, 50}}, {[]int{10, 50}, 51, []int{10, 50, 51}}, {[]int{10, 50}, 10, []int{10, 50}},
		{[]int{10, 20, 50}, 49, []int{10, 20, 50}}, {[]int{10, 20, 50}, 50, []int{10, 20, 50}}, {[]int{10, 20, 50}, 51, []int{10, 20, 50, 51}},
		{[]int{10, 20, 30, 50}, 49, []int{10, 20, 30, 50}}, {[]int{10, 20, 30, 50}, 50, []int{10, 20, 30, 50}}, {[]int{10, 20, 30, 50}, 51, []int{20, 30, 50, 51}},
		{[]int{10, 20, 30, 50}, 11, []int{10, 20, 30, 50}}, {[]int{0, 1, 2, 3}, 4, []int{1, 2, 3, 4}}, {[]int{0, 1, 2, 3}, impl.MaxTime, []int{1, 2, 3, impl.MaxTime}},
		{[]int{0, 1, 2, impl.MaxTime}, impl.MaxTime, []int{0, 1, 2, impl.MaxTime}}, {[]int{0, 1, 2, impl.MaxTime - 1}, impl.MaxTime, []int{1, 2, impl.MaxTime - 1, impl.MaxTime}},
	}
	for _, c := range cases {
		for _, g := range gapGeometries() {
			for _, base := range someReadies(g) {
				r := impl.Ready{Last: base.Last, Acts: c.acts}
				last := g.Groups*g.Banks - 1
				want := impl.Ready{Last: readyWith(r, 9*last, c.at).Last, Acts: c.want}
				if slices.Equal(c.acts, c.want) {
					want = r
				}
				expectReadyAfter(t, g, r, impl.Event{At: c.at, Cmd: impl.Command{Kind: impl.CmdAct, Bank: last, Row: 1}}, want)
			}
		}
	}
}

// Other commands replace a later time, and leave Acts as it is.
func TestReadyAfterOfEarlierTimes(t *testing.T) {
	for _, g := range gapGeometries() {
		full := impl.Ready{Last: slices.Repeat([]int{-1}, 9*g.Groups*g.Banks+9), Acts: []int{60, 70, 80, 90}}
		for i := range full.Last {
			if isLastIndex(g, i) {
				full.Last[i] = 100 + i
			}
		}
		for _, c := range commandsIn(g) {
			i := lastIndexOf(g, c)
			for _, at := range []int{0, 59, 60, 89, 90, 99 + i, 100 + i, 101 + i} {
				want := readyWith(full, i, at)
				if c.Kind == impl.CmdAct && at <= 90 {
					want = full
				} else if c.Kind == impl.CmdAct {
					want.Acts = []int{70, 80, 90, at}
				}
				expectReadyAfter(t, g, full, impl.Event{At: at, Cmd: c}, want)
			}
		}
	}
}

func TestReadyAfterOfInvalidTimes(t *testing.T) {
	for _, g := range gapGeometries() {
		for _, r := range someReadies(g) {
			for _, c := range commandsIn(g) {
				for _, at := range append([]int{-2, -1, impl.MaxTime + 1, impl.MaxTime + 2}, farNumbers...) {
					expectReadyAfter(t, g, r, impl.Event{At: at, Cmd: c}, r)
				}
			}
		}
	}
}

func TestReadyWithInvalidCommands(t *testing.T) {
	g := impl.Geometry{Groups: 2, Banks: 4, Rows: 16, Cols: 8}
	known := map[impl.Command]bool{}
	for _, c := range allCommands() {
		known[c] = true
	}
	for _, c := range commandsOfAnyFields() {
		if !known[c] {
			expectNoReady(t, g, c)
		}
	}
	for _, g := range gapGeometries() {
		present := commandsIn(g)
		for _, c := range allCommands() {
			if !slices.Contains(present, c) {
				expectNoReady(t, g, c)
			}
		}
	}
}

func TestReadyWithUnusedFields(t *testing.T) {
	for _, c := range commandsIn(readyGeometry) {
		form := commandForms[c.Kind-1]
		for _, n := range append([]int{-1, 1, 2, 3}, farNumbers...) {
			if !form.bank {
				expectNoReady(t, readyGeometry, impl.Command{Kind: c.Kind, Bank: n, Row: c.Row, Col: c.Col})
			}
			if !form.row {
				expectNoReady(t, readyGeometry, impl.Command{Kind: c.Kind, Bank: c.Bank, Row: n, Col: c.Col})
			}
			if !form.col {
				expectNoReady(t, readyGeometry, impl.Command{Kind: c.Kind, Bank: c.Bank, Row: c.Row, Col: n})
			}
		}
	}
}

// expectNoReady expects a command that is not valid.
func expectNoReady(t *testing.T, g impl.Geometry, c impl.Command) {
	t.Helper()
	for _, r := range []impl.Ready{impl.ReadyNew(g), fullReady(g, 7)} {
		for _, at := range []int{0, 500, math.MinInt, math.MaxInt} {
			expectReadyAfter(t, g, r, impl.Event{At: at, Cmd: c}, r)
		}
		expectReadyAt(t, g, impl.FastTiming(), r, c, -1)
	}
	// The events before and after it are kept.
	list := []impl.Event{{At: 2, Cmd: impl.Command{Kind: impl.CmdAct}}, {At: 3, Cmd: c}, {At: 4, Cmd: impl.Command{Kind: impl.CmdPde}}}
	want := readyWith(readyWith(impl.ReadyNew(g), 0, 2), 9*g.Groups*g.Banks+5, 4)
	want.Acts = []int{2}
	expectReadyOf(t, g, list, want)
}

func TestReadyWithInvalidSummaries(t *testing.T) {
	for _, g := range gapGeometries() {
		for _, r := range noReadies(g) {
			expectReadyOk(t, g, r, false)
			for _, c := range commandsIn(g) {
				expectReadyAt(t, g, impl.FastTiming(), r, c, -1)
				for _, at := range []int{-1, 0, 900, impl.MaxTime, math.MinInt, math.MaxInt} {
					expectReadyAfter(t, g, r, impl.Event{At: at, Cmd: c}, r)
				}
			}
		}
	}
}

func TestReadyWithInvalidGeometry(t *testing.T) {
	list := traceOf("0 act 0 0, 3 read 0 0, 7 pre 0, 8 down")
	for _, g := range noGeometries() {
		expectReadyOf(t, g, nil, impl.Ready{})
		expectReadyOf(t, g, list, impl.Ready{})
		for _, r := range []impl.Ready{{}, {Acts: []int{5}}, impl.ReadyNew(readyGeometry), fullReady(readyGeometry, 7), {Last: slices.Repeat([]int{-1}, 9)}} {
			for _, e := range list {
				expectReadyAfter(t, g, r, e, r)
				expectReadyAt(t, g, impl.FastTiming(), r, e.Cmd, -1)
			}
		}
	}
}

func TestReadyAtOfInvalidTiming(t *testing.T) {
	for _, timing := range noTimings() {
		for _, r := range append(someReadies(readyGeometry), impl.Ready{}) {
			for _, c := range commandsIn(readyGeometry) {
				expectReadyAt(t, readyGeometry, timing, r, c, -1)
			}
		}
	}
	for _, name := range timingNames {
		for _, n := range []int{math.MinInt, -1, 0, 65, math.MaxInt} {
			expectReadyAt(t, readyGeometry, timingWith(impl.FastTiming(), name, n), impl.ReadyNew(readyGeometry), impl.Command{Kind: impl.CmdPde}, -1)
		}
	}
	expectReadyAt(t, impl.Geometry{}, impl.Timing{}, impl.Ready{}, impl.Command{}, -1)
}

func TestReadyAtExamples(t *testing.T) {
	cases := []struct {
		trace, next string
		want        int
	}{
		// The summary does not know which commands are allowed.
		{"", "act 0 1", 0}, {"", "read 3 0", 0}, {"", "pre 0", 0}, {"", "down", 0}, {"", "up", 0}, {"", "sleep", 0}, {"", "wake", 0}, {"", "act 4 0", -1}, {"", "read 0 2", -1},
		{"0 act 0 1", "read 0 0", 3}, {"0 act 0 1", "pre 0", 7}, {"0 act 0 1", "act 0 1", 10}, {"0 act 0 1", "act 1 0", 3}, {"0 act 0 1", "act 2 0", 2}, {"0 act 0 1", "read 1 0", 1},
		{"90 act 0 1", "read 0 0", 93}, {"0 act 0 1, 3 read 0 0, 7 pre 0", "act 0 0", 10}, {"0 act 0 1, 3 write 0 0, 4 ref 2", "pre 0", 9},
		// The same command on the same bank, a bank of its group, and one of the other group.
		{"50 read 0 0", "read 0 1", 53}, {"50 read 0 0", "read 1 1", 53}, {"50 read 0 0", "read 2 1", 52}, {"50 read 2 0", "read 3 1", 53}, {"50 read 1 0", "read 2 1", 52},
		{"50 write 3 0", "read 2 1", 55}, {"50 write 3 0", "read 1 1", 54}, {"50 ref 0", "ref 0", 62}, {"50 ref 0", "ref 1", 53}, {"50 ref 0", "ref 2", 53}, {"50 act 3 0", "act 3 0", 60},
		{"50 act 3 0", "act 2 0", 53}, {"50 act 3 0", "act 1 0", 52}, {"50 pre 0", "pre 0", 51}, {"50 pre 0", "pre 1", 51},
		// Commands without a bank, before and after those with one.
		{"50 act 0 1", "sleep", 60}, {"50 read 3 1", "sleep", 56}, {"50 write 1 1", "sleep", 59}, {"50 pre 2", "sleep", 53}, {"50 ref 2", "sleep", 62}, {"50 write 1 1", "down", 56},
		{"50 read 1 1", "down", 53}, {"50 act 1 1", "down", 51}, {"50 down", "up", 53}, {"50 sleep", "wake", 53}, {"50 down", "wake", 51}, {"50 down", "down", 51}, {"50 sleep", "act 0 0", 51},
		{"50 up", "up", 54}, {"50 up", "act 3 1", 54}, {"50 up", "sleep", 54}, {"50 wake", "down", 66}, {"50 wake", "read 0 0", 66}, {"50 wake", "wake", 66}, {"50 down, 53 up", "ref 0", 57},
		// The last command of a kind counts, also if it was earlier.
		{"50 read 0 0, 40 read 0 0", "read 0 0", 43}, {"50 wake, 30 wake", "down", 46}, {"50 read 0 0, 40 read 1 0", "read 0 0", 53}, {"50 up, 20 wake", "down", 54}, {"50 up, 40 wake", "down", 56},
		{"999990 act 0 1", "act 0 1", 1000000}, {"999991 act 0 1", "act 0 1", -1}, {"999991 act 0 1", "read 0 1", 999994}, {"999984 wake", "up", 1000000}, {"999985 wake", "up", -1},
		{"999999 down", "sleep", 1000000}, {"1000000 down", "sleep", -1}, {"1000000 down, 0 down", "sleep", 1}, {"999997 sleep", "wake", 1000000}, {"999998 sleep", "wake", -1},
	}
	for _, c := range cases {
		r := impl.ReadyOf(readyGeometry, traceOf(c.trace))
		expectReadyAt(t, readyGeometry, impl.FastTiming(), r, commandOf(t, c.next), c.want)
	}
}

// With nothing in Last, Acts alone decides.
func TestReadyAtOfActs(t *testing.T) {
	act := impl.Command{Kind: impl.CmdAct, Bank: 1}
	for faw := 1; faw <= 64; faw++ {
		timing := timingWith(impl.FastTiming(), "FAW", faw)
		for _, first := range []int{0, 1, 700, impl.MaxTime - 65, impl.MaxTime - 64, impl.MaxTime - 63, impl.MaxTime - 3} {
			for count := range 5 {
				r := impl.ReadyNew(readyGeometry)
				for i := range count {
					r.Acts = append(r.Acts, first+i)
				}
				want := 0
				if count == 4 {
					want = first + faw
				}
				if want > 1000000 {
					want = -1
				}
				expectReadyAt(t, readyGeometry, timing, r, act, want)
				for kind := impl.CmdRead; kind <= impl.CmdSrx; kind++ {
					expectReadyAt(t, readyGeometry, timing, r, impl.Command{Kind: kind}, 0)
				}
			}
		}
	}
}

// The rules and FAW together: the greater of the two decides.
func TestReadyAtOfActsAndLast(t *testing.T) {
	timing := timingWith(impl.FastTiming(), "FAW", 40)
	cases := []struct {
		trace, next string
		want        int
	}{
		{"5 act 0 1, 7 act 2 1, 10 act 1 1", "act 3 1", 12}, {"5 act 0 1, 7 act 2 1, 10 act 1 1", "act 0 1", 15},
		{"5 act 0 1, 7 act 2 1, 10 act 1 1, 12 act 3 1", "act 0 1", 45}, {"5 act 0 1, 7 act 2 1, 10 act 1 1, 12 act 3 1", "act 3 1", 45},
		{"5 act 0 1, 7 act 2 1, 10 act 1 1, 12 act 3 1", "ref 0", 15}, {"5 act 0 1, 7 act 2 1, 10 act 1 1, 12 act 3 1", "sleep", 22},
		{"5 act 0 1, 7 act 2 1, 10 act 1 1, 12 act 3 1, 45 act 0 1", "act 2 1", 47}, {"5 act 0 1, 7 act 2 1, 10 act 1 1, 12 act 3 1, 45 act 0 1", "act 1 1", 48},
		{"5 act 0 1, 7 act 2 1, 10 act 1 1, 42 act 3 1", "act 0 1", 45}, {"5 act 0 1, 7 act 2 1, 10 act 1 1, 43 act 3 1", "act 2 1", 46}, {"5 act 0 1, 7 act 2 1, 10 act 1 1, 43 act 3 1", "act 0 1", 45},
		{"5 act 0 1, 7 act 2 1, 10 act 1 1, 12 act 3 1, 32 ref 0", "act 0 1", 45}, {"5 act 0 1, 7 act 2 1, 10 act 1 1, 12 act 3 1, 34 ref 0", "act 0 1", 46},
		{"5 act 0 1, 7 act 2 1, 10 act 1 1, 12 act 3 1, 33 wake", "act 0 1", 49}, {"5 act 0 1, 7 act 2 1, 10 act 1 1, 12 act 3 1, 0 wake", "act 0 1", 45},
		{"999960 act 0 1, 999962 act 2 1, 999965 act 1 1, 999967 act 3 1", "act 0 1", 1000000}, {"999961 act 0 1, 999963 act 2 1, 999966 act 1 1, 999968 act 3 1", "act 0 1", -1},
		{"999961 act 0 1, 999963 act 2 1, 999966 act 1 1, 999968 act 3 1", "down", 999969},
	}
	for _, c := range cases {
		expectReadyAt(t, readyGeometry, timing, impl.ReadyOf(readyGeometry, traceOf(c.trace)), commandOf(t, c.next), c.want)
	}
}

// One time in Last, at every used index and of every size, for every command.
func TestReadyAtOfOneTime(t *testing.T) {
	for _, g := range gapGeometries() {
		for _, timing := range []impl.Timing{impl.FastTiming(), distinctTiming(), timingOf(1), timingOf(64)} {
			for i := range impl.ReadyNew(g).Last {
				if !isLastIndex(g, i) {
					continue
				}
				for _, c := range commandsIn(g) {
					gap := commandDistance(g, timing, commandAtIndex(g, i), c)
					for _, at := range []int{0, 1, impl.MaxTime - gap, impl.MaxTime - gap + 1, impl.MaxTime} {
						r := readyWith(impl.ReadyNew(g), i, at)
						want := at + gap
						if want > 1000000 {
							want = -1
						}
						expectReadyAt(t, g, timing, r, c, want)
					}
				}
			}
		}
	}
}

// Valid summaries of any times, also those that no trace has.
func TestReadyAtOfAnySummary(t *testing.T) {
	seed := uint32(10)
	for i, timing := range someTimings() {
		g := gapGeometries()[i%len(gapGeometries())]
		for _, base := range []int{0, 500, impl.MaxTime - 190, impl.MaxTime - 160} {
			r := anyReady(g, &seed, base)
			expectReadyOk(t, g, r, true)
			for _, c := range commandsIn(g) {
				expectReadyAt(t, g, timing, r, c, readyTime(g, timing, r, c))
			}
		}
	}
}

// Promise 10, from the empty trace on, in all orders.
func TestReadyOfAllShortSequences(t *testing.T) {
	for _, timing := range []impl.Timing{impl.FastTiming(), timingWith(timingOf(1), "RTW", 3)} {
		for g, depth := range map[impl.Geometry]int{
			{Groups: 1, Banks: 1, Rows: 2, Cols: 1}: 5, {Groups: 1, Banks: 2, Rows: 2, Cols: 1}: 3, {Groups: 2, Banks: 1, Rows: 2, Cols: 1}: 3,
		} {
			followReady(t, g, timing, nil, depth)
		}
	}
}

func followReady(t *testing.T, g impl.Geometry, timing impl.Timing, list []impl.Event, depth int) {
	expectSameTimes(t, g, timing, list)
	if depth == 1 {
		return
	}
	for _, c := range commandsIn(g) {
		if at := impl.EarliestNext(g, timing, list, c); at >= 0 {
			followReady(t, g, timing, append(slices.Clone(list), impl.Event{At: at, Cmd: c}), depth-1)
		}
	}
}

// Promise 10 for each prefix of long traces, with activations of all banks.
func TestReadyOfLongWalks(t *testing.T) {
	seed := uint32(11)
	timings := append(someTimings(), timingWith(impl.FastTiming(), "FAW", 40))
	for i := 0; i < len(timings); i += 3 {
		g := gapGeometries()[i/3%len(gapGeometries())]
		list := walk(newTraceModel(g, timings[i]), &seed, 24)
		for k := range len(list) + 1 {
			expectSameTimes(t, g, timings[i], list[:k])
		}
	}
}

// The same traces, moved to the end of the time.
func TestReadyOfWalksNearMaxTime(t *testing.T) {
	seed := uint32(12)
	for _, g := range gapGeometries() {
		for _, timing := range []impl.Timing{impl.FastTiming(), distinctTiming(), timingWith(impl.FastTiming(), "FAW", 64)} {
			list := walk(newTraceModel(g, timing), &seed, 24)
			last := list[len(list)-1].At
			for _, rest := range []int{0, 1, 2, 5, 9, 40, 63} {
				moved := slices.Clone(list)
				for i := range moved {
					moved[i].At += impl.MaxTime - last - rest
				}
				expectSameTimes(t, g, timing, moved)
			}
		}
	}
}

// A list may be longer than a trace.
func TestReadyOfManyEvents(t *testing.T) {
	for _, count := range []int{1999, 2000, 2001, 5001} {
		list := spreadTrace(count)
		want := readyWith(impl.ReadyNew(readyGeometry), 41+(count-1)%2, 4*count-4)
		want = readyWith(want, 41+count%2, 4*count-8)
		expectReadyOf(t, readyGeometry, list, want)
	}
	acts := []impl.Event{}
	for i := range 3000 {
		acts = append(acts, impl.Event{At: 7 * i, Cmd: impl.Command{Kind: impl.CmdAct, Bank: i % 3, Row: i % 4}})
	}
	want := impl.ReadyNew(readyGeometry)
	want.Last[0], want.Last[9], want.Last[18] = 7*2997, 7*2998, 7*2999
	want.Acts = []int{7 * 2996, 7 * 2997, 7 * 2998, 7 * 2999}
	expectReadyOf(t, readyGeometry, acts, want)
	g := impl.Geometry{Groups: 2, Banks: 4, Rows: 2, Cols: 1}
	dense := denseTrace(newTraceModel(g, impl.FastTiming()))
	expectSameTimes(t, g, impl.FastTiming(), dense[:1500])
	expectSameTimes(t, g, impl.FastTiming(), dense[:1999])
}

// expectSameTimes expects a trace without faults. Where a command is not
// allowed, the summary still gives the time that the rules allow.
func expectSameTimes(t *testing.T, g impl.Geometry, timing impl.Timing, list []impl.Event) {
	t.Helper()
	r := impl.ReadyOf(g, list)
	expectReadyOf(t, g, list, readyModel(g, list))
	rank, ok := impl.TraceEnd(g, list)
	if !ok || !impl.ReadyOk(g, r) {
		t.Fatalf("%v has no end, or its summary %+v is not valid", some(list), r)
	}
	for _, c := range commandsIn(g) {
		want := readyTime(g, timing, r, c)
		if impl.Allowed(g, rank, c) {
			want = impl.EarliestNext(g, timing, list, c)
		}
		expectReadyAt(t, g, timing, r, c, want)
	}
}

func expectReadyOk(t *testing.T, g impl.Geometry, r impl.Ready, want bool) {
	t.Helper()
	expectReadyKept(t, "ReadyOk", r, func(r impl.Ready) {
		if got := impl.ReadyOk(g, r); got != want {
			t.Errorf("ReadyOk(%+v, %+v) = %v, want %v", g, r, got, want)
		}
	})
}

func expectReadyAfter(t *testing.T, g impl.Geometry, r impl.Ready, e impl.Event, want impl.Ready) {
	t.Helper()
	expectReadyKept(t, "ReadyAfter", r, func(r impl.Ready) {
		got := impl.ReadyAfter(g, r, e)
		if !sameReady(got, want) {
			t.Errorf("ReadyAfter(%+v, %+v, %+v) = %+v, want %+v", g, r, e, got, want)
		}
		if impl.ReadyOk(g, r) && !impl.ReadyOk(g, got) {
			t.Errorf("ReadyAfter(%+v, %+v, %+v) = %+v, which is not valid", g, r, e, got)
		}
		expectApart(t, got)
	})
}

func expectReadyOf(t *testing.T, g impl.Geometry, list []impl.Event, want impl.Ready) {
	t.Helper()
	expectUnchanged(t, "ReadyOf", list, func(list []impl.Event) {
		got := impl.ReadyOf(g, list)
		if !sameReady(got, want) {
			t.Errorf("ReadyOf(%+v, %v) = %+v, want %+v", g, some(list), got, want)
		}
		expectApart(t, got)
	})
}

func expectReadyAt(t *testing.T, g impl.Geometry, timing impl.Timing, r impl.Ready, c impl.Command, want int) {
	t.Helper()
	expectReadyKept(t, "ReadyAt", r, func(r impl.Ready) {
		if got := impl.ReadyAt(g, timing, r, c); got != want {
			t.Errorf("ReadyAt(%+v, %+v, %+v, %+v) = %d, want %d", g, timing, r, c, got, want)
		}
	})
}

// expectReadyKept passes a copy of the summary with some capacity behind its
// slices, and checks that neither the call nor a change of its result reaches
// them.
func expectReadyKept(t *testing.T, name string, r impl.Ready, call func(impl.Ready)) {
	t.Helper()
	last, acts := append(slices.Clone(r.Last), 44, 45), append(slices.Clone(r.Acts), 46, 47)
	given := impl.Ready{Last: slices.Clone(last)[:len(r.Last)], Acts: slices.Clone(acts)[:len(r.Acts)]}
	call(given)
	if !slices.Equal(given.Last[:len(last)], last) || !slices.Equal(given.Acts[:len(acts)], acts) {
		t.Errorf("%s or a change of its result changed %+v to %+v", name, r, given)
	}
}

// expectApart changes Last of a summary, with the capacity behind it, and checks
// that this does not reach Acts, and then does the same with Acts.
func expectApart(t *testing.T, r impl.Ready) {
	t.Helper()
	acts := slices.Clone(r.Acts)
	spoil(impl.Ready{Last: r.Last})
	if !slices.Equal(r.Acts, acts) {
		t.Errorf("a change of Last changed Acts from %v to %v", acts, r.Acts)
	}
	last := slices.Clone(r.Last)
	spoil(impl.Ready{Acts: r.Acts})
	if !slices.Equal(r.Last, last) {
		t.Errorf("a change of Acts changed Last from %v to %v", last, r.Last)
	}
}

// spoil changes a summary, the capacity behind its slices included.
func spoil(r impl.Ready) {
	for _, list := range [][]int{r.Last, r.Acts} {
		list = list[:cap(list)]
		for i := range list {
			list[i] = -77
		}
	}
}

// sameReady takes a nil slice and an empty one as the same value.
func sameReady(a, b impl.Ready) bool {
	return slices.Equal(a.Last, b.Last) && slices.Equal(a.Acts, b.Acts)
}

func copiedReady(r impl.Ready) impl.Ready {
	return impl.Ready{Last: slices.Clone(r.Last), Acts: slices.Clone(r.Acts)}
}

// readyWith returns the summary with another time at index i of Last.
func readyWith(r impl.Ready, i, at int) impl.Ready {
	r = copiedReady(r)
	r.Last[i] = at
	return r
}

// lastIndexOf is written from the text of the chapter, as are the functions below.
func lastIndexOf(g impl.Geometry, c impl.Command) int {
	b := g.Groups * g.Banks
	if isBankKind(c.Kind) {
		b = c.Bank
	}
	return 9*b + c.Kind - 1
}

func isLastIndex(g impl.Geometry, i int) bool { return isBankKind(i%9+1) == (i/9 < g.Groups*g.Banks) }

// commandAtIndex expects an index that is used.
func commandAtIndex(g impl.Geometry, i int) impl.Command {
	if i/9 == g.Groups*g.Banks {
		return impl.Command{Kind: i%9 + 1}
	}
	return impl.Command{Kind: i%9 + 1, Bank: i / 9}
}

// readyModel expects a trace without faults.
func readyModel(g impl.Geometry, list []impl.Event) impl.Ready {
	r := impl.Ready{Last: slices.Repeat([]int{-1}, 9*g.Groups*g.Banks+9)}
	for _, e := range list {
		r.Last[lastIndexOf(g, e.Cmd)] = e.At
	}
	for i := len(list) - 1; i >= 0 && len(r.Acts) < 4; i-- {
		if list[i].Cmd.Kind == impl.CmdAct {
			r.Acts = slices.Insert(r.Acts, 0, list[i].At)
		}
	}
	return r
}

// readyStep expects valid arguments.
func readyStep(g impl.Geometry, r impl.Ready, e impl.Event) impl.Ready {
	next := readyWith(r, lastIndexOf(g, e.Cmd), e.At)
	if e.Cmd.Kind != impl.CmdAct {
		return next
	}
	if len(r.Acts) > 0 && e.At <= slices.Max(r.Acts) {
		return r
	}
	if len(r.Acts) == 4 {
		next.Acts = slices.Delete(next.Acts, 0, 1)
	}
	next.Acts = append(next.Acts, e.At)
	return next
}

// readyTime expects valid arguments.
func readyTime(g impl.Geometry, timing impl.Timing, r impl.Ready, c impl.Command) int {
	bounds := []int{0}
	for i, at := range r.Last {
		if at >= 0 {
			bounds = append(bounds, at+commandDistance(g, timing, commandAtIndex(g, i), c))
		}
	}
	if c.Kind == impl.CmdAct && len(r.Acts) == 4 {
		bounds = append(bounds, r.Acts[0]+timing.FAW)
	}
	if least := slices.Max(bounds); least <= 1000000 {
		return least
	}
	return -1
}

// fullReady has a time at every index that is used, and four activations.
func fullReady(g impl.Geometry, first int) impl.Ready {
	r := impl.ReadyNew(g)
	for i := range r.Last {
		if isLastIndex(g, i) {
			r.Last[i] = first + i*37%100
		}
	}
	r.Acts = []int{first + 1, first + 20, first + 21, first + 90}
	return r
}

// someReadies returns valid summaries, also those that no trace has.
func someReadies(g impl.Geometry) []impl.Ready {
	last := impl.ReadyNew(g).Last
	alone := readyWith(impl.ReadyNew(g), len(last)-1, impl.MaxTime)
	full := fullReady(g, 7)
	return []impl.Ready{
		impl.ReadyNew(g), {Last: last, Acts: []int{0}}, {Last: last, Acts: []int{3, 776, 777}}, {Last: last, Acts: []int{0, 1, 2, impl.MaxTime}},
		alone, readyWith(alone, 0, 0), full, {Last: full.Last}, {Last: full.Last, Acts: []int{impl.MaxTime}}, fullReady(g, impl.MaxTime-100),
	}
}

// noReadies returns summaries of which the length of Last, one of its elements,
// or Acts is wrong.
func noReadies(g impl.Geometry) []impl.Ready {
	readies := []impl.Ready{{}, {Acts: []int{1}}}
	for _, r := range []impl.Ready{impl.ReadyNew(g), fullReady(g, 7)} {
		count := len(r.Last)
		readies = append(readies,
			impl.Ready{Last: r.Last[:count-1], Acts: r.Acts}, impl.Ready{Last: r.Last[:count-9], Acts: r.Acts},
			impl.Ready{Last: append(slices.Clone(r.Last), -1), Acts: r.Acts}, impl.Ready{Last: slices.Repeat(r.Last, 2), Acts: r.Acts})
		for i := range r.Last {
			for _, at := range []int{-2, impl.MaxTime + 1, math.MinInt, math.MaxInt} {
				readies = append(readies, readyWith(r, i, at))
			}
			if !isLastIndex(g, i) {
				readies = append(readies, readyWith(r, i, 0), readyWith(r, i, impl.MaxTime))
			}
		}
		for _, acts := range [][]int{
			{-1}, {impl.MaxTime + 1}, {5, 5}, {6, 5}, {1, 2, 3, 4, 5}, {1, 2, 4, 3}, {math.MinInt}, {math.MaxInt}, {0, math.MaxInt}, {math.MinInt, 0},
		} {
			readies = append(readies, impl.Ready{Last: r.Last, Acts: acts})
		}
	}
	return readies
}

// anyReady returns a valid summary with times within some cycles.
func anyReady(g impl.Geometry, seed *uint32, from int) impl.Ready {
	r := impl.ReadyNew(g)
	for i := range r.Last {
		if isLastIndex(g, i) && pick(seed, 3) > 0 {
			r.Last[i] = from + pick(seed, 100)
		}
	}
	at := from
	for range pick(seed, 6) {
		at += 1 + pick(seed, 30)
		r.Acts = append(r.Acts, at)
	}
	r.Acts = r.Acts[:min(4, len(r.Acts))]
	return r
}
