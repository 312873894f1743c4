package tests

import (
	"math"
	"slices"
	"testing"

	"loop.example/g00977/impl"
)

var powerWords = []string{"active", "down", "asleep"}

// commandStates is written from the text of the chapter: for each kind, the
// Power of the rank and the state of the bank of the command in which it is
// allowed. The bank counts as open for the last four kinds if any bank is.
var commandStates = map[int][]string{
	impl.CmdAct:   {"active closed"},
	impl.CmdRead:  {"active open"},
	impl.CmdWrite: {"active open"},
	impl.CmdPre:   {"active open"},
	impl.CmdRef:   {"active closed"},
	impl.CmdPde:   {"active closed", "active open"},
	impl.CmdPdx:   {"down closed", "down open"},
	impl.CmdSre:   {"active closed"},
	impl.CmdSrx:   {"asleep closed"},
}

var farNumbers = []int{math.MinInt, math.MinInt + 1, -1 << 32, 1 << 32, 1<<32 + 1, math.MaxInt}

func TestRankNew(t *testing.T) {
	for _, g := range allGeometries() {
		want := impl.Rank{Banks: make([]impl.Bank, g.Groups*g.Banks)}
		if got := impl.RankNew(g); !sameRank(got, want) || !impl.RankOk(g, got) {
			t.Errorf("RankNew(%+v) = %+v, want %+v", g, got, want)
		}
	}
	for _, g := range noGeometries() {
		if got := impl.RankNew(g); !sameRank(got, impl.Rank{}) {
			t.Errorf("RankNew(%+v) = %+v, want the zero rank", g, got)
		}
	}
}

func TestRankNewResultIsNew(t *testing.T) {
	g := impl.Geometry{Groups: 2, Banks: 2, Rows: 4, Cols: 2}
	first := impl.RankNew(g)
	for i := range first.Banks {
		first.Banks[i] = impl.Bank{Open: true, Row: 3}
	}
	if got := impl.RankNew(g); !sameRank(got, impl.Rank{Banks: make([]impl.Bank, 4)}) {
		t.Errorf("RankNew(%+v) = %+v after a change of an earlier result", g, got)
	}
}

func TestRankOk(t *testing.T) {
	g := impl.Geometry{Groups: 1, Banks: 2, Rows: 4, Cols: 2}
	open, closed := impl.Bank{Open: true, Row: 3}, impl.Bank{}
	cases := []struct {
		banks []impl.Bank
		power int
		want  bool
	}{
		{[]impl.Bank{closed, closed}, 0, true}, {[]impl.Bank{closed, closed}, 1, true}, {[]impl.Bank{closed, closed}, 2, true},
		{[]impl.Bank{closed, open}, 0, true}, {[]impl.Bank{closed, open}, 1, true}, {[]impl.Bank{closed, open}, 2, false},
		{[]impl.Bank{open, closed}, 0, true}, {[]impl.Bank{open, closed}, 1, true}, {[]impl.Bank{open, closed}, 2, false},
		{[]impl.Bank{open, open}, 0, true}, {[]impl.Bank{open, open}, 1, true}, {[]impl.Bank{open, open}, 2, false},
		{[]impl.Bank{{Open: true}, closed}, 1, true}, {[]impl.Bank{{Open: true}, closed}, 2, false},
		{[]impl.Bank{closed, closed}, -1, false}, {[]impl.Bank{closed, closed}, 3, false},
		{[]impl.Bank{open, open}, -1, false}, {[]impl.Bank{open, open}, 3, false},
		{[]impl.Bank{closed, {Row: 1}}, 0, false}, {[]impl.Bank{closed, {Row: 1}}, 2, false}, {[]impl.Bank{{Row: -1}, open}, 1, false},
		{[]impl.Bank{closed, {Open: true, Row: 4}}, 0, false}, {[]impl.Bank{{Open: true, Row: -1}, closed}, 0, false},
		{nil, 0, false}, {[]impl.Bank{}, 0, false}, {nil, 2, false}, {[]impl.Bank{closed}, 0, false}, {[]impl.Bank{closed, closed, closed}, 0, false},
	}
	for _, c := range cases {
		expectRankOk(t, g, impl.Rank{Banks: c.banks, Power: c.power}, c.want)
	}
}

// Every bank of every geometry has rows 0 to Rows-1 if it is open and row 0 if
// it is closed.
func TestRankOkOfEveryGeometry(t *testing.T) {
	for _, g := range allGeometries() {
		for _, r := range someRanks(g) {
			expectRankOk(t, g, r, true)
			for i := range r.Banks {
				for _, row := range append([]int{-16, -2, -1, 0, 1, 15, 16, 17, g.Rows - 1, g.Rows}, farNumbers...) {
					expectRankOk(t, g, rankWith(r, i, impl.Bank{Open: true, Row: row}), r.Power != 2 && row >= 0 && row < g.Rows)
					expectRankOk(t, g, rankWith(r, i, impl.Bank{Row: row}), row == 0)
				}
			}
		}
		for _, r := range noRanks(g) {
			expectRankOk(t, g, r, false)
		}
	}
}

func TestRankOkOfInvalidGeometry(t *testing.T) {
	for _, g := range noGeometries() {
		for count := range 10 {
			for _, power := range []int{0, 1, 2} {
				expectRankOk(t, g, impl.Rank{Banks: make([]impl.Bank, count), Power: power}, false)
			}
		}
	}
}

// A state of one geometry is one of another only if that has as many banks,
// whatever their groups, and all open rows.
func TestRankOkOfAnotherGeometry(t *testing.T) {
	r := impl.Rank{Banks: []impl.Bank{{}, {Open: true, Row: 2}, {}, {Open: true, Row: 5}}}
	for _, g := range allGeometries() {
		expectRankOk(t, g, r, g.Groups*g.Banks == 4 && g.Rows > 5)
	}
}

func TestAllowedExamples(t *testing.T) {
	g := impl.Geometry{Groups: 1, Banks: 2, Rows: 4, Cols: 2}
	r := impl.RankNew(g)
	steps := []struct {
		text   string
		refuse []string
	}{
		{"act 1 3", []string{"read 1 0", "write 0 1", "pre 0", "pre 1", "up", "wake", "act 2 0", "act 0 4"}},
		{"read 1 1", []string{"act 1 3", "act 1 0", "ref 1", "read 0 0", "pre 0", "sleep", "up", "wake", "read 1 2"}},
		{"write 1 0", []string{"ref 1", "sleep"}},
		{"ref 0", []string{"sleep"}},
		{"act 0 0", []string{"sleep", "wake"}},
		{"down", []string{"ref 0", "act 0 0", "act 0 1"}},
		{"up", []string{"act 0 1", "read 0 0", "write 1 0", "pre 0", "pre 1", "ref 0", "down", "sleep", "wake"}},
		{"pre 1", []string{"sleep", "up", "wake"}},
		{"read 0 1", []string{"sleep", "read 1 1"}},
		{"pre 0", []string{"sleep", "act 0 0"}},
		{"sleep", []string{"pre 0", "pre 1", "read 0 0"}},
		{"wake", []string{"act 0 0", "ref 0", "ref 1", "down", "up", "sleep", "pre 0"}},
		{"down", []string{"wake"}},
		{"up", []string{"sleep", "down", "wake", "ref 0"}},
		{"ref 1", []string{"up", "wake", "pre 1"}},
	}
	for _, step := range steps {
		for _, text := range step.refuse {
			expectAfter(t, g, r, commandOf(t, text), r, false)
		}
		next, ok := impl.RankAfter(g, r, commandOf(t, step.text))
		if !ok {
			t.Fatalf("RankAfter(%+v, %+v, %q) refuses the command", g, r, step.text)
		}
		r = next
	}
	if !sameRank(r, impl.RankNew(g)) {
		t.Errorf("after all steps the state is %+v", r)
	}
}

// Every kind, also numbers that are none, in each power state, with the bank of
// the command open and closed.
func TestAllowedOfEveryKind(t *testing.T) {
	g := impl.Geometry{Groups: 2, Banks: 2, Rows: 4, Cols: 2}
	for power, word := range powerWords {
		for _, other := range []impl.Bank{{}, {Open: true, Row: 1}} {
			for _, bank := range []impl.Bank{{}, {Open: true}, {Open: true, Row: 3}} {
				r := impl.Rank{Banks: []impl.Bank{other, {}, bank, {}}, Power: power}
				for _, kind := range kindsOrNone() {
					c := impl.Command{Kind: kind}
					if kind >= 1 && kind <= 9 && commandForms[kind-1].bank {
						c.Bank = 2
					}
					open := bank.Open || !isBankKind(kind) && other.Open
					want := slices.Contains(commandStates[kind], word+" "+openWord(open))
					valid := power != 2 || !bank.Open && !other.Open
					if got := impl.Allowed(g, r, c); got != (want && valid) {
						t.Errorf("Allowed(%+v, %+v, %+v) = %v, want %v", g, r, c, got, !got)
					}
				}
			}
		}
	}
}

// Self-refresh begins only with all banks closed, and a single open bank is
// found wherever it is.
func TestSelfRefreshWithAnOpenBank(t *testing.T) {
	sleep, wake := impl.Command{Kind: impl.CmdSre}, impl.Command{Kind: impl.CmdSrx}
	for _, g := range allGeometries() {
		closed := impl.RankNew(g)
		asleep := impl.Rank{Banks: closed.Banks, Power: 2}
		expectAfter(t, g, closed, sleep, asleep, true)
		expectAfter(t, g, asleep, wake, closed, true)
		for i := range closed.Banks {
			for _, row := range []int{0, g.Rows - 1} {
				open := rankWith(closed, i, impl.Bank{Open: true, Row: row})
				expectAfter(t, g, open, sleep, open, false)
				expectAfter(t, g, open, impl.Command{Kind: impl.CmdPde}, impl.Rank{Banks: open.Banks, Power: 1}, true)
				expectRankOk(t, g, impl.Rank{Banks: open.Banks, Power: 2}, false)
			}
		}
	}
}

// In every valid state, every command leads to a valid state or is refused.
func TestRankAfterOfEveryState(t *testing.T) {
	for _, g := range stateGeometries() {
		for _, r := range ranksOf(g) {
			for _, c := range commandsIn(g) {
				want, ok := rankStep(r, c)
				expectAfter(t, g, r, c, want, ok)
			}
		}
	}
}

func TestRankAfterInTheLargestGeometry(t *testing.T) {
	g := impl.Geometry{Groups: 2, Banks: 4, Rows: 16, Cols: 8}
	for _, r := range someRanks(g) {
		for _, c := range allCommands() {
			want, ok := rankStep(r, c)
			expectAfter(t, g, r, c, want, ok)
		}
	}
}

// From a new rank on, the commands lead to every valid state and to no other.
func TestCommandsReachExactlyTheValidStates(t *testing.T) {
	for _, g := range stateGeometries() {
		reached := map[string]bool{rankKey(impl.RankNew(g)): true}
		work := []impl.Rank{impl.RankNew(g)}
		for len(work) > 0 {
			r := work[0]
			work = work[1:]
			for _, c := range commandsIn(g) {
				next, ok := impl.RankAfter(g, r, c)
				if ok != impl.Allowed(g, r, c) {
					t.Errorf("RankAfter(%+v, %+v, %+v) returns %v, but Allowed does not", g, r, c, ok)
				}
				if ok && !impl.RankOk(g, next) {
					t.Errorf("RankAfter(%+v, %+v, %+v) = %+v, which is not valid", g, r, c, next)
				}
				if ok && !reached[rankKey(next)] {
					reached[rankKey(next)] = true
					work = append(work, next)
				}
			}
		}
		for _, r := range ranksOf(g) {
			if !reached[rankKey(r)] {
				t.Errorf("no commands lead to %+v in %+v", r, g)
			}
		}
		if want := len(ranksOf(g)); len(reached) != want {
			t.Errorf("the commands lead to %d states of %+v, want %d", len(reached), g, want)
		}
	}
}

func TestRankAfterOfInvalidGeometry(t *testing.T) {
	for _, g := range noGeometries() {
		for _, count := range []int{0, 1, 2, 4, 8} {
			for power := range 3 {
				r := impl.Rank{Banks: make([]impl.Bank, count), Power: power}
				for _, form := range commandForms {
					expectAfter(t, g, r, impl.Command{Kind: form.kind}, r, false)
				}
			}
		}
	}
}

// A state that is not valid allows nothing and is returned as it was, however
// large its numbers are.
func TestRankAfterOfInvalidState(t *testing.T) {
	for _, g := range gapGeometries() {
		for _, r := range noRanks(g) {
			for _, c := range append(commandsIn(g), impl.Command{}, impl.Command{Kind: impl.CmdSrx + 1}) {
				expectAfter(t, g, r, c, r, false)
			}
		}
	}
}

func TestRankAfterOfInvalidCommands(t *testing.T) {
	g := impl.Geometry{Groups: 2, Banks: 4, Rows: 16, Cols: 8}
	known := map[impl.Command]bool{}
	for _, c := range allCommands() {
		known[c] = true
	}
	open := impl.Rank{Banks: []impl.Bank{{Open: true}, {}, {Open: true, Row: 15}, {}, {}, {}, {Open: true, Row: 1}, {Open: true, Row: 7}}}
	for _, r := range []impl.Rank{impl.RankNew(g), open, {Banks: open.Banks, Power: 1}, {Banks: make([]impl.Bank, 8), Power: 2}} {
		for _, c := range commandsOfAnyFields() {
			if !known[c] {
				expectAfter(t, g, r, c, r, false)
			}
		}
	}
}

// Each field that a kind does not use must be 0, also where the kind is allowed.
func TestRankAfterWithUnusedFields(t *testing.T) {
	g := impl.Geometry{Groups: 2, Banks: 2, Rows: 4, Cols: 2}
	for _, r := range someRanks(g) {
		for _, c := range commandsIn(g) {
			form := commandForms[c.Kind-1]
			for _, n := range append([]int{-1, 1, 2, 3}, farNumbers...) {
				if !form.bank {
					expectAfter(t, g, r, impl.Command{Kind: c.Kind, Bank: n, Row: c.Row, Col: c.Col}, r, false)
				}
				if !form.row {
					expectAfter(t, g, r, impl.Command{Kind: c.Kind, Bank: c.Bank, Row: n, Col: c.Col}, r, false)
				}
				if !form.col {
					expectAfter(t, g, r, impl.Command{Kind: c.Kind, Bank: c.Bank, Row: c.Row, Col: n}, r, false)
				}
			}
		}
	}
}

// A well-formed command that does not exist in the geometry is refused.
func TestRankAfterOfMissingCommands(t *testing.T) {
	for _, g := range gapGeometries() {
		present := commandsIn(g)
		for _, r := range someRanks(g) {
			for _, c := range allCommands() {
				if !slices.Contains(present, c) {
					expectAfter(t, g, r, c, r, false)
				}
			}
		}
	}
}

func TestOpenBanksAndRowOf(t *testing.T) {
	open := func(row int) impl.Bank { return impl.Bank{Open: true, Row: row} }
	closed := impl.Bank{}
	cases := []struct {
		banks []impl.Bank
		open  []int
		rows  []int
	}{
		{nil, nil, nil}, {[]impl.Bank{}, nil, nil},
		{[]impl.Bank{closed}, nil, []int{-1}}, {[]impl.Bank{open(0)}, []int{0}, []int{0}}, {[]impl.Bank{open(15)}, []int{0}, []int{15}},
		{[]impl.Bank{closed, open(3)}, []int{1}, []int{-1, 3}}, {[]impl.Bank{open(3), closed}, []int{0}, []int{3, -1}},
		{[]impl.Bank{open(1), closed, open(0), open(1)}, []int{0, 2, 3}, []int{1, -1, 0, 1}},
		{[]impl.Bank{closed, closed, closed, closed, closed, closed, closed, open(2)}, []int{7}, []int{-1, -1, -1, -1, -1, -1, -1, 2}},
		{[]impl.Bank{open(8), open(7), open(6), open(5), open(4), open(3), open(2), open(1)}, []int{0, 1, 2, 3, 4, 5, 6, 7}, []int{8, 7, 6, 5, 4, 3, 2, 1}},
		// Neither function asks for a valid state.
		{[]impl.Bank{{Row: 5}, open(-1)}, []int{1}, []int{-1, -1}}, {[]impl.Bank{open(-7), open(16)}, []int{0, 1}, []int{-7, 16}},
		{[]impl.Bank{open(math.MinInt), {Row: math.MaxInt}, open(math.MaxInt)}, []int{0, 2}, []int{math.MinInt, -1, math.MaxInt}},
		{append(make([]impl.Bank, 9), open(4)), []int{9}, []int{-1, -1, -1, -1, -1, -1, -1, -1, -1, 4}},
	}
	for _, c := range cases {
		for _, power := range append([]int{-1, 0, 1, 2, 3}, farNumbers...) {
			r := impl.Rank{Banks: c.banks, Power: power}
			if got := impl.OpenBanks(r); !slices.Equal(got, c.open) {
				t.Errorf("OpenBanks(%+v) = %v, want %v", r, got, c.open)
			}
			for i, want := range c.rows {
				expectRowOf(t, r, i, want)
			}
			for _, i := range append([]int{-2, -1, len(c.banks), len(c.banks) + 1}, farNumbers...) {
				expectRowOf(t, r, i, -1)
			}
		}
	}
}

func TestOpenBanksAndRowOfEveryState(t *testing.T) {
	for _, g := range stateGeometries() {
		for _, r := range ranksOf(g) {
			want := []int{}
			for i, bank := range r.Banks {
				if bank.Open {
					want = append(want, i)
					expectRowOf(t, r, i, bank.Row)
				} else {
					expectRowOf(t, r, i, -1)
				}
			}
			if got := impl.OpenBanks(r); !slices.Equal(got, want) {
				t.Errorf("OpenBanks(%+v) = %v, want %v", r, got, want)
			}
		}
	}
}

func TestOpenBanksResultIsNew(t *testing.T) {
	r := impl.Rank{Banks: []impl.Bank{{Open: true, Row: 2}, {}, {Open: true, Row: 1}}}
	first := impl.OpenBanks(r)
	for i := range first {
		first[i] = 9
	}
	if got := impl.OpenBanks(r); !slices.Equal(got, []int{0, 2}) {
		t.Errorf("OpenBanks(%+v) = %v after a change of an earlier result", r, got)
	}
}

func expectRankOk(t *testing.T, g impl.Geometry, r impl.Rank, want bool) {
	t.Helper()
	if got := impl.RankOk(g, r); got != want {
		t.Errorf("RankOk(%+v, %+v) = %v, want %v", g, r, got, want)
	}
}

func expectRowOf(t *testing.T, r impl.Rank, bank int, want int) {
	t.Helper()
	if got := impl.RowOf(r, bank); got != want {
		t.Errorf("RowOf(%+v, %d) = %d, want %d", r, bank, got, want)
	}
}

// expectAfter also checks that an allowed command leads to a valid state, and
// that neither the call nor a change of its result reaches the state passed in
// or the capacity behind its banks.
func expectAfter(t *testing.T, g impl.Geometry, r impl.Rank, c impl.Command, want impl.Rank, ok bool) {
	t.Helper()
	mark := impl.Bank{Open: true, Row: 99}
	before := append(slices.Clone(r.Banks), mark)
	backing := slices.Clone(before)
	given := impl.Rank{Banks: backing[:len(r.Banks)], Power: r.Power}
	if got := impl.Allowed(g, given, c); got != ok {
		t.Errorf("Allowed(%+v, %+v, %+v) = %v, want %v", g, r, c, got, ok)
	}
	got, gotOk := impl.RankAfter(g, given, c)
	if !sameRank(got, want) || gotOk != ok {
		t.Errorf("RankAfter(%+v, %+v, %+v) = %+v, %v, want %+v, %v", g, r, c, got, gotOk, want, ok)
	}
	if ok && !impl.RankOk(g, got) {
		t.Errorf("RankAfter(%+v, %+v, %+v) = %+v, which is not valid", g, r, c, got)
	}
	for i := range got.Banks {
		got.Banks[i] = impl.Bank{Open: true, Row: 55}
	}
	if got.Banks = append(got.Banks, impl.Bank{Row: 66}); !slices.Equal(backing, before) {
		t.Errorf("RankAfter(%+v, %+v, %+v) or a change of its result changed the banks to %+v", g, r, c, backing)
	}
}

// sameRank takes a nil slice and an empty one as the same value.
func sameRank(a, b impl.Rank) bool { return a.Power == b.Power && slices.Equal(a.Banks, b.Banks) }

// rankKey expects rows that are not negative.
func rankKey(r impl.Rank) string {
	key := []rune{rune(r.Power)}
	for _, bank := range r.Banks {
		row := rune('-')
		if bank.Open {
			row = rune('0' + bank.Row)
		}
		key = append(key, row)
	}
	return string(key)
}

// rankWith returns the state with another bank at index i.
func rankWith(r impl.Rank, i int, bank impl.Bank) impl.Rank {
	banks := slices.Clone(r.Banks)
	banks[i] = bank
	return impl.Rank{Banks: banks, Power: r.Power}
}

func commandOf(t *testing.T, text string) impl.Command {
	t.Helper()
	c, ok := impl.ParseCommand(text)
	if !ok {
		t.Fatalf("%q is no command", text)
	}
	return c
}

func isBankKind(kind int) bool { return kind >= impl.CmdAct && kind <= impl.CmdRef }

func openWord(open bool) string {
	if open {
		return "open"
	}
	return "closed"
}

// rankStep expects a valid state, and a command that exists in its geometry.
func rankStep(r impl.Rank, c impl.Command) (impl.Rank, bool) {
	open := slices.ContainsFunc(r.Banks, func(b impl.Bank) bool { return b.Open })
	if isBankKind(c.Kind) {
		open = r.Banks[c.Bank].Open
	}
	if !slices.Contains(commandStates[c.Kind], powerWords[r.Power]+" "+openWord(open)) {
		return r, false
	}
	switch c.Kind {
	case impl.CmdAct:
		return rankWith(r, c.Bank, impl.Bank{Open: true, Row: c.Row}), true
	case impl.CmdPre:
		return rankWith(r, c.Bank, impl.Bank{}), true
	case impl.CmdPde:
		return impl.Rank{Banks: r.Banks, Power: 1}, true
	case impl.CmdSre:
		return impl.Rank{Banks: r.Banks, Power: 2}, true
	case impl.CmdPdx, impl.CmdSrx:
		return impl.Rank{Banks: r.Banks}, true
	}
	return r, true
}

// stateGeometries returns geometries with few states.
func stateGeometries() []impl.Geometry {
	return []impl.Geometry{
		{Groups: 1, Banks: 1, Rows: 2, Cols: 1}, {Groups: 1, Banks: 1, Rows: 16, Cols: 8}, {Groups: 2, Banks: 1, Rows: 4, Cols: 2},
		{Groups: 1, Banks: 3, Rows: 3, Cols: 2}, {Groups: 2, Banks: 2, Rows: 3, Cols: 1}, {Groups: 1, Banks: 4, Rows: 2, Cols: 2},
	}
}

// ranksOf returns every valid state.
func ranksOf(g impl.Geometry) []impl.Rank {
	lists := [][]impl.Bank{nil}
	for range g.Groups * g.Banks {
		longer := [][]impl.Bank{}
		for _, list := range lists {
			longer = append(longer, append(slices.Clone(list), impl.Bank{}))
			for row := range g.Rows {
				longer = append(longer, append(slices.Clone(list), impl.Bank{Open: true, Row: row}))
			}
		}
		lists = longer
	}
	ranks := []impl.Rank{{Banks: make([]impl.Bank, g.Groups*g.Banks), Power: 2}}
	for _, list := range lists {
		ranks = append(ranks, impl.Rank{Banks: list}, impl.Rank{Banks: list, Power: 1})
	}
	return ranks
}

// someRanks returns valid states with no open bank, with one, with all, and
// with every second one.
func someRanks(g impl.Geometry) []impl.Rank {
	count := g.Groups * g.Banks
	closed := impl.Rank{Banks: make([]impl.Bank, count)}
	all, second := closed, closed
	for i := range count {
		all = rankWith(all, i, impl.Bank{Open: true, Row: (3*i + 1) % g.Rows})
		if i%2 == 0 {
			second = rankWith(second, i, impl.Bank{Open: true, Row: g.Rows - 1})
		}
	}
	first, last := rankWith(closed, 0, impl.Bank{Open: true}), rankWith(closed, count-1, impl.Bank{Open: true, Row: g.Rows - 1})
	ranks := []impl.Rank{{Banks: closed.Banks, Power: 2}}
	for _, r := range []impl.Rank{closed, all, second, first, last} {
		ranks = append(ranks, r, impl.Rank{Banks: r.Banks, Power: 1})
	}
	return ranks
}

// noRanks returns states in which the number of banks, one row or Power is
// wrong, or a bank is open during self-refresh.
func noRanks(g impl.Geometry) []impl.Rank {
	count := g.Groups * g.Banks
	ranks := []impl.Rank{{}, {Power: 1}, {Power: 2}}
	for _, r := range someRanks(g) {
		ranks = append(ranks,
			impl.Rank{Banks: r.Banks[:count-1], Power: r.Power},
			impl.Rank{Banks: append(slices.Clone(r.Banks), impl.Bank{}), Power: r.Power},
			impl.Rank{Banks: append(slices.Clone(r.Banks), r.Banks...), Power: r.Power},
			impl.Rank{Banks: rankWith(r, count-1, impl.Bank{Open: true}).Banks, Power: 2},
			impl.Rank{Banks: rankWith(r, 0, impl.Bank{Open: true, Row: g.Rows - 1}).Banks, Power: 2})
		for _, power := range append([]int{-1, 3, 4, -2}, farNumbers...) {
			ranks = append(ranks, impl.Rank{Banks: r.Banks, Power: power})
		}
		for _, i := range []int{0, count - 1} {
			for _, row := range append([]int{-1, g.Rows, g.Rows + 1}, farNumbers...) {
				ranks = append(ranks, rankWith(r, i, impl.Bank{Open: true, Row: row}), rankWith(r, i, impl.Bank{Row: row}))
			}
			ranks = append(ranks, rankWith(r, i, impl.Bank{Row: 1}))
		}
	}
	return ranks
}
