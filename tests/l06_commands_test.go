package tests

import (
	"math"
	"slices"
	"strconv"
	"strings"
	"testing"

	"loop.example/g00977/impl"
)

// A commandForm tells which fields the commands of one kind use.
type commandForm struct {
	kind           int
	word           string
	bank, row, col bool
}

// commandForms is written from the text of the chapter, in the order of the
// kinds, so that the kind at index i is i+1.
var commandForms = []commandForm{
	{impl.CmdAct, "act", true, true, false},
	{impl.CmdRead, "read", true, false, true},
	{impl.CmdWrite, "write", true, false, true},
	{impl.CmdPre, "pre", true, false, false},
	{impl.CmdRef, "ref", true, false, false},
	{impl.CmdPde, "down", false, false, false},
	{impl.CmdPdx, "up", false, false, false},
	{impl.CmdSre, "sleep", false, false, false},
	{impl.CmdSrx, "wake", false, false, false},
}

func TestCommandKinds(t *testing.T) {
	for i, form := range commandForms {
		if form.kind != i+1 {
			t.Errorf("the kind of %q is %d, want %d", form.word, form.kind, i+1)
		}
	}
	if got := len(allCommands()); got != 8*16+2*8*8+2*8+4 {
		t.Errorf("there are %d commands", got)
	}
}

func TestCommandExamples(t *testing.T) {
	cases := []struct {
		kind, bank, row, col int
		text                 string
		packed, frame        int
	}{
		{impl.CmdAct, 0, 0, 0, "act 0 0", 1, 16385},
		{impl.CmdAct, 7, 15, 0, "act 7 15", 2033, 2033},
		{impl.CmdAct, 2, 10, 0, "act 2 10", 1313, 1313},
		{impl.CmdRead, 0, 0, 0, "read 0 0", 2, 16386},
		{impl.CmdRead, 2, 0, 7, "read 2 7", 14370, 30754},
		{impl.CmdRead, 7, 0, 7, "read 7 7", 14450, 30834},
		{impl.CmdWrite, 0, 0, 1, "write 0 1", 2051, 18435},
		{impl.CmdWrite, 3, 0, 0, "write 3 0", 51, 51},
		{impl.CmdWrite, 7, 0, 7, "write 7 7", 14451, 14451},
		{impl.CmdPre, 0, 0, 0, "pre 0", 4, 16388},
		{impl.CmdPre, 1, 0, 0, "pre 1", 20, 20},
		{impl.CmdPre, 7, 0, 0, "pre 7", 116, 116},
		{impl.CmdRef, 0, 0, 0, "ref 0", 5, 5},
		{impl.CmdRef, 7, 0, 0, "ref 7", 117, 16501},
		{impl.CmdPde, 0, 0, 0, "down", 6, 6},
		{impl.CmdPdx, 0, 0, 0, "up", 7, 16391},
		{impl.CmdSre, 0, 0, 0, "sleep", 8, 16392},
		{impl.CmdSrx, 0, 0, 0, "wake", 9, 9},
	}
	for _, c := range cases {
		command := impl.Command{Kind: c.kind, Bank: c.bank, Row: c.row, Col: c.col}
		expectCommand(t, command, c.text, c.packed, c.frame)
	}
}

// The texts and frames of all commands, put together by the test itself.
func TestEveryCommand(t *testing.T) {
	for _, c := range allCommands() {
		packed := c.Kind + 16*c.Bank + 128*c.Row + 2048*c.Col
		expectCommand(t, c, commandText(c), packed, packed+16384*onesIn(packed)%(2*16384))
	}
}

func TestCommandsDiffer(t *testing.T) {
	texts, packs, frames := map[string]bool{}, map[int]bool{}, map[int]bool{}
	for _, c := range allCommands() {
		texts[impl.FormatCommand(c)] = true
		packs[impl.PackCommand(c)] = true
		frames[impl.FrameCommand(c)] = true
	}
	if count := len(allCommands()); len(texts) != count || len(packs) != count || len(frames) != count {
		t.Errorf("%d commands have %d texts, %d packed words and %d frames", count, len(texts), len(packs), len(frames))
	}
}

func TestFormatCommandUndoesParseCommand(t *testing.T) {
	for _, text := range commandTexts() {
		if c, ok := impl.ParseCommand(text); !ok || impl.FormatCommand(c) != text {
			t.Errorf("FormatCommand(ParseCommand(%q)) = %q, %v", text, impl.FormatCommand(c), ok)
		}
	}
}

func TestCommandOk(t *testing.T) {
	g := impl.Geometry{Groups: 1, Banks: 3, Rows: 4, Cols: 2}
	cases := []struct {
		kind, bank, row, col int
		want                 bool
	}{
		{impl.CmdAct, 0, 0, 0, true}, {impl.CmdAct, 2, 3, 0, true}, {impl.CmdAct, 3, 0, 0, false}, {impl.CmdAct, 0, 4, 0, false},
		{impl.CmdAct, 0, 0, 1, false}, {impl.CmdAct, 0, -1, 0, false}, {impl.CmdAct, -1, 0, 0, false},
		{impl.CmdRead, 2, 0, 1, true}, {impl.CmdRead, 3, 0, 1, false}, {impl.CmdRead, 2, 0, 2, false}, {impl.CmdRead, 2, 1, 1, false},
		{impl.CmdWrite, 2, 0, 1, true}, {impl.CmdWrite, 3, 0, 1, false}, {impl.CmdWrite, 2, 0, 2, false}, {impl.CmdWrite, 2, 1, 1, false},
		{impl.CmdPre, 2, 0, 0, true}, {impl.CmdPre, 3, 0, 0, false}, {impl.CmdPre, 2, 1, 0, false}, {impl.CmdPre, 2, 0, 1, false},
		{impl.CmdRef, 2, 0, 0, true}, {impl.CmdRef, 3, 0, 0, false}, {impl.CmdRef, 2, 1, 0, false}, {impl.CmdRef, 2, 0, 1, false},
		{impl.CmdPde, 0, 0, 0, true}, {impl.CmdPde, 1, 0, 0, false}, {impl.CmdPde, 0, 1, 0, false}, {impl.CmdPde, 0, 0, 1, false},
		{impl.CmdPdx, 0, 0, 0, true}, {impl.CmdPdx, 1, 0, 0, false}, {impl.CmdPdx, 0, 1, 0, false}, {impl.CmdPdx, 0, 0, 1, false},
		{impl.CmdSre, 0, 0, 0, true}, {impl.CmdSre, 1, 0, 0, false}, {impl.CmdSre, 0, 1, 0, false}, {impl.CmdSre, 0, 0, 1, false},
		{impl.CmdSrx, 0, 0, 0, true}, {impl.CmdSrx, 1, 0, 0, false}, {impl.CmdSrx, 0, 1, 0, false}, {impl.CmdSrx, 0, 0, 1, false},
		{0, 0, 0, 0, false}, {-1, 0, 0, 0, false}, {impl.CmdSrx + 1, 0, 0, 0, false}, {math.MaxInt, 0, 0, 0, false},
	}
	for _, c := range cases {
		command := impl.Command{Kind: c.kind, Bank: c.bank, Row: c.row, Col: c.col}
		if got := impl.CommandOk(g, command); got != c.want {
			t.Errorf("CommandOk(%+v, %+v) = %v, want %v", g, command, got, c.want)
		}
	}
}

func TestCommandOkOfEveryGeometry(t *testing.T) {
	for _, g := range allGeometries() {
		for _, c := range allCommands() {
			want := c.Bank < g.Groups*g.Banks && c.Row < g.Rows && c.Col < g.Cols
			if got := impl.CommandOk(g, c); got != want {
				t.Errorf("CommandOk(%+v, %+v) = %v, want %v", g, c, got, want)
			}
		}
	}
}

func TestCommandOkOfInvalidGeometry(t *testing.T) {
	for _, g := range noGeometries() {
		for _, c := range allCommands() {
			if impl.CommandOk(g, c) {
				t.Errorf("CommandOk(%+v, %+v) = true", g, c)
			}
		}
	}
}

// A command is refused exactly if it is not one of those that the chapter
// allows, whatever is in its four fields.
func TestCommandsThatAreNone(t *testing.T) {
	known := map[impl.Command]bool{}
	for _, c := range allCommands() {
		known[c] = true
	}
	for _, c := range commandsOfAnyFields() {
		if !known[c] {
			expectNoCommand(t, c)
		}
	}
}

// Each field that the kind does not use must be 0, in every geometry.
func TestUnusedFieldsOfCommands(t *testing.T) {
	for _, c := range allCommands() {
		form := commandForms[c.Kind-1]
		for _, n := range []int{math.MinInt, -1, 1, 2, 7, 8, 15, 16, 1 << 32, math.MaxInt} {
			if !form.bank {
				expectNoCommand(t, impl.Command{Kind: c.Kind, Bank: n, Row: c.Row, Col: c.Col})
			}
			if !form.row {
				expectNoCommand(t, impl.Command{Kind: c.Kind, Bank: c.Bank, Row: n, Col: c.Col})
			}
			if !form.col {
				expectNoCommand(t, impl.Command{Kind: c.Kind, Bank: c.Bank, Row: c.Row, Col: n})
			}
		}
	}
}

// A word with up to four numbers is the text of a command exactly if the test
// itself writes a command so.
func TestParseCommandWithAnyNumbers(t *testing.T) {
	texts := commandTexts()
	numbers := []string{"-1", "0", "1", "7", "8", "15", "16"}
	for _, form := range commandForms {
		for _, count := range []int{0, 1, 2, 3, 4} {
			for _, tail := range sequencesOf(numbers, count) {
				text := strings.Join(append([]string{form.word}, tail...), " ")
				if _, ok := impl.ParseCommand(text); ok != slices.Contains(texts, text) {
					t.Errorf("ParseCommand(%q) gives %v", text, ok)
				}
			}
		}
	}
}

func TestParseCommandWithOneOtherByte(t *testing.T) {
	texts := commandTexts()
	for _, text := range []string{"act 2 10", "act 0 0", "read 2 7", "write 0 1", "pre 3", "ref 7", "down", "up", "sleep", "wake"} {
		for _, other := range textsWithOneOtherByte(text) {
			if _, ok := impl.ParseCommand(other); ok != slices.Contains(texts, other) {
				t.Errorf("ParseCommand(%q) gives %v", other, ok)
			}
		}
	}
}

func TestParseCommandOfOtherSpaces(t *testing.T) {
	for _, text := range commandTexts() {
		expectNoCommandText(t, " "+text)
		expectNoCommandText(t, text+" ")
		expectNoCommandText(t, " "+text+" ")
		expectNoCommandText(t, text+"\n")
		expectNoCommandText(t, text+"\x00")
		expectNoCommandText(t, text+" 0")
		expectNoCommandText(t, text+" -")
		expectNoCommandText(t, strings.ToUpper(text))
		expectNoCommandText(t, text+strings.Repeat(" ", impl.MaxLineLen-len(text)))
		expectNoCommandText(t, text+strings.Repeat(" ", impl.MaxLineLen))
		expectNoCommandText(t, text+strings.Repeat(" 0", impl.MaxFieldsPerLine))
		if strings.Contains(text, " ") {
			expectNoCommandText(t, strings.Replace(text, " ", "  ", 1))
			expectNoCommandText(t, strings.Replace(text, " ", "", 1))
			expectNoCommandText(t, strings.Replace(text, " ", "\t", 1))
			expectNoCommandText(t, strings.ReplaceAll(text, " ", "  "))
			expectNoCommandText(t, text[:strings.LastIndex(text, " ")])
			expectNoCommandText(t, text[strings.Index(text, " ")+1:])
		}
	}
}

func TestParseCommandInvalid(t *testing.T) {
	for _, text := range []string{
		"", " ", "  ", "0", "1", "9", "-1", "act", "act 0", "read", "read 0", "write", "pre", "ref", "read 2 7 0", "act 0 0 0",
		"pre 0 0", "ref 0 0", "down 0", "up 0", "sleep 0", "wake 0", "open 0 0", "ac 0 0", "actt 0 0", "Act 0 0", "READ 2 7",
		"reads 2 7", "precharge 0", "refresh 0", "pde", "pdx", "sre", "srx", "1 0 0", "2 2 7",
		"read +2 7", "read 2 +7", "read -2 7", "read 2 -7", "read -0 7", "read 02 7", "read 2 07", "read 00 7", "act 0 015", "act 0 00",
		"read 8 7", "read 2 8", "act 8 0", "act 0 16", "act 7 150", "pre 8", "ref 8", "pre 10", "write 0 8", "write 8 0",
		"read 2.0 7", "read 2 0x7", "read 2 7e0", "read two 7", "read 2 a", "read 2,7", "read 2 7;", "read a 7", "pre x", "pre +0",
		"read  2 7", "read 2  7", " read 2 7", "read 2 7 ", "read\t2 7", "read 2\n7", "read 2 7\n", "\nread 2 7",
		"read 1000000000 7", "read 1000000001 7", "read 4294967298 7", "read 2 4294967303", "read 18446744073709551618 7",
		"read 2 18446744073709551623", "read 9223372036854775807 7", "read -9223372036854775808 7", "act 0 9223372036854775807",
		"read ２ 7", "read 2 7\x80", "réad 2 7", "down\x00", "down up", "up up", "2 read 7", "2 7 read",
	} {
		expectNoCommandText(t, text)
	}
}

// The letters of the short words give no other word of a command.
func TestParseCommandOtherWords(t *testing.T) {
	texts := commandTexts()
	for _, word := range textsOver("acdefiknoprtuw", 4) {
		for _, text := range []string{word, word + " 0", word + " 0 0"} {
			if _, ok := impl.ParseCommand(text); ok && !slices.Contains(texts, text) {
				t.Errorf("ParseCommand(%q) gives a command", text)
			}
		}
	}
}

// There are no other frames than those of the commands; the greatest one is
// less than 32768.
func TestReadFrameOfEveryWord(t *testing.T) {
	frames := map[int]impl.Command{}
	for _, c := range allCommands() {
		frames[impl.FrameCommand(c)] = c
	}
	for w := -1 << 17; w < 1<<17; w++ {
		want, is := frames[w]
		if got, ok := impl.ReadFrame(w); got != want || ok != is {
			t.Errorf("ReadFrame(%d) = %+v, %v, want %+v, %v", w, got, ok, want, is)
		}
	}
}

func TestReadFrameWithOneWrongBit(t *testing.T) {
	for _, c := range allCommands() {
		frame := impl.FrameCommand(c)
		for i := range 64 {
			expectNoFrame(t, frame^int(uint64(1)<<i))
		}
	}
}

func TestReadFrameInvalid(t *testing.T) {
	for _, w := range []int{
		math.MinInt, math.MinInt + 1, -16385, -2, -1, 0, 1, 2, 10, 10 + 16384, 15, 15 + 16384, 16384, 30755, 30754 + 16384, 30754 - 16384,
		30835, 32767, 32768, 32769, 65535, 65536, 16386 + 32768, 5 + 1<<32, impl.MaxWord, impl.MaxWord + 1, math.MaxInt - 1, math.MaxInt,
	} {
		expectNoFrame(t, w)
	}
	for _, c := range allCommands() {
		frame := impl.FrameCommand(c)
		for _, w := range []int{-frame, ^frame, frame + 1<<15, frame + 1<<16, frame + 3<<15, frame + 1<<32, frame + 3<<61, frame + math.MinInt} {
			expectNoFrame(t, w)
		}
	}
}

// A packed word of odd parity is no frame.
func TestFramesHaveEvenParity(t *testing.T) {
	for _, c := range allCommands() {
		if frame := impl.FrameCommand(c); onesIn(frame)%2 != 0 || impl.ParityOf(frame) != 0 {
			t.Errorf("FrameCommand(%+v) = %d has odd parity", c, frame)
		}
		if packed := impl.PackCommand(c); onesIn(packed)%2 != 0 {
			expectNoFrame(t, packed)
		} else {
			expectNoFrame(t, packed+16384)
		}
	}
}

func expectCommand(t *testing.T, c impl.Command, text string, packed int, frame int) {
	t.Helper()
	if got := impl.FormatCommand(c); got != text {
		t.Errorf("FormatCommand(%+v) = %q, want %q", c, got, text)
	}
	if got, ok := impl.ParseCommand(text); got != c || !ok {
		t.Errorf("ParseCommand(%q) = %+v, %v, want %+v, true", text, got, ok, c)
	}
	if got := impl.PackCommand(c); got != packed {
		t.Errorf("PackCommand(%+v) = %d, want %d", c, got, packed)
	}
	if got := impl.FrameCommand(c); got != frame {
		t.Errorf("FrameCommand(%+v) = %d, want %d", c, got, frame)
	}
	if got, ok := impl.ReadFrame(frame); got != c || !ok {
		t.Errorf("ReadFrame(%d) = %+v, %v, want %+v, true", frame, got, ok, c)
	}
	largest := impl.Geometry{Groups: 2, Banks: 4, Rows: 16, Cols: 8}
	if !impl.CommandOk(largest, c) {
		t.Errorf("CommandOk(%+v, %+v) = false", largest, c)
	}
}

func expectNoCommand(t *testing.T, c impl.Command) {
	t.Helper()
	if got := impl.FormatCommand(c); got != "" {
		t.Errorf("FormatCommand(%+v) = %q, want none", c, got)
	}
	if got := impl.PackCommand(c); got != -1 {
		t.Errorf("PackCommand(%+v) = %d, want -1", c, got)
	}
	if got := impl.FrameCommand(c); got != -1 {
		t.Errorf("FrameCommand(%+v) = %d, want -1", c, got)
	}
	for _, g := range []impl.Geometry{{Groups: 2, Banks: 4, Rows: 16, Cols: 8}, {Groups: 1, Banks: 1, Rows: 2, Cols: 1}, {}} {
		if impl.CommandOk(g, c) {
			t.Errorf("CommandOk(%+v, %+v) = true", g, c)
		}
	}
}

func expectNoCommandText(t *testing.T, text string) {
	t.Helper()
	if got, ok := impl.ParseCommand(text); got != (impl.Command{}) || ok {
		t.Errorf("ParseCommand(%q) = %+v, %v, want none", text, got, ok)
	}
}

func expectNoFrame(t *testing.T, w int) {
	t.Helper()
	if got, ok := impl.ReadFrame(w); got != (impl.Command{}) || ok {
		t.Errorf("ReadFrame(%d) = %+v, %v, want none", w, got, ok)
	}
}

// allCommands returns every well-formed command.
func allCommands() []impl.Command {
	commands := []impl.Command{}
	for _, form := range commandForms {
		for bank := range valuesIf(form.bank, 8) {
			for row := range valuesIf(form.row, 16) {
				for col := range valuesIf(form.col, 8) {
					commands = append(commands, impl.Command{Kind: form.kind, Bank: bank, Row: row, Col: col})
				}
			}
		}
	}
	return commands
}

// valuesIf returns how many values a field has: an unused one is always 0.
func valuesIf(used bool, count int) int {
	if used {
		return count
	}
	return 1
}

// commandsOfAnyFields returns the commands whose fields are at and around the
// ends of their ranges, or far away.
func commandsOfAnyFields() []impl.Command {
	far := []int{math.MinInt, -1 << 32, -128, 127, 1 << 32, math.MaxInt}
	kinds := append([]int{-9, -1, 0, 1, 2, 3, 4, 5, 6, 7, 8, 9, 10, 15, 16, 17, 1<<32 + 2}, far...)
	banks := append([]int{-1, 0, 1, 6, 7, 8, 9, 1<<32 + 1}, far...)
	rows := append([]int{-1, 0, 1, 7, 8, 14, 15, 16, 17}, far...)
	cols := append([]int{-1, 0, 1, 6, 7, 8, 9}, far...)
	commands := []impl.Command{}
	for _, kind := range kinds {
		for _, bank := range banks {
			for _, row := range rows {
				for _, col := range cols {
					commands = append(commands, impl.Command{Kind: kind, Bank: bank, Row: row, Col: col})
				}
			}
		}
	}
	return commands
}

func commandText(c impl.Command) string {
	form := commandForms[c.Kind-1]
	text := form.word
	if form.bank {
		text += " " + strconv.Itoa(c.Bank)
	}
	if form.row {
		text += " " + strconv.Itoa(c.Row)
	}
	if form.col {
		text += " " + strconv.Itoa(c.Col)
	}
	return text
}

func commandTexts() []string {
	texts := []string{}
	for _, c := range allCommands() {
		texts = append(texts, commandText(c))
	}
	return texts
}

// sequencesOf returns every sequence of the given length.
func sequencesOf(values []string, length int) [][]string {
	if length == 0 {
		return [][]string{nil}
	}
	sequences := [][]string{}
	for _, start := range sequencesOf(values, length-1) {
		for _, value := range values {
			sequences = append(sequences, append(slices.Clone(start), value))
		}
	}
	return sequences
}

// textsWithOneOtherByte returns the texts that differ from the given one by a
// byte that is replaced, inserted or left out.
func textsWithOneOtherByte(text string) []string {
	texts := []string{}
	for i := range len(text) + 1 {
		for b := range 256 {
			texts = append(texts, text[:i]+string([]byte{byte(b)})+text[i:])
			if i < len(text) {
				texts = append(texts, text[:i]+string([]byte{byte(b)})+text[i+1:])
			}
		}
		if i < len(text) {
			texts = append(texts, text[:i]+text[i+1:])
		}
	}
	return texts
}

func onesIn(x int) int { return strings.Count(strconv.FormatInt(int64(x), 2), "1") }
