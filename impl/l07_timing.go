package impl

const (
	MaxTime = 1000000
)

const (
	maxTiming   = 64
	actsPerFaw  = 4
	minDistance = 1
)

type Timing struct {
	RCD  int
	RP   int
	RAS  int
	RRDS int
	RRDL int
	FAW  int
	CCDS int
	CCDL int
	RTP  int
	WR   int
	WTRS int
	WTRL int
	RTW  int
	RFC  int
	CKE  int
	XP   int
	XS   int
}

// A rule gives the minimum distance of two commands.
type rule func(Timing) int

// A ruleRow holds the rules from one kind of command to each kind. A rule that
// does not exist is nil, and so is that of 0, which is no kind.
type ruleRow [CmdSrx + 1]rule

type ruleTable [CmdSrx + 1]ruleRow

func (t Timing) actToAccess() int        { return t.RCD }
func (t Timing) actToPre() int           { return t.RAS }
func (t Timing) actToClosed() int        { return t.RAS + t.RP }
func (t Timing) readToPre() int          { return t.RTP }
func (t Timing) readToClosed() int       { return t.RTP + t.RP }
func (t Timing) writeToPre() int         { return t.WR }
func (t Timing) writeToClosed() int      { return t.WR + t.RP }
func (t Timing) preToClosed() int        { return t.RP }
func (t Timing) refToDone() int          { return t.RFC }
func (t Timing) actToNearAct() int       { return t.RRDL }
func (t Timing) actToFarAct() int        { return t.RRDS }
func (t Timing) accessToNearAccess() int { return t.CCDL }
func (t Timing) accessToFarAccess() int  { return t.CCDS }
func (t Timing) writeToNearRead() int    { return t.WTRL }
func (t Timing) writeToFarRead() int     { return t.WTRS }
func (t Timing) readToWrite() int        { return t.RTW }
func (t Timing) refToRef() int           { return t.RRDL }
func (t Timing) enterToLeave() int       { return t.CKE }
func (t Timing) upToAny() int            { return t.XP }
func (t Timing) wakeToAny() int          { return t.XS }

func TimingOk(t Timing) bool {
	for _, n := range timingNumbers(t) {
		if n < 1 || n > maxTiming {
			return false
		}
	}
	return t.RCD <= t.RAS && t.RRDS <= t.RRDL && t.CCDS <= t.CCDL && t.WTRS <= t.WTRL
}

func timingNumbers(t Timing) [17]int {
	return [17]int{
		t.RCD, t.RP, t.RAS, t.RRDS, t.RRDL, t.FAW, t.CCDS, t.CCDL, t.RTP,
		t.WR, t.WTRS, t.WTRL, t.RTW, t.RFC, t.CKE, t.XP, t.XS,
	}
}

func FastTiming() Timing {
	return Timing{
		RCD: 3, RP: 3, RAS: 7,
		RRDS: 2, RRDL: 3, FAW: 10,
		CCDS: 2, CCDL: 3,
		RTP: 3, WR: 6, WTRS: 4, WTRL: 5, RTW: 4,
		RFC: 12,
		CKE: 3, XP: 4, XS: 16,
	}
}

func BankGap(t Timing, a int, b int) int {
	if !TimingOk(t) || !kindOk(a) || !kindOk(b) {
		return 0
	}
	return distance(t, bankRules()[a][b])
}

func RankGap(t Timing, a int, b int, near bool) int {
	if !TimingOk(t) || !kindOk(a) || !kindOk(b) {
		return 0
	}
	return distance(t, rankRules(near)[a][b])
}

func distance(t Timing, r rule) int {
	if r == nil {
		return 0
	}
	return r(t)
}

func bankRules() ruleTable {
	return ruleTable{
		CmdAct: {
			CmdAct:   Timing.actToClosed,
			CmdRead:  Timing.actToAccess,
			CmdWrite: Timing.actToAccess,
			CmdPre:   Timing.actToPre,
			CmdRef:   Timing.actToClosed,
		},
		CmdRead:  {CmdAct: Timing.readToClosed, CmdPre: Timing.readToPre, CmdRef: Timing.readToClosed},
		CmdWrite: {CmdAct: Timing.writeToClosed, CmdPre: Timing.writeToPre, CmdRef: Timing.writeToClosed},
		CmdPre:   {CmdAct: Timing.preToClosed, CmdRef: Timing.preToClosed},
		CmdRef:   {CmdAct: Timing.refToDone, CmdRef: Timing.refToDone},
	}
}

func rankRules(near bool) ruleTable {
	act, access, turn := Timing.actToFarAct, Timing.accessToFarAccess, Timing.writeToFarRead
	if near {
		act, access, turn = Timing.actToNearAct, Timing.accessToNearAccess, Timing.writeToNearRead
	}
	return ruleTable{
		CmdAct: {CmdAct: act, CmdSre: Timing.actToClosed},
		CmdRead: {
			CmdRead:  access,
			CmdWrite: Timing.readToWrite,
			CmdPde:   Timing.readToPre,
			CmdSre:   Timing.readToClosed,
		},
		CmdWrite: {
			CmdRead:  turn,
			CmdWrite: access,
			CmdPde:   Timing.writeToPre,
			CmdSre:   Timing.writeToClosed,
		},
		CmdPre: {CmdSre: Timing.preToClosed},
		CmdRef: {CmdRef: Timing.refToRef, CmdSre: Timing.refToDone},
		CmdPde: {CmdPdx: Timing.enterToLeave},
		CmdSre: {CmdSrx: Timing.enterToLeave},
		CmdPdx: toEveryKind(Timing.upToAny),
		CmdSrx: toEveryKind(Timing.wakeToAny),
	}
}

func toEveryKind(r rule) ruleRow {
	row := ruleRow{}
	for kind := CmdAct; kind <= CmdSrx; kind++ {
		row[kind] = r
	}
	return row
}

func Gap(g Geometry, t Timing, a Command, b Command) int {
	if !TimingOk(t) || !CommandOk(g, a) || !CommandOk(g, b) {
		return 0
	}
	gap := max(minDistance, RankGap(t, a.Kind, b.Kind, nearBanks(g, a, b)))
	if sameBank(a, b) {
		gap = max(gap, BankGap(t, a.Kind, b.Kind))
	}
	return gap
}

func nearBanks(g Geometry, a, b Command) bool {
	return usesBank(a.Kind) && usesBank(b.Kind) && GroupOf(g, a.Bank) == GroupOf(g, b.Bank)
}

func sameBank(a, b Command) bool {
	return usesBank(a.Kind) && usesBank(b.Kind) && a.Bank == b.Bank
}

func FawOk(t Timing, times []int) bool {
	if !TimingOk(t) {
		return false
	}
	for i, at := range times {
		if at < 0 || at > MaxTime {
			return false
		}
		if i >= actsPerFaw && at < times[i-actsPerFaw]+t.FAW {
			return false
		}
	}
	return true
}
