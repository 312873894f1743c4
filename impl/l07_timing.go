package impl

const (
	MaxTime = 1000000
)

type Timing struct {
	RCD  int
	RP   int
	RAS  int
	RRDS int
	RRDL int
	FAW  int
	CCDS int
	CCDL int
	RTP  int
	WR   int
	WTRS int
	WTRL int
	RTW  int
	RFC  int
	CKE  int
	XP   int
	XS   int
}

// TimingOk reports whether t is valid: all numbers are in the range 1 to 64, RCD is at most RAS,
// RRDS is at most RRDL, CCDS is at most CCDL, and WTRS is at most WTRL.
func TimingOk(t Timing) bool { return false }

// FastTiming returns a valid timing with RCD 3, RP 3, RAS 7, RRDS 2, RRDL 3, FAW 10, CCDS 2, CCDL
// 3, RTP 3, WR 6, WTRS 4, WTRL 5, RTW 4, RFC 12, CKE 3, XP 4 and XS 16.
func FastTiming() Timing { return Timing{} }

// BankGap returns the minimum distance from a command of kind a to a later command of kind b of
// the same bank, or 0 if there is no such rule or t is not valid. The rules are:
func BankGap(t Timing, a int, b int) int { return 0 }

// RankGap returns the minimum distance from a command of kind a to a later command of kind b of
// any bank, where near tells whether both banks are in the same group. It returns 0 if there is
// no such rule, a or b is none of the kinds, or t is not valid. The rules are:
func RankGap(t Timing, a int, b int, near bool) int { return 0 }

// Gap returns the minimum distance from the command a to a later command b: the maximum of 1,
// RankGap of their kinds, and, if both use a bank and it is the same, BankGap of their kinds.
// Commands that use no bank are not near any command. It returns 0 if t, a or b is not valid
// (CommandOk).
func Gap(g Geometry, t Timing, a Command, b Command) int { return 0 }

// FawOk reports whether t is valid, all elements of times are in the range 0 to MaxTime, and each
// element except the first four is at least FAW greater than the fourth element before it.
func FawOk(t Timing, times []int) bool { return false }
