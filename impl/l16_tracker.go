package impl

const (
	MaxTrack = 16
)

type Tracker struct {
	Rows   []int
	Counts []int
	Spill  int
}

// TrackerNew returns a tracker with k empty entries and Spill 0, and true, or the zero Tracker
// and false if k is not in the range 1 to MaxTrack.
func TrackerNew(k int) (Tracker, bool) { return Tracker{}, false }

// TrackerOk reports whether t is valid: Rows and Counts have the same length, in the range 1 to
// MaxTrack; each row is in the range -1 to 15, and no row other than -1 occurs twice; Spill is in
// the range 0 to 100000; each count is in the range Spill to 100000; and the count of each empty
// entry is 0.
func TrackerOk(t Tracker) bool { return false }

// TrackRow counts an activation of a row. If the row has an entry, its count is incremented.
// Otherwise, if an entry has a count equal to Spill, the first such entry is assigned to the row,
// and its count becomes Spill+1. Otherwise Spill is incremented. TrackRow returns the new
// tracker, and true if a count was changed and is now a multiple of limit. It returns t unchanged
// and false if TrackerOk(t) is false, row is not in the range 0 to 15, limit is not in the range
// 2 to 1000, or the result would not be valid.
func TrackRow(t Tracker, row int, limit int) (Tracker, bool) { return Tracker{}, false }

// TrackCount returns the count of the first entry with the given row (an element of Rows that has
// an element of Counts), or Spill if there is none.
func TrackCount(t Tracker, row int) int { return 0 }

// GuardedRun returns pattern with preventive refreshes inserted, and true. It starts with
// TrackerNew(k) and an empty queue of rows. Each row of pattern is appended to the result and
// counted by TrackRow; if TrackRow returns true, each of Neighbors of the row that is not in the
// queue is appended to the queue. Then, until the queue is empty, its first row is removed,
// appended to the result and counted in the same way, which can add further rows to the queue.
// GuardedRun returns nil and false if PatternOk(rows, pattern) is false, k is not in the range 1
// to MaxTrack, limit is not in the range 3 to 1000, or the result would have more than MaxPattern
// elements.
func GuardedRun(rows int, k int, limit int, pattern []int) ([]int, bool) { return []int{}, false }

// GuardBound returns 2*limit + 2 for a limit in the range 3 to 1000, and 0 otherwise. If
// GuardedRun returns fewer than (k+1)*limit rows, WorstExposure of the result is at most this
// number.
func GuardBound(limit int) int { return 0 }
