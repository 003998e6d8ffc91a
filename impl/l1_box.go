// Package impl: which of those who fly may come too near.
package impl

// Limits of boxes.
const (
	ProbeMaxSide  = 16
	ProbeMaxLevel = 6
	ProbeMaxTick  = 10000
	ProbeApart    = 2
)

// ProbeBox is a cell, levels, and ticks.
type ProbeBox struct {
	X    int
	Y    int
	Low  int
	High int
	In   int
	Out  int
}

// ProbeBoxOk says whether a box is ok.
func ProbeBoxOk(b ProbeBox) bool {
	return sideOk(b.X) && sideOk(b.Y) &&
		levelsOf(b).liesIn(span[level]{0, ProbeMaxLevel}) &&
		ticksOf(b).liesIn(span[tick]{0, ProbeMaxTick})
}

// ProbeClose says whether two boxes come too near, and when first.
func ProbeClose(a ProbeBox, b ProbeBox) (int, bool) {
	if !ProbeBoxOk(a) || !ProbeBoxOk(b) {
		return 0, false
	}
	_, nearX := reachOf(a.X).meet(reachOf(b.X))
	_, nearY := reachOf(a.Y).meet(reachOf(b.Y))
	_, sameLevel := levelsOf(a).meet(levelsOf(b))
	both, sameTick := ticksOf(a).meet(ticksOf(b))
	if !nearX || !nearY || !sameLevel || !sameTick {
		return 0, false
	}
	return int(both.first), true
}

// whole is what a span may count in.
type whole interface {
	~int | ~int8 | ~int16 | ~int32 | ~int64
}

// Kinds of their own, so that a span of one is never held against a span of another.
type (
	place int
	level int
	tick  int
)

// span is the numbers from first to last; there are none, if last is below first.
type span[N whole] struct {
	first N
	last  N
}

// meet is the numbers that are in both spans, and whether there are any.
func (s span[N]) meet(other span[N]) (span[N], bool) {
	both := span[N]{max(s.first, other.first), min(s.last, other.last)}
	if both.last < both.first {
		return span[N]{}, false
	}
	return both, true
}

// liesIn says whether there are numbers in the span, all of them in the other one.
// It compares and never counts, so that no ends of int are too far apart for it.
func (s span[N]) liesIn(other span[N]) bool {
	return other.first <= s.first && s.first <= s.last && s.last <= other.last
}

func levelsOf(b ProbeBox) span[level] {
	return span[level]{level(b.Low), level(b.High)}
}

func ticksOf(b ProbeBox) span[tick] {
	return span[tick]{tick(b.In), tick(b.Out)}
}

// reachOf is as long as the measure: two of these meet just where the places they begin at
// are less than ProbeApart apart. It is for places that are ok: at others it may wrap round.
func reachOf(at int) span[place] {
	return span[place]{place(at), place(at) + ProbeApart - 1}
}

func sideOk(at int) bool {
	return span[place]{place(at), place(at)}.liesIn(span[place]{0, ProbeMaxSide - 1})
}
