package tests

import (
	"math"
	"math/rand/v2"
	"slices"

	"loop.example/lapprobe/impl"
)

// What the document says, written down as it says it and not as the program does it.

func boxOk(b impl.ProbeBox) bool {
	return 0 <= b.X && b.X <= 15 && 0 <= b.Y && b.Y <= 15 &&
		0 <= b.Low && b.Low <= b.High && b.High <= 6 &&
		0 <= b.In && b.In <= b.Out && b.Out <= 10000
}

func lessThanTwoApart(p int, q int) bool {
	return p == q || p == q+1 || p+1 == q
}

func levelInCommon(a impl.ProbeBox, b impl.ProbeBox) bool {
	for level := 0; level <= 6; level++ {
		if a.Low <= level && level <= a.High && b.Low <= level && level <= b.High {
			return true
		}
	}
	return false
}

// nearAt says whether two boxes that are ok come too near at a tick.
func nearAt(a impl.ProbeBox, b impl.ProbeBox, tick int) bool {
	return a.In <= tick && tick <= a.Out && b.In <= tick && tick <= b.Out &&
		lessThanTwoApart(a.X, b.X) && lessThanTwoApart(a.Y, b.Y) && levelInCommon(a, b)
}

// firstNear is the first tick of all at which two boxes come too near.
func firstNear(a impl.ProbeBox, b impl.ProbeBox) (int, bool) {
	if !boxOk(a) || !boxOk(b) {
		return 0, false
	}
	for tick := 0; tick <= 10000; tick++ {
		if nearAt(a, b, tick) {
			return tick, true
		}
	}
	return 0, false
}

// tubesNearAt says whether any boxes of two tubes come too near at a tick, by the definition.
func tubesNearAt(a impl.ProbeTube, b impl.ProbeTube, tick int) bool {
	for _, p := range a.Boxes {
		for _, q := range b.Boxes {
			if nearAt(p, q, tick) {
				return true
			}
		}
	}
	return false
}

// firstMeet goes from tick to tick, and at each one over all pairs of boxes of two tubes that are ok.
func firstMeet(a impl.ProbeTube, b impl.ProbeTube) (impl.ProbeClash, bool) {
	for tick := 0; tick <= 10000; tick++ {
		for i, p := range a.Boxes {
			for j, q := range b.Boxes {
				if nearAt(p, q, tick) {
					return impl.ProbeClash{A: a.Name, B: b.Name, Tick: tick, I: i, J: j}, true
				}
			}
		}
	}
	return impl.ProbeClash{}, false
}

func boxWithin(a impl.ProbeBox, b impl.ProbeBox) bool {
	return a.X == b.X && a.Y == b.Y &&
		b.Low <= a.Low && a.Low <= b.High && b.Low <= a.High && a.High <= b.High &&
		b.In <= a.In && a.In <= b.Out && b.In <= a.Out && a.Out <= b.Out
}

// tubeWithin says of two tubes that are ok whether each box of a is within one of b.
func tubeWithin(a impl.ProbeTube, b impl.ProbeTube) bool {
	for _, p := range a.Boxes {
		if !slices.ContainsFunc(b.Boxes, func(q impl.ProbeBox) bool { return boxWithin(p, q) }) {
			return false
		}
	}
	return true
}

// sameTube takes the empty list and the nil list for the same.
func sameTube(a impl.ProbeTube, b impl.ProbeTube) bool {
	return a.Name == b.Name && slices.Equal(a.Boxes, b.Boxes)
}

func isNothing(t impl.ProbeTube) bool {
	return t.Name == "" && len(t.Boxes) == 0
}

// dice are the same ones at each run.
func dice() *rand.Rand {
	return rand.New(rand.NewPCG(20, 26))
}

func pickSpan(d *rand.Rand, least int, most int) (int, int) {
	p := least + d.IntN(most-least+1)
	q := least + d.IntN(most-least+1)
	return min(p, q), max(p, q)
}

// pickBox is an ok box in few cells and ticks, so that two of them often meet.
func pickBox(d *rand.Rand, side int, ticks int) impl.ProbeBox {
	low, high := pickSpan(d, 0, 6)
	in, out := pickSpan(d, 0, ticks)
	return impl.ProbeBox{X: d.IntN(side), Y: d.IntN(side), Low: low, High: high, In: in, Out: out}
}

func pickTube(d *rand.Rand, name string, boxes int, side int, ticks int) impl.ProbeTube {
	t := impl.ProbeTube{Name: name}
	for range boxes {
		t.Boxes = append(t.Boxes, pickBox(d, side, ticks))
	}
	return t
}

// badBoxes are boxes that are not ok, each by one field or by two that are out of order.
func badBoxes() []impl.ProbeBox {
	good := impl.ProbeBox{X: 3, Y: 3, Low: 1, High: 2, In: 5, Out: 9}
	var bad []impl.ProbeBox
	for _, wrong := range []int{math.MinInt, math.MinInt + 1, -1, math.MaxInt - 1, math.MaxInt} {
		for field := range 6 {
			bad = append(bad, withField(good, field, wrong))
		}
	}
	return append(bad,
		withField(good, 0, 16), withField(good, 1, 16),
		withField(good, 3, 7), withField(good, 5, 10001),
		withField(good, 2, 3), withField(good, 3, 0),
		withField(good, 4, 10), withField(good, 5, 4),
		impl.ProbeBox{X: 3, Y: 3, Low: 7, High: 7, In: 5, Out: 9},
		impl.ProbeBox{X: 3, Y: 3, Low: 1, High: 2, In: 10001, Out: 10001},
		impl.ProbeBox{X: math.MinInt, Y: math.MaxInt, Low: math.MinInt, High: math.MaxInt, In: math.MinInt, Out: math.MaxInt},
		impl.ProbeBox{X: math.MaxInt, Y: math.MinInt, Low: math.MaxInt, High: math.MinInt, In: math.MaxInt, Out: math.MinInt},
	)
}

func withField(b impl.ProbeBox, field int, value int) impl.ProbeBox {
	*[]*int{&b.X, &b.Y, &b.Low, &b.High, &b.In, &b.Out}[field] = value
	return b
}
