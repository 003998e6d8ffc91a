package tests

import (
	"slices"
	"testing"

	"loop.example/lapprobe/impl"
)

// holdMeet holds ProbeMeet against the definition, both ways round (P2).
func holdMeet(t *testing.T, a impl.ProbeTube, b impl.ProbeTube) {
	t.Helper()
	want, near := firstMeet(a, b)
	got, ok := impl.ProbeMeet(a, b)
	if got != want || ok != near {
		t.Fatalf("%+v and %+v: %+v %v, not %+v %v", a, b, got, ok, want, near)
	}
	turned, _ := firstMeet(b, a)
	back, ok := impl.ProbeMeet(b, a)
	if back != turned || ok != near {
		t.Fatalf("the other way round, %+v and %+v: %+v %v, not %+v %v", b, a, back, ok, turned, near)
	}
	if back.Tick != got.Tick {
		t.Fatalf("%+v and %+v: at %d, the other way round at %d", a, b, got.Tick, back.Tick)
	}
}

// meetsAt is what ProbeMeet is to answer of tubes named a and b.
func meetsAt(tick int, i int, j int) impl.ProbeClash {
	return impl.ProbeClash{A: "a", B: "b", Tick: tick, I: i, J: j}
}

func TestMeetOfSeveralBoxes(t *testing.T) {
	at := func(x int, in int, out int) impl.ProbeBox {
		return impl.ProbeBox{X: x, Y: 5, High: 1, In: in, Out: out}
	}
	far := at(15, 0, 10000)
	for i, c := range []struct {
		a, b []impl.ProbeBox
		want impl.ProbeClash
	}{
		// All begin at one tick: the least I, then the least J.
		{[]impl.ProbeBox{at(1, 4, 9), at(1, 4, 9)}, []impl.ProbeBox{at(1, 4, 9), at(1, 4, 9)}, meetsAt(4, 0, 0)},
		{[]impl.ProbeBox{far, at(1, 4, 9), at(2, 4, 9)}, []impl.ProbeBox{at(8, 0, 20), at(1, 4, 9), at(2, 4, 9)}, meetsAt(4, 1, 1)},
		// A lesser J stands with a greater I: the least I wins.
		{[]impl.ProbeBox{at(1, 4, 9), at(6, 4, 9)}, []impl.ProbeBox{at(6, 4, 9), at(1, 4, 9)}, meetsAt(4, 0, 1)},
		{[]impl.ProbeBox{far, at(1, 4, 9), at(6, 4, 9)}, []impl.ProbeBox{at(6, 4, 9), at(9, 0, 20), at(11, 0, 9), at(1, 4, 9)}, meetsAt(4, 1, 3)},
		// They begin together by different ends: by the In of one, of the other, of both.
		{[]impl.ProbeBox{at(1, 2, 9), at(6, 7, 9)}, []impl.ProbeBox{at(6, 1, 9), at(1, 7, 9)}, meetsAt(7, 0, 1)},
		{[]impl.ProbeBox{at(6, 7, 9), at(1, 2, 9)}, []impl.ProbeBox{at(1, 7, 9), at(6, 1, 9)}, meetsAt(7, 0, 1)},
		// First in the lists, later in ticks.
		{[]impl.ProbeBox{at(1, 8, 9), at(6, 3, 9)}, []impl.ProbeBox{at(1, 8, 9), at(6, 3, 9)}, meetsAt(3, 1, 1)},
		{[]impl.ProbeBox{at(1, 3, 9)}, []impl.ProbeBox{at(1, 8, 9), at(1, 5, 9), at(1, 4, 9), at(1, 6, 9)}, meetsAt(4, 0, 2)},
		{[]impl.ProbeBox{at(1, 8, 9), at(1, 5, 9), at(1, 4, 9), at(1, 6, 9)}, []impl.ProbeBox{at(1, 3, 9)}, meetsAt(4, 2, 0)},
		{[]impl.ProbeBox{at(1, 9, 9), at(1, 8, 9), at(1, 7, 9)}, []impl.ProbeBox{at(1, 7, 9), at(2, 7, 9)}, meetsAt(7, 2, 0)},
		// Those who begin first are near to nobody.
		{[]impl.ProbeBox{far, at(1, 6, 9), at(6, 5, 9)}, []impl.ProbeBox{at(10, 0, 20), at(6, 5, 9), at(1, 6, 9)}, meetsAt(5, 2, 1)},
		{[]impl.ProbeBox{at(1, 0, 2), at(1, 6, 9)}, []impl.ProbeBox{at(1, 3, 5), at(1, 7, 7), at(1, 6, 6)}, meetsAt(6, 1, 2)},
	} {
		a, b := tubeWith("a", c.a...), tubeWith("b", c.b...)
		if got, near := impl.ProbeMeet(a, b); !near || got != c.want {
			t.Errorf("case %d: %+v %v, not %+v", i, got, near, c.want)
		}
		holdMeet(t, a, b)
	}
}

func TestMeetAtTheEndsOfTicks(t *testing.T) {
	always := impl.ProbeBox{X: 3, Y: 3, High: 6, Out: 10000}
	first := impl.ProbeBox{X: 4, Y: 4, Low: 6, High: 6}
	last := impl.ProbeBox{X: 2, Y: 4, In: 10000, Out: 10000}
	for _, c := range []struct {
		a, b []impl.ProbeBox
		want impl.ProbeClash
	}{
		{[]impl.ProbeBox{always}, []impl.ProbeBox{always}, meetsAt(0, 0, 0)},
		{[]impl.ProbeBox{always}, []impl.ProbeBox{last, first}, meetsAt(0, 0, 1)},
		{[]impl.ProbeBox{last, first}, []impl.ProbeBox{always}, meetsAt(0, 1, 0)},
		{[]impl.ProbeBox{always}, []impl.ProbeBox{last}, meetsAt(10000, 0, 0)},
		{[]impl.ProbeBox{first, last}, []impl.ProbeBox{last}, meetsAt(10000, 1, 0)},
		{[]impl.ProbeBox{last}, []impl.ProbeBox{last, last}, meetsAt(10000, 0, 0)},
	} {
		a, b := tubeWith("a", c.a...), tubeWith("b", c.b...)
		if got, near := impl.ProbeMeet(a, b); !near || got != c.want {
			t.Errorf("%+v and %+v: %+v %v", a, b, got, near)
		}
		holdMeet(t, a, b)
	}
	if got, near := impl.ProbeMeet(tubeWith("a", first), tubeWith("b", last)); near || got != (impl.ProbeClash{}) {
		t.Errorf("the first tick and the last one: %+v %v", got, near)
	}
}

func TestMeetLooksAtNoNames(t *testing.T) {
	box := impl.ProbeBox{X: 1, Y: 2, Low: 3, High: 4, In: 50, Out: 60}
	early := impl.ProbeBox{X: 9, Y: 2, Low: 3, High: 4, In: 40, Out: 41}
	self := tubeWith("me", box, early)
	if got, near := impl.ProbeMeet(self, self); !near || got != (impl.ProbeClash{A: "me", B: "me", Tick: 40, I: 1, J: 1}) {
		t.Errorf("with itself: %+v %v", got, near)
	}
	if got, near := impl.ProbeMeet(self, tubeWith("me", box)); !near || got != (impl.ProbeClash{A: "me", B: "me", Tick: 50}) {
		t.Errorf("with another one of its name: %+v %v", got, near)
	}
	if got, near := impl.ProbeMeet(named("me"), named("me")); near || got != (impl.ProbeClash{}) {
		t.Errorf("with itself, without boxes: %+v %v", got, near)
	}
	if got, _ := impl.ProbeMeet(tubeWith("z", box), tubeWith("a-0", box)); got.A != "z" || got.B != "a-0" {
		t.Errorf("names of a greater and a lesser: %+v", got)
	}
}

func TestMeetWithoutBoxes(t *testing.T) {
	some := tubeWith("a", impl.ProbeBox{High: 6, Out: 10000}, impl.ProbeBox{In: 10000, Out: 10000})
	none := impl.ProbeTube{Name: "b", Boxes: []impl.ProbeBox{}}
	for _, c := range [][2]impl.ProbeTube{{some, none}, {none, some}, {some, named("b")}, {named("b"), some}, {none, none}, {none, named("c")}} {
		if got, near := impl.ProbeMeet(c[0], c[1]); near || got != (impl.ProbeClash{}) {
			t.Errorf("%+v and %+v: %+v %v", c[0], c[1], got, near)
		}
	}
}

// The good boxes of a tube that is not ok would be near: it is never, for all that.
func TestMeetOfWrongTubes(t *testing.T) {
	good := tubeWith("a", impl.ProbeBox{X: 1, Y: 1, High: 6, Out: 10000}, impl.ProbeBox{X: 3, Y: 3, High: 6, Out: 10000})
	for _, wrong := range wrongTubes() {
		for _, c := range [][2]impl.ProbeTube{{wrong, good}, {good, wrong}, {wrong, wrong}, {wrong, named("a")}, {named("a"), wrong}} {
			if got, near := impl.ProbeMeet(c[0], c[1]); near || got != (impl.ProbeClash{}) {
				t.Errorf("%+v and %+v: %+v %v", c[0], c[1], got, near)
			}
		}
	}
}

func TestMeetByDefinition(t *testing.T) {
	d := dice()
	met := 0
	for range 400 {
		a := pickTube(d, "a", d.IntN(6), 6, 12)
		b := pickTube(d, "b", d.IntN(6), 6, 12)
		holdMeet(t, a, b)
		if _, near := impl.ProbeMeet(a, b); near {
			met++
		}
	}
	if met < 50 || met > 350 {
		t.Errorf("%d of 400 meet: the tubes are badly picked", met)
	}
	for range 60 {
		holdMeet(t, pickTube(d, "a", 1+d.IntN(5), 5, impl.ProbeMaxTick), pickTube(d, "a", 1+d.IntN(5), 5, impl.ProbeMaxTick))
	}
}

// Short boxes in few cells: there are many pairs at one tick, and seldom one at the first of all.
func TestMeetByDefinitionOfManyShortBoxes(t *testing.T) {
	d := dice()
	for range 150 {
		var tubes [2]impl.ProbeTube
		for k := range tubes {
			tubes[k] = pickTube(d, string([]byte{byte('a' + k)}), 1+d.IntN(10), 7, 6)
			for i := range tubes[k].Boxes {
				b := &tubes[k].Boxes[i]
				b.High = b.Low
				b.Out = min(b.In+d.IntN(2), 6)
			}
		}
		holdMeet(t, tubes[0], tubes[1])
	}
}

func TestMeetOfFullTubes(t *testing.T) {
	d := dice()
	for range 6 {
		a := pickTube(d, "a", impl.ProbeMaxBoxes, 16, impl.ProbeMaxTick)
		b := pickTube(d, "b", impl.ProbeMaxBoxes, 16, impl.ProbeMaxTick)
		holdMeet(t, a, b)
	}
	// Only the last two boxes of all are near, and only at the last tick.
	a := tubeWith("a", slices.Repeat([]impl.ProbeBox{{X: 1, Out: 10000}}, 39)...)
	b := tubeWith("b", slices.Repeat([]impl.ProbeBox{{X: 6, Out: 10000}}, 39)...)
	a.Boxes = append(a.Boxes, impl.ProbeBox{X: 12, Out: 10000})
	b.Boxes = append(b.Boxes, impl.ProbeBox{X: 13, In: 10000, Out: 10000})
	if got, near := impl.ProbeMeet(a, b); !near || got != meetsAt(10000, 39, 39) {
		t.Errorf("%+v %v", got, near)
	}
	a.Boxes = append(a.Boxes, impl.ProbeBox{X: 12})
	if got, near := impl.ProbeMeet(a, b); near || got != (impl.ProbeClash{}) {
		t.Errorf("with one box too many: %+v %v", got, near)
	}
}

func TestMeetWritesNothing(t *testing.T) {
	d := dice()
	room, other := pickTube(d, "a", 12, 4, 14).Boxes, pickTube(d, "b", 12, 4, 14).Boxes
	before, otherBefore := slices.Clone(room), slices.Clone(other)
	a, b := impl.ProbeTube{Name: "a", Boxes: room[2:7]}, impl.ProbeTube{Name: "b", Boxes: other[2:7]}
	first, _ := impl.ProbeMeet(a, b)
	second, _ := impl.ProbeMeet(a, b)
	if first != second {
		t.Errorf("%+v, then %+v", first, second)
	}
	if !slices.Equal(room, before) || !slices.Equal(other, otherBefore) {
		t.Error("boxes of an argument, or those around them, are written to")
	}
}
