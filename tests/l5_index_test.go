package tests

import (
	"math"
	"math/rand/v2"
	"slices"
	"strings"
	"sync"
	"testing"

	"loop.example/lapprobe/impl"
)

func TestIndexByHand(t *testing.T) {
	list := []impl.ProbeTube{
		tubeWith("a", impl.ProbeBox{X: 2, Y: 1, Low: 1, High: 3, In: 5, Out: 9}, impl.ProbeBox{X: 1, Y: 10, In: 4, Out: 4}, impl.ProbeBox{X: 2, Y: 1, Low: 2, High: 2, In: 2, Out: 20}),
		named("b"),
		tubeWith("c", impl.ProbeBox{X: 1, Y: 2, In: 3, Out: 7}, impl.ProbeBox{X: 2, Y: 1, High: 6, In: 3, Out: 3}, impl.ProbeBox{X: 10}),
	}
	want := impl.ProbeIndex{Cells: []impl.ProbeCell{
		{X: 1, Y: 2, Slots: []impl.ProbeSlot{{In: 3, Out: 7, Name: "c", At: 0}}},
		{X: 1, Y: 10, Slots: []impl.ProbeSlot{{In: 4, Out: 4, Name: "a", At: 1}}},
		{X: 2, Y: 1, Slots: []impl.ProbeSlot{
			{In: 2, Out: 20, Low: 2, High: 2, Name: "a", At: 2},
			{In: 3, Out: 3, High: 6, Name: "c", At: 1},
			{In: 5, Out: 9, Low: 1, High: 3, Name: "a", At: 0},
		}},
		{X: 10, Slots: []impl.ProbeSlot{{Name: "c", At: 2}}},
	}}
	if got := impl.ProbeIndexOf(list); !sameIndex(got, want) {
		t.Errorf("%+v", got)
	}
}

// By In, then by Name, then by At: all else would have them otherwise.
func TestIndexOrderOfSlots(t *testing.T) {
	at := func(in int, out int, low int) impl.ProbeBox {
		return impl.ProbeBox{X: 4, Y: 4, Low: low, High: low, In: in, Out: out}
	}
	list := []impl.ProbeTube{
		tubeWith("-", at(9, 9, 0)),
		tubeWith("0", at(7, 20, 5), at(9, 10, 0)),
		tubeWith("a", at(7, 30, 4), at(7, 25, 3), at(6, 50, 6), at(7, 7, 0)),
		tubeWith("aa", at(7, 8, 1), at(10, 10, 0)),
		tubeWith("b", at(7, 7, 0), at(0, 10000, 6)),
	}
	want := []struct {
		in   int
		name string
		at   int
	}{
		{0, "b", 1}, {6, "a", 2},
		{7, "0", 0}, {7, "a", 0}, {7, "a", 1}, {7, "a", 3}, {7, "aa", 0}, {7, "b", 0},
		{9, "-", 0}, {9, "0", 1}, {10, "aa", 1},
	}
	x := impl.ProbeIndexOf(list)
	if len(x.Cells) != 1 || len(x.Cells[0].Slots) != len(want) {
		t.Fatalf("%+v", x)
	}
	for i, slot := range x.Cells[0].Slots {
		if slot.In != want[i].in || slot.Name != want[i].name || slot.At != want[i].at {
			t.Errorf("slot %d: %+v, not %+v", i, slot, want[i])
		}
	}
	// More places than one digit counts: At is a number, not a text.
	full := tubeWith("a", slices.Repeat([]impl.ProbeBox{at(3, 5, 1)}, impl.ProbeMaxBoxes)...)
	for i, slot := range impl.ProbeIndexOf([]impl.ProbeTube{full}).Cells[0].Slots {
		if slot.At != i {
			t.Errorf("slot %d: %+v", i, slot)
		}
	}
}

// Every cell of the grid, put in backwards.
func TestIndexOrderOfCells(t *testing.T) {
	list := manyTubes(impl.ProbeMaxTubes)
	for at := range 256 {
		tube := &list[at%16]
		tube.Boxes = append(tube.Boxes, impl.ProbeBox{X: 15 - at/16, Y: 15 - at%16})
	}
	x := impl.ProbeIndexOf(list)
	if len(x.Cells) != 256 {
		t.Fatalf("%d cells", len(x.Cells))
	}
	for at, cell := range x.Cells {
		if cell.X != at/16 || cell.Y != at%16 || len(cell.Slots) != 1 {
			t.Errorf("cell %d: %+v", at, cell)
		}
	}
}

func TestIndexByDefinition(t *testing.T) {
	d := dice()
	for range 300 {
		side := 1 + d.IntN(16)
		list := pickSky(d, d.IntN(impl.ProbeMaxTubes+1), d.IntN(13), side, 6)
		if got, want := impl.ProbeIndexOf(list), indexBy(list); !sameIndex(got, want) {
			t.Fatalf("%+v:\n%+v, not\n%+v", list, got, want)
		}
	}
}

func TestIndexOfFewAndMany(t *testing.T) {
	for _, list := range [][]impl.ProbeTube{nil, {}, sky("a"), manyTubes(impl.ProbeMaxTubes)} {
		if got := impl.ProbeIndexOf(list); len(got.Cells) != 0 {
			t.Errorf("without boxes: %+v", got)
		}
	}
	d := dice()
	for _, side := range []int{1, 3, 16} {
		list := fullSky(d, side)
		got := impl.ProbeIndexOf(list)
		count := 0
		for _, cell := range got.Cells {
			count += len(cell.Slots)
		}
		if count != 24*40 || !sameIndex(got, indexBy(list)) {
			t.Errorf("ProbeMaxTubes full tubes in %d x %d cells: %d slots", side, side, count)
		}
	}
}

// fullSky is as many tubes as may be, with as many boxes as may be.
func fullSky(d *rand.Rand, side int) []impl.ProbeTube {
	list := manyTubes(impl.ProbeMaxTubes)
	for i := range list {
		list[i] = pickTube(d, list[i].Name, impl.ProbeMaxBoxes, side, impl.ProbeMaxTick)
		for j := range list[i].Boxes {
			b := &list[i].Boxes[j]
			b.Out = min(b.In+60, impl.ProbeMaxTick)
		}
	}
	return list
}

func TestIndexOfWrongSkies(t *testing.T) {
	for _, list := range wrongSkies() {
		if got := impl.ProbeIndexOf(list); len(got.Cells) != 0 {
			t.Errorf("%+v: %+v", list, got)
		}
	}
}

// askedOf is tubes to ask for: those of the list, one for each name with other boxes, and
// ones whose names stand ahead of, between and behind those of the list.
func askedOf(d *rand.Rand, list []impl.ProbeTube, boxes int, side int, ticks int) []impl.ProbeTube {
	asked := append(slices.Clone(list), named("q"))
	for _, name := range []string{"0", "ac0", "zz"} {
		asked = append(asked, pickTube(d, name, boxes, side, ticks))
	}
	for _, tube := range list {
		asked = append(asked, pickTube(d, tube.Name, boxes, side, ticks))
	}
	return asked
}

// P6: ProbeAsk of ProbeIndexOf tells what ProbeWith tells.
func TestAskIsWith(t *testing.T) {
	d := dice()
	clashes, none := 0, 0
	for range 250 {
		side, ticks := 1+d.IntN(16), 1+d.IntN(20)
		list := pickSky(d, d.IntN(13), 6, side, ticks)
		x := impl.ProbeIndexOf(list)
		for _, tube := range askedOf(d, list, 5, side, ticks) {
			want := impl.ProbeWith(list, tube)
			if got := impl.ProbeAsk(x, tube); !slices.Equal(got, want) {
				t.Fatalf("%+v in %+v:\n%+v, not\n%+v", tube, list, got, want)
			}
			clashes += len(want)
			if len(want) == 0 {
				none++
			}
		}
	}
	if clashes < 5000 || none < 200 {
		t.Errorf("%d clashes, %d times none: the tubes are badly picked", clashes, none)
	}
}

// P6, of boxes at the sides alone, where cells around them are beyond the grid.
func TestAskIsWithAtTheSides(t *testing.T) {
	d := dice()
	ends := []int{0, 1, 14, 15}
	for range 100 {
		list := append(pickSky(d, 8, 4, 16, 8), pickTube(d, "me", 4, 16, 8))
		for _, tube := range list {
			for j := range tube.Boxes {
				tube.Boxes[j].X, tube.Boxes[j].Y = ends[d.IntN(4)], ends[d.IntN(4)]
			}
		}
		x := impl.ProbeIndexOf(list)
		for _, tube := range list {
			if got, want := impl.ProbeAsk(x, tube), impl.ProbeWith(list, tube); !slices.Equal(got, want) {
				t.Fatalf("%+v in %+v:\n%+v, not\n%+v", tube, list, got, want)
			}
		}
	}
}

// P6, in each cell and each one around it: a tube is asked for from everywhere.
func TestAskIsWithInEveryCell(t *testing.T) {
	for _, at := range [][2]int{{0, 0}, {15, 15}, {0, 15}, {15, 0}, {7, 8}, {1, 14}} {
		list := []impl.ProbeTube{tubeWith("b", impl.ProbeBox{X: at[0], Y: at[1], High: 6, In: 2, Out: 4})}
		x := impl.ProbeIndexOf(list)
		for cell := range 256 {
			tube := tubeWith("a", impl.ProbeBox{X: cell / 16, Y: cell % 16, High: 6, In: 1, Out: 3})
			if got, want := impl.ProbeAsk(x, tube), impl.ProbeWith(list, tube); !slices.Equal(got, want) {
				t.Errorf("%v from %+v: %+v, not %+v", at, tube, got, want)
			}
		}
	}
}

func TestAskIsWithOfFullTubes(t *testing.T) {
	d := dice()
	for _, side := range []int{1, 4, 16} {
		list := fullSky(d, side)
		x := impl.ProbeIndexOf(list)
		clashes := 0
		for _, tube := range append(slices.Clone(list), fullSky(d, side)[3], pickTube(d, "me", impl.ProbeMaxBoxes, side, impl.ProbeMaxTick)) {
			want := impl.ProbeWith(list, tube)
			if got := impl.ProbeAsk(x, tube); !slices.Equal(got, want) {
				t.Errorf("%s in %d x %d cells: %+v, not %+v", tube.Name, side, side, got, want)
			}
			clashes += len(want)
		}
		if clashes < 50 {
			t.Errorf("%d clashes in %d x %d cells: the tubes are badly picked", clashes, side, side)
		}
	}
}

func TestAskIsWithOfFew(t *testing.T) {
	box := impl.ProbeBox{X: 3, Y: 3, High: 6, Out: 10000}
	for _, list := range [][]impl.ProbeTube{nil, {}, sky("a"), sky("a", "b"), manyTubes(impl.ProbeMaxTubes), {tubeWith("a", box)}, {tubeWith("b", box)}} {
		x := impl.ProbeIndexOf(list)
		for _, tube := range []impl.ProbeTube{named("a"), tubeWith("a", box), tubeWith("a", box, box)} {
			if got, want := impl.ProbeAsk(x, tube), impl.ProbeWith(list, tube); !slices.Equal(got, want) {
				t.Errorf("%+v in %+v: %+v, not %+v", tube, list, got, want)
			}
		}
	}
}

// P2, as the index tells it: nobody is missed, nobody is told who is not, the moment told
// is the first, all of it by the definition, from tick to tick.
func TestAskByDefinition(t *testing.T) {
	d := dice()
	told, untold := 0, 0
	for range 40 {
		list := pickSky(d, 5, 4, 7, 12)
		x := impl.ProbeIndexOf(list)
		for _, tube := range askedOf(d, list, 4, 7, 12) {
			var want []impl.ProbeClash
			for _, other := range list {
				if clash, near := firstMeet(tube, other); near && other.Name != tube.Name {
					want = append(want, clash)
					told++
				} else {
					untold++
				}
			}
			if got := impl.ProbeAsk(x, tube); !slices.Equal(got, want) {
				t.Fatalf("%+v in %+v:\n%+v, not\n%+v", tube, list, got, want)
			}
		}
	}
	if told < 500 || untold < 500 {
		t.Errorf("%d told, %d not: the tubes are badly picked", told, untold)
	}
}

// The least tick, then the least I, then the least J, in whichever cells and order the slots are.
func TestAskTheFirstOfSeveral(t *testing.T) {
	at := func(x int, in int, out int) impl.ProbeBox {
		return impl.ProbeBox{X: x, Y: 5, High: 1, In: in, Out: out}
	}
	for i, c := range []struct {
		a, b []impl.ProbeBox
		want impl.ProbeClash
	}{
		{[]impl.ProbeBox{at(1, 4, 9), at(1, 4, 9)}, []impl.ProbeBox{at(1, 4, 9), at(1, 4, 9), at(1, 4, 9)}, meetsAt(4, 0, 0)},
		// In the cells around, the greatest J stands first.
		{[]impl.ProbeBox{at(3, 4, 9)}, []impl.ProbeBox{at(4, 4, 9), at(3, 4, 9), at(2, 4, 9)}, meetsAt(4, 0, 0)},
		{[]impl.ProbeBox{at(3, 4, 9)}, []impl.ProbeBox{at(2, 4, 9), at(3, 4, 9), at(4, 4, 9)}, meetsAt(4, 0, 0)},
		// In one cell, the greater J begins first, but not ahead of the box that asks.
		{[]impl.ProbeBox{at(3, 4, 9)}, []impl.ProbeBox{at(3, 3, 9), at(3, 1, 9), at(3, 0, 9)}, meetsAt(4, 0, 0)},
		{[]impl.ProbeBox{at(3, 4, 9)}, []impl.ProbeBox{at(3, 3, 3), at(3, 2, 9), at(3, 0, 9)}, meetsAt(4, 0, 1)},
		// A lesser J stands with a greater I: the least I wins.
		{[]impl.ProbeBox{at(1, 4, 9), at(6, 4, 9)}, []impl.ProbeBox{at(6, 4, 9), at(1, 4, 9)}, meetsAt(4, 0, 1)},
		// First in the lists, later in ticks.
		{[]impl.ProbeBox{at(1, 8, 9), at(6, 3, 9)}, []impl.ProbeBox{at(1, 8, 9), at(6, 3, 9)}, meetsAt(3, 1, 1)},
		{[]impl.ProbeBox{at(1, 3, 9)}, []impl.ProbeBox{at(1, 8, 9), at(2, 5, 9), at(0, 4, 9), at(1, 6, 9)}, meetsAt(4, 0, 2)},
	} {
		a, b := tubeWith("a", c.a...), tubeWith("b", c.b...)
		x := impl.ProbeIndexOf([]impl.ProbeTube{b})
		if got := impl.ProbeAsk(x, a); !slices.Equal(got, []impl.ProbeClash{c.want}) {
			t.Errorf("case %d: %+v, not %+v", i, got, c.want)
		}
		for _, cell := range x.Cells {
			slices.Reverse(cell.Slots)
		}
		slices.Reverse(x.Cells)
		if got := impl.ProbeAsk(x, a); !slices.Equal(got, []impl.ProbeClash{c.want}) {
			t.Errorf("case %d, the index turned round: %+v, not %+v", i, got, c.want)
		}
	}
}

// scatter is the same slots in another order: cells come in any order, and many times.
func scatter(d *rand.Rand, x impl.ProbeIndex) impl.ProbeIndex {
	var y impl.ProbeIndex
	for _, cell := range x.Cells {
		for _, at := range d.Perm(len(cell.Slots)) {
			if last := len(y.Cells) - 1; at%2 == 0 && last >= 0 && y.Cells[last].X == cell.X && y.Cells[last].Y == cell.Y {
				y.Cells[last].Slots = append(y.Cells[last].Slots, cell.Slots[at])
				continue
			}
			y.Cells = append(y.Cells, impl.ProbeCell{X: cell.X, Y: cell.Y, Slots: []impl.ProbeSlot{cell.Slots[at]}})
		}
		y.Cells = append(y.Cells, impl.ProbeCell{X: cell.X, Y: cell.Y})
	}
	d.Shuffle(len(y.Cells), func(i int, j int) { y.Cells[i], y.Cells[j] = y.Cells[j], y.Cells[i] })
	return y
}

func TestAskInAnyOrder(t *testing.T) {
	d := dice()
	for range 100 {
		list := pickSky(d, d.IntN(10), 8, 4, 12)
		x := scatter(d, impl.ProbeIndexOf(list))
		twice := impl.ProbeIndex{Cells: slices.Concat(x.Cells, scatter(d, x).Cells)}
		for _, tube := range askedOf(d, list, 5, 4, 12) {
			want := impl.ProbeWith(list, tube)
			if got := impl.ProbeAsk(x, tube); !slices.Equal(got, want) {
				t.Fatalf("%+v in %+v:\n%+v, not\n%+v", tube, x, got, want)
			}
			if got := impl.ProbeAsk(twice, tube); !slices.Equal(got, want) {
				t.Fatalf("%+v, each slot twice, in %+v:\n%+v, not\n%+v", tube, twice, got, want)
			}
		}
	}
}

// pickIndex is an index that no tubes have: anything may stand anywhere in it.
func pickIndex(d *rand.Rand) impl.ProbeIndex {
	sides := []int{math.MinInt, -1, 0, 0, 1, 1, 2, 2, 3, 3, 3, 4, 15, 16, math.MaxInt}
	levels := []int{-1, 0, 0, 1, 2, 2, 5, 6, 6, 7}
	ticks := []int{-1, 0, 3, 4, 5, 9, 10000, 10001}
	names := []string{"a", "b", "b", "c", "me", "", "B", "a b", "\xff", strings.Repeat("b", 9)}
	places := []int{math.MinInt, -1, 0, 1, 1, 39, 40, math.MaxInt}
	var x impl.ProbeIndex
	for range d.IntN(16) {
		cell := impl.ProbeCell{X: sides[d.IntN(len(sides))], Y: sides[d.IntN(len(sides))]}
		for range d.IntN(10) {
			cell.Slots = append(cell.Slots, impl.ProbeSlot{
				In: ticks[d.IntN(len(ticks))], Out: ticks[d.IntN(len(ticks))],
				Low: levels[d.IntN(len(levels))], High: levels[d.IntN(len(levels))],
				Name: names[d.IntN(len(names))], At: places[d.IntN(len(places))],
			})
		}
		x.Cells = append(x.Cells, cell)
	}
	return x
}

func TestAskOfAnyIndex(t *testing.T) {
	d := dice()
	clashes := 0
	for range 2000 {
		x := pickIndex(d)
		tube := pickTube(d, []string{"me", "b", "0"}[d.IntN(3)], d.IntN(8), 4, 12)
		want := askBy(x, tube)
		if got := impl.ProbeAsk(x, tube); !slices.Equal(got, want) {
			t.Fatalf("%+v in %+v:\n%+v, not\n%+v", tube, x, got, want)
		}
		clashes += len(want)
	}
	if clashes < 500 {
		t.Errorf("%d clashes: the indexes are badly picked", clashes)
	}
}

// oneSlot is an index of a single box.
func oneSlot(b impl.ProbeBox, name string, at int) impl.ProbeIndex {
	slot := impl.ProbeSlot{In: b.In, Out: b.Out, Low: b.Low, High: b.High, Name: name, At: at}
	return impl.ProbeIndex{Cells: []impl.ProbeCell{{X: b.X, Y: b.Y, Slots: []impl.ProbeSlot{slot}}}}
}

func TestAskOfWrongSlots(t *testing.T) {
	var grid []impl.ProbeBox
	for _, x := range []int{0, 3, 15} {
		for _, y := range []int{0, 3, 15} {
			grid = append(grid, impl.ProbeBox{X: x, Y: y, High: 6, Out: 10000})
		}
	}
	tube := tubeWith("me", grid...)
	wrong := append(badBoxes(),
		impl.ProbeBox{X: -1, Y: 0, High: 6, Out: 10000}, impl.ProbeBox{X: 0, Y: -1, High: 6, Out: 10000},
		impl.ProbeBox{X: 16, Y: 15, High: 6, Out: 10000}, impl.ProbeBox{X: 15, Y: 16, High: 6, Out: 10000})
	good := impl.ProbeBox{X: 3, Y: 4, Low: 2, High: 2, In: 7, Out: 8}
	for _, b := range wrong {
		x := oneSlot(b, "b", 0)
		if got := impl.ProbeAsk(x, tube); len(got) != 0 {
			t.Errorf("%+v: %+v", b, got)
		}
		// The others of its name are told, for all that.
		x.Cells = append(x.Cells, oneSlot(good, "b", 5).Cells...)
		if got := impl.ProbeAsk(x, tube); !slices.Equal(got, []impl.ProbeClash{{A: "me", B: "b", Tick: 7, I: 4, J: 5}}) {
			t.Errorf("%+v and a good one: %+v", b, got)
		}
	}
}

func TestAskOfOddNamesAndPlaces(t *testing.T) {
	box := impl.ProbeBox{X: 3, Y: 3, High: 6, In: 2, Out: 9}
	tube := tubeWith("me", box)
	for _, at := range []int{math.MinInt, -1, 0, 40, math.MaxInt} {
		for _, name := range []string{"", "b", "B", "a b", "\x00", "\xff\xfe", "m", "mee", "me ", strings.Repeat("x", 1000)} {
			want := []impl.ProbeClash{{A: "me", B: name, Tick: 2, J: at}}
			if got := impl.ProbeAsk(oneSlot(box, name, at), tube); !slices.Equal(got, want) {
				t.Errorf("%q at %d: %+v", name, at, got)
			}
		}
	}
	// One name in many cells, with the same place more than once: the least At of all, below 0, too.
	x := impl.ProbeIndex{Cells: slices.Concat(
		oneSlot(box, "b", 0).Cells, oneSlot(impl.ProbeBox{X: 4, Y: 2, In: 2, Out: 2}, "b", -3).Cells,
		oneSlot(box, "b", math.MaxInt).Cells, oneSlot(impl.ProbeBox{X: 2, Y: 4, In: 1, Out: 2}, "b", -3).Cells,
		oneSlot(impl.ProbeBox{X: 3, Y: 3, In: 3, Out: 4}, "b", math.MinInt).Cells)}
	if got := impl.ProbeAsk(x, tube); !slices.Equal(got, []impl.ProbeClash{{A: "me", B: "b", Tick: 2, J: -3}}) {
		t.Errorf("one name in many cells: %+v", got)
	}
	// Names ascend byte by byte, and the beginning of a longer one comes first.
	want := []string{"", "\x00", "-", "0", "B", "a", "aa", "b", "\xc3\xa4", "\xff"}
	x = impl.ProbeIndex{}
	for i := range want {
		x.Cells = append(x.Cells, oneSlot(box, want[(i*7+3)%len(want)], i).Cells...)
	}
	var names []string
	for _, clash := range impl.ProbeAsk(x, tube) {
		names = append(names, clash.B)
	}
	if !slices.Equal(names, want) {
		t.Errorf("names in the order %q", names)
	}
}

func TestAskPassesItsOwnNameBy(t *testing.T) {
	box := impl.ProbeBox{X: 3, Y: 3, High: 6, In: 2, Out: 9}
	for _, at := range []int{-1, 0, 7} {
		if got := impl.ProbeAsk(oneSlot(box, "me", at), tubeWith("me", box)); len(got) != 0 {
			t.Errorf("at %d: %+v", at, got)
		}
	}
	x := impl.ProbeIndex{Cells: slices.Concat(oneSlot(box, "me", 0).Cells, oneSlot(box, "z", 1).Cells, oneSlot(box, "a", 2).Cells)}
	want := []impl.ProbeClash{{A: "me", B: "a", Tick: 2, J: 2}, {A: "me", B: "z", Tick: 2, J: 1}}
	if got := impl.ProbeAsk(x, tubeWith("me", box)); !slices.Equal(got, want) {
		t.Errorf("with others around: %+v", got)
	}
}

func TestAskOfNothing(t *testing.T) {
	box := impl.ProbeBox{X: 1, Y: 1, High: 6, Out: 10000}
	full := oneSlot(box, "b", 0)
	empties := []impl.ProbeIndex{{}, {Cells: []impl.ProbeCell{}}, {Cells: []impl.ProbeCell{{X: 1, Y: 1}}}, {Cells: []impl.ProbeCell{{X: 1, Y: 1, Slots: []impl.ProbeSlot{}}, {X: -1}}}}
	for _, x := range empties {
		if got := impl.ProbeAsk(x, tubeWith("a", box)); len(got) != 0 {
			t.Errorf("an empty index: %+v", got)
		}
	}
	if got := impl.ProbeAsk(full, named("a")); len(got) != 0 {
		t.Errorf("without boxes: %+v", got)
	}
	if got := impl.ProbeAsk(full, tubeWith("a", box)); len(got) != 1 {
		t.Errorf("one box: %+v", got)
	}
	for _, wrong := range wrongTubes() {
		for _, x := range append(empties, full) {
			if got := impl.ProbeAsk(x, wrong); len(got) != 0 {
				t.Errorf("%+v: %+v", wrong, got)
			}
		}
	}
}

func cloneIndex(x impl.ProbeIndex) impl.ProbeIndex {
	var kept impl.ProbeIndex
	for _, cell := range x.Cells {
		kept.Cells = append(kept.Cells, impl.ProbeCell{X: cell.X, Y: cell.Y, Slots: slices.Clone(cell.Slots)})
	}
	return kept
}

func spoilSlots(slots []impl.ProbeSlot) {
	for i := range slots {
		slots[i] = impl.ProbeSlot{In: -7, Out: -7, Low: -7, High: -7, Name: "spoilt", At: -7}
	}
}

// holdIndexApart writes over each list of an answer, spare room included, and looks whether
// it shows in another list of it. It says whether what came in is still as it was, too.
func holdIndexApart(t *testing.T, ask func() impl.ProbeIndex, untouched func() bool) {
	t.Helper()
	want := cloneIndex(ask())
	for k := range cap(ask().Cells) {
		x := ask()
		cells := x.Cells[:cap(x.Cells)]
		spoilSlots(cells[k].Slots[:cap(cells[k].Slots)])
		for i, cell := range x.Cells {
			if i != k && !sameCell(cell, want.Cells[i]) {
				t.Fatalf("what is written to cell %d shows in cell %d", k, i)
			}
		}
		if !untouched() {
			t.Fatalf("what is written to cell %d shows in an argument", k)
		}
	}
	x, y := ask(), ask()
	for i := range x.Cells {
		spoilSlots(x.Cells[i].Slots[:cap(x.Cells[i].Slots)])
	}
	clear(x.Cells[:cap(x.Cells)])
	if !sameIndex(y, want) || !untouched() || !sameIndex(ask(), want) {
		t.Fatal("what is written to an answer shows in another one, or in an argument")
	}
}

func TestIndexIsNewMemory(t *testing.T) {
	d := dice()
	for _, list := range [][]impl.ProbeTube{nil, sky("a"), pickSky(d, 8, 9, 3, 12), fullSky(d, 2), wrongSkies()[0]} {
		before := cloneSky(list)
		holdIndexApart(t, func() impl.ProbeIndex { return impl.ProbeIndexOf(list) }, func() bool { return sameSky(list, before) })
	}
}

// Nothing is written into a list, nor behind its end: what is behind is looked at here, too.
func TestIndexWritesNothing(t *testing.T) {
	d := dice()
	room := manyTubes(9)
	for i := range room {
		room[i] = pickTube(d, room[i].Name, 8, 3, 12)
	}
	before := cloneSky(room)
	list := slices.Clone(room)
	for i := range list {
		list[i].Boxes = list[i].Boxes[1:5]
	}
	listBefore := cloneSky(list)
	impl.ProbeIndexOf(list[2:6])
	if !sameSky(room, before) || !sameSky(list, listBefore) {
		t.Error("the tubes, or what is around them, are written to")
	}
}

// A cell stands there twice, and there is room behind its first slots: nothing goes there.
func TestAskWritesNothing(t *testing.T) {
	d := dice()
	room := impl.ProbeIndexOf(pickSky(d, 20, 30, 2, 12))
	before := cloneIndex(room)
	var x impl.ProbeIndex
	for _, cell := range slices.Concat(room.Cells, room.Cells) {
		cell.Slots = cell.Slots[1:4]
		x.Cells = append(x.Cells, cell)
	}
	xBefore := cloneIndex(x)
	own := pickTube(d, "me", 8, 2, 12)
	ownBefore := slices.Clone(own.Boxes)
	if got := impl.ProbeAsk(impl.ProbeIndex{Cells: x.Cells[1:6]}, impl.ProbeTube{Name: "me", Boxes: own.Boxes[1:5]}); len(got) == 0 {
		t.Error("no clashes: the tubes are badly picked")
	}
	if !sameIndex(room, before) || !sameIndex(x, xBefore) {
		t.Error("the index, or what is around it, is written to")
	}
	if !slices.Equal(own.Boxes, ownBefore) {
		t.Error("the tube, or what is around it, is written to")
	}
}

// The same call gives the same answer, many at the same time, too: maps are gone through
// in another order each time.
func TestIndexHangsOnNothingElse(t *testing.T) {
	d := dice()
	list := pickSky(d, impl.ProbeMaxTubes, 20, 8, 30)
	tube := pickTube(d, "me", 10, 8, 30)
	x := impl.ProbeIndexOf(list)
	odd := scatter(d, x)
	clashes := impl.ProbeAsk(x, tube)
	if len(x.Cells) < 40 || len(clashes) < 10 {
		t.Fatalf("%d cells and %d clashes: the tubes are badly picked", len(x.Cells), len(clashes))
	}
	again := func(times int) {
		for range times {
			if !sameIndex(impl.ProbeIndexOf(list), x) || !slices.Equal(impl.ProbeAsk(x, tube), clashes) || !slices.Equal(impl.ProbeAsk(odd, tube), clashes) {
				t.Error("another answer to the same call")
				return
			}
		}
	}
	again(100)
	var callers sync.WaitGroup
	for range 8 {
		callers.Go(func() { again(10) })
	}
	callers.Wait()
}

func TestAskIsNewMemory(t *testing.T) {
	d := dice()
	x := impl.ProbeIndexOf(pickSky(d, 12, 6, 4, 12))
	tube := pickTube(d, "me", 6, 4, 12)
	first, second := impl.ProbeAsk(x, tube), impl.ProbeAsk(x, tube)
	kept := slices.Clone(second)
	if len(kept) == 0 {
		t.Fatal("no clashes: the tubes are badly picked")
	}
	spoilClashes(first)
	if !slices.Equal(second, kept) || !slices.Equal(impl.ProbeAsk(x, tube), kept) {
		t.Error("what is written to an answer shows in another one")
	}
}
