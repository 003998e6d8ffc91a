package tests

import (
	"math/rand/v2"
	"slices"
	"strings"
	"sync"
	"testing"

	"loop.example/lapprobe/impl"
)

func put(tube impl.ProbeTube) impl.ProbeEvent {
	return impl.ProbeEvent{Tube: tube}
}

func drop(name string) impl.ProbeEvent {
	return impl.ProbeEvent{Drop: true, Tube: named(name)}
}

func holdHappen(t *testing.T, list []impl.ProbeTube, e impl.ProbeEvent, want []impl.ProbeTube, wantCode int) {
	t.Helper()
	if got, code := impl.ProbeHappen(list, e); code != wantCode || !sameSky(got, want) {
		t.Errorf("%+v to %+v: %+v with %d, not %+v with %d", e, list, got, code, want, wantCode)
	}
}

func TestHappenInOrder(t *testing.T) {
	box := impl.ProbeBox{X: 4, Y: 5, Low: 1, High: 2, In: 3, Out: 9}
	other := impl.ProbeBox{X: 7, In: 1, Out: 2}
	b, d := tubeWith("b", box), tubeWith("d", box, other)
	list := []impl.ProbeTube{b, d}
	for _, c := range []struct {
		e    impl.ProbeEvent
		want []impl.ProbeTube
	}{
		{put(tubeWith("a", other)), []impl.ProbeTube{tubeWith("a", other), b, d}},
		{put(tubeWith("ba", other)), []impl.ProbeTube{b, tubeWith("ba", other), d}},
		{put(tubeWith("c", other, box)), []impl.ProbeTube{b, tubeWith("c", other, box), d}},
		{put(tubeWith("d-", other)), []impl.ProbeTube{b, d, tubeWith("d-", other)}},
		{put(named("z")), []impl.ProbeTube{b, d, named("z")}},
		{put(named("-")), []impl.ProbeTube{named("-"), b, d}},
		{put(tubeWith("b", other, other)), []impl.ProbeTube{tubeWith("b", other, other), d}},
		{put(tubeWith("d", other)), []impl.ProbeTube{b, tubeWith("d", other)}},
		{put(named("d")), []impl.ProbeTube{b, named("d")}},
		{put(b), list},
		{drop("b"), []impl.ProbeTube{d}},
		{drop("d"), []impl.ProbeTube{b}},
	} {
		holdHappen(t, list, c.e, c.want, 0)
	}
	three := []impl.ProbeTube{b, named("c"), d}
	holdHappen(t, three, drop("b"), []impl.ProbeTube{named("c"), d}, 0)
	holdHappen(t, three, drop("c"), list, 0)
	holdHappen(t, three, drop("d"), []impl.ProbeTube{b, named("c")}, 0)
	for _, none := range [][]impl.ProbeTube{nil, {}} {
		holdHappen(t, none, put(b), []impl.ProbeTube{b}, 0)
	}
	holdHappen(t, []impl.ProbeTube{b}, drop("b"), nil, 0)
}

// Tubes that are not ok together: 1 and nothing, whatever the event is.
func TestHappenOnWrongSkies(t *testing.T) {
	events := []impl.ProbeEvent{{}, {Drop: true}, put(named("p")), put(named("new")), drop("p"), drop("q"), drop("new")}
	for _, wrong := range wrongTubes() {
		events = append(events, put(wrong), impl.ProbeEvent{Drop: true, Tube: wrong})
	}
	for _, list := range wrongSkies() {
		for _, e := range events {
			holdHappen(t, list, e, nil, 1)
		}
	}
	// One tube too many goes, and those that are left would be ok together: they are not asked.
	holdHappen(t, manyTubes(impl.ProbeMaxTubes+1), drop("aa"), nil, 1)
	holdHappen(t, sky("a", "b", "a"), drop("b"), nil, 1)
}

func TestHappenOfWrongTubes(t *testing.T) {
	box := impl.ProbeBox{X: 1, Y: 1, High: 6, Out: 10000}
	lists := [][]impl.ProbeTube{nil, sky("b"), {tubeWith("a", box), tubeWith("b", box)}, manyTubes(impl.ProbeMaxTubes)}
	for _, wrong := range wrongTubes() {
		for _, list := range lists {
			holdHappen(t, list, put(wrong), list, 2)
		}
	}
	for _, name := range []string{"", "A", "a b", "abcdefghi", "\xff"} {
		for _, list := range lists {
			holdHappen(t, list, put(tubeWith(name, box)), list, 2)
		}
	}
}

// With Drop nothing but the Name is looked at: not the boxes, and not whether the Name is ok.
func TestHappenDropLooksAtNoBoxes(t *testing.T) {
	box := impl.ProbeBox{X: 1, Y: 1, High: 6, Out: 10000}
	list := []impl.ProbeTube{tubeWith("a", box), tubeWith("b", box)}
	for _, wrong := range append(badBoxes(), box) {
		holdHappen(t, list, impl.ProbeEvent{Drop: true, Tube: tubeWith("a", wrong)}, list[1:], 0)
		holdHappen(t, list, impl.ProbeEvent{Drop: true, Tube: tubeWith("c", wrong)}, list, 3)
	}
	many := slices.Repeat([]impl.ProbeBox{box}, 41)
	holdHappen(t, list, impl.ProbeEvent{Drop: true, Tube: tubeWith("b", many...)}, list[:1], 0)
	for _, name := range []string{"", "A", "aa", "b ", "\xff", "-", "c", strings.Repeat("a", 100000)} {
		holdHappen(t, list, drop(name), list, 3)
		holdHappen(t, nil, drop(name), nil, 3)
	}
}

func TestHappenWithAllPlacesTaken(t *testing.T) {
	box := impl.ProbeBox{X: 1, Y: 1, High: 6, Out: 10000}
	list := manyTubes(impl.ProbeMaxTubes)
	for i, name := range []string{"a", "ac0", "zz"} {
		holdHappen(t, list, put(tubeWith(name, box)), list, 4)
		holdHappen(t, list, put(named(name)), list, 4)
		less := manyTubes(impl.ProbeMaxTubes - 1)
		want := slices.Insert(slices.Clone(less), []int{0, 3, 23}[i], tubeWith(name, box))
		holdHappen(t, less, put(tubeWith(name, box)), want, 0)
	}
	for at := range list {
		want := slices.Clone(list)
		want[at].Boxes = []impl.ProbeBox{box}
		holdHappen(t, list, put(want[at]), want, 0)
		holdHappen(t, list, drop(list[at].Name), slices.Delete(slices.Clone(list), at, at+1), 0)
	}
	holdHappen(t, list, drop("ac0"), list, 3)
	holdHappen(t, list, put(tubeWith("ac0", impl.ProbeBox{X: 16})), list, 2)
}

// pickEvent is an event that often happens and now and then is refused.
func pickEvent(d *rand.Rand, names []impl.ProbeTube) impl.ProbeEvent {
	name := names[d.IntN(len(names))].Name
	switch d.IntN(12) {
	case 0:
		return drop("nobody")
	case 1:
		wrong := wrongTubes()
		return put(wrong[d.IntN(len(wrong))])
	case 2:
		return impl.ProbeEvent{Drop: true, Tube: tubeWith(name, impl.ProbeBox{X: -1})}
	case 3, 4:
		return drop(name)
	}
	return put(pickTube(d, name, d.IntN(5), 5, 12))
}

// P7: behind any events ProbeFollow is ProbeIndexOf of what ProbeHappen gives.
func TestFollowBehindAnyEvents(t *testing.T) {
	d := dice()
	var codes [5]int
	replaced, lastOfCell := 0, 0
	for _, many := range []int{2, 6, 40} {
		names := manyTubes(many)
		var list []impl.ProbeTube
		var x impl.ProbeIndex
		for range 500 {
			e := pickEvent(d, names)
			want, wantCode := happenBy(list, e)
			behind, code := impl.ProbeHappen(list, e)
			if code != wantCode || !sameSky(behind, want) || !impl.ProbeSkyOk(behind) {
				t.Fatalf("%+v to %+v: %+v with %d, not %+v with %d", e, list, behind, code, want, wantCode)
			}
			y := impl.ProbeFollow(x, list, e)
			if !sameIndex(y, impl.ProbeIndexOf(behind)) || !sameIndex(y, indexBy(behind)) {
				t.Fatalf("%+v to %+v: %+v", e, list, y)
			}
			codes[code]++
			if code == 0 && !e.Drop && len(behind) == len(list) {
				replaced++
			}
			if code == 0 && e.Drop && len(y.Cells) < len(x.Cells) {
				lastOfCell++
			}
			list, x = behind, y
		}
	}
	if codes[0] < 500 || codes[1] != 0 || codes[2] < 50 || codes[3] < 50 || codes[4] < 20 || replaced < 100 || lastOfCell < 50 {
		t.Errorf("codes %v, %d replaced, %d were the last of a cell: the events are badly picked", codes, replaced, lastOfCell)
	}
}

// A cell goes with the last box in it, and not with one before.
func TestFollowTheLastOfACell(t *testing.T) {
	here := impl.ProbeBox{X: 2, Y: 3, High: 6, In: 5, Out: 9}
	there := impl.ProbeBox{X: 9, Y: 1, High: 1, In: 4, Out: 4}
	list := []impl.ProbeTube{tubeWith("a", here, there), tubeWith("b", here)}
	slot := func(name string) impl.ProbeSlot { return impl.ProbeSlot{In: 5, Out: 9, High: 6, Name: name} }
	other := impl.ProbeCell{X: 9, Y: 1, Slots: []impl.ProbeSlot{{In: 4, Out: 4, High: 1, Name: "a", At: 1}}}
	for _, c := range []struct {
		e    impl.ProbeEvent
		want []impl.ProbeCell
	}{
		{drop("a"), []impl.ProbeCell{{X: 2, Y: 3, Slots: []impl.ProbeSlot{slot("b")}}}},
		{drop("b"), []impl.ProbeCell{{X: 2, Y: 3, Slots: []impl.ProbeSlot{slot("a")}}, other}},
		{put(tubeWith("a", here)), []impl.ProbeCell{{X: 2, Y: 3, Slots: []impl.ProbeSlot{slot("a"), slot("b")}}}},
		{put(named("a")), []impl.ProbeCell{{X: 2, Y: 3, Slots: []impl.ProbeSlot{slot("b")}}}},
		{put(tubeWith("aa", here)), []impl.ProbeCell{{X: 2, Y: 3, Slots: []impl.ProbeSlot{slot("a"), slot("aa"), slot("b")}}, other}},
		{drop("c"), []impl.ProbeCell{{X: 2, Y: 3, Slots: []impl.ProbeSlot{slot("a"), slot("b")}}, other}},
	} {
		if got := impl.ProbeFollow(impl.ProbeIndexOf(list), list, c.e); !sameIndex(got, impl.ProbeIndex{Cells: c.want}) {
			t.Errorf("%+v: %+v", c.e, got)
		}
	}
	one := list[1:]
	if got := impl.ProbeFollow(impl.ProbeIndexOf(one), one, drop("b")); len(got.Cells) != 0 {
		t.Errorf("the last one of all: %+v", got)
	}
}

// Whatever x is, it is the index of the tubes behind the event, with each code.
func TestFollowOfAnyIndex(t *testing.T) {
	d := dice()
	list := pickSky(d, 6, 5, 4, 12)
	full := manyTubes(impl.ProbeMaxTubes)
	full[7] = pickTube(d, full[7].Name, 5, 4, 12)
	wrong := []impl.ProbeTube{list[1], list[0]}
	cases := []struct {
		list []impl.ProbeTube
		e    impl.ProbeEvent
		code int
	}{
		{list, put(pickTube(d, "new", 4, 4, 12)), 0}, {list, put(pickTube(d, "ac", 4, 4, 12)), 0}, {list, drop("ac"), 0},
		{nil, put(pickTube(d, "new", 4, 4, 12)), 0},
		{wrong, drop("aa"), 1}, {wrong, put(named("new")), 1}, {wrong, put(named("")), 1},
		{list, put(named("")), 2}, {list, put(tubeWith("ac", impl.ProbeBox{Y: 16})), 2},
		{list, drop("new"), 3}, {nil, drop("new"), 3},
		{full, put(named("new")), 4}, {full, put(pickTube(d, "ac", 4, 4, 12)), 0},
	}
	for i, c := range cases {
		behind, code := impl.ProbeHappen(c.list, c.e)
		if code != c.code {
			t.Errorf("case %d: code %d, not %d", i, code, c.code)
		}
		want := impl.ProbeIndexOf(behind)
		if (len(want.Cells) == 0) != (code == 1 || len(c.list) == 0 && code != 0) {
			t.Errorf("case %d: %d cells", i, len(want.Cells))
		}
		own := impl.ProbeIndexOf(c.list)
		others := []impl.ProbeIndex{own, want, {}, {Cells: []impl.ProbeCell{}}, scatter(d, own), impl.ProbeIndexOf(pickSky(d, 9, 5, 4, 12)), impl.ProbeIndexOf(full)}
		for range 20 {
			others = append(others, pickIndex(d))
		}
		for at := range own.Cells {
			// All but one cell, or one slot, of the right one.
			almost, changed := cloneIndex(own), cloneIndex(own)
			almost.Cells = slices.Delete(almost.Cells, at, at+1)
			changed.Cells[at].Slots[0].Out++
			others = append(others, almost, changed)
		}
		for _, x := range others {
			if got := impl.ProbeFollow(x, c.list, c.e); !sameIndex(got, want) {
				t.Errorf("case %d, from %+v: %+v, not %+v", i, x, got, want)
			}
		}
	}
}

// P3: a tube that goes takes just its own clashes with it.
func TestHappenTakesJustItsOwnClashes(t *testing.T) {
	d := dice()
	gone, left := 0, 0
	for range 40 {
		list := pickSky(d, 1+d.IntN(12), 5, 8, 12)
		all := impl.ProbeAll(list)
		for _, tube := range list {
			behind, code := impl.ProbeHappen(list, drop(tube.Name))
			want := clashesWithout(all, tube.Name)
			if got := impl.ProbeAll(behind); code != 0 || !slices.Equal(got, want) {
				t.Fatalf("%+v without %s:\n%+v, not\n%+v", list, tube.Name, got, want)
			}
			// Who comes back brings them back.
			back, code := impl.ProbeHappen(behind, put(tube))
			if code != 0 || !sameSky(back, list) {
				t.Fatalf("%s, come back: %+v, not %+v", tube.Name, back, list)
			}
			gone, left = gone+len(all)-len(want), left+len(want)
		}
	}
	if gone < 300 || left < 500 {
		t.Errorf("%d clashes gone and %d left: the tubes are badly picked", gone, left)
	}
}

// P6 behind P7: an index that has followed tells what ProbeWith tells.
func TestAskOfOneThatFollowed(t *testing.T) {
	d := dice()
	names := manyTubes(12)
	var list []impl.ProbeTube
	var x impl.ProbeIndex
	for range 300 {
		e := pickEvent(d, names)
		x = impl.ProbeFollow(x, list, e)
		list, _ = impl.ProbeHappen(list, e)
		tube := pickTube(d, names[d.IntN(12)].Name, 4, 5, 12)
		if got, want := impl.ProbeAsk(x, tube), impl.ProbeWith(list, tube); !slices.Equal(got, want) {
			t.Fatalf("%+v in %+v:\n%+v, not\n%+v", tube, list, got, want)
		}
	}
}

// holdSkyApart writes over each list of boxes of an answer, spare room included, and looks
// whether it shows in another list of it, or in what came in.
func holdSkyApart(t *testing.T, ask func() []impl.ProbeTube, untouched func() bool) {
	t.Helper()
	want := cloneSky(ask())
	for k := range cap(ask()) {
		list := ask()
		room := list[:cap(list)]
		spoil(room[k].Boxes[:cap(room[k].Boxes)])
		for i, tube := range list {
			if i != k && !sameTube(tube, want[i]) {
				t.Fatalf("what is written to tube %d shows in tube %d", k, i)
			}
		}
		if !untouched() {
			t.Fatalf("what is written to tube %d shows in an argument", k)
		}
	}
	first, second := ask(), ask()
	for i := range first {
		spoil(first[i].Boxes[:cap(first[i].Boxes)])
	}
	clear(first[:cap(first)])
	if !sameSky(second, want) || !untouched() || !sameSky(ask(), want) {
		t.Fatal("what is written to an answer shows in another one, or in an argument")
	}
}

// memoryCases are events of each code, for lists and tubes that have room behind their ends.
func memoryCases(d *rand.Rand) ([]impl.ProbeTube, []impl.ProbeEvent) {
	room := manyTubes(9)
	for i := range room {
		room[i] = pickTube(d, room[i].Name, 8, 3, 12)
		room[i].Boxes = room[i].Boxes[:5]
	}
	room[3].Boxes = room[3].Boxes[:0]
	// Two tubes of a list may share their boxes: behind an event they do not.
	room[5].Boxes = room[4].Boxes
	events := []impl.ProbeEvent{drop("nobody"), put(named("")), put(tubeWith("ab", impl.ProbeBox{X: 16}))}
	for _, name := range []string{"a", "aa", "ac", "aca", "ad", "ae", "af", "zz"} {
		tube := pickTube(d, name, 8, 3, 12)
		tube.Boxes = tube.Boxes[:6]
		events = append(events, put(tube), impl.ProbeEvent{Drop: true, Tube: tube})
	}
	// The tube that comes in shares its boxes with one that is there.
	return room, append(events, put(room[0]), put(impl.ProbeTube{Name: "zz", Boxes: room[1].Boxes}), put(impl.ProbeTube{Name: "zz", Boxes: room[1].Boxes[:0]}))
}

// withRoom is tubes with what is behind the ends of their boxes.
func withRoom(list []impl.ProbeTube) []impl.ProbeTube {
	all := slices.Clone(list)
	for i := range all {
		all[i].Boxes = all[i].Boxes[:cap(all[i].Boxes)]
	}
	return all
}

func TestHappenIsNewMemoryAndWritesNothing(t *testing.T) {
	d := dice()
	room, events := memoryCases(d)
	var codes [5]int
	for _, e := range events {
		for _, list := range [][]impl.ProbeTube{room[:0], room[:7], room[1:6], {room[1], room[0]}} {
			x := scatter(d, impl.ProbeIndexOf(list))
			before, tubeBefore, xBefore := cloneSky(withRoom(room)), slices.Clone(e.Tube.Boxes[:cap(e.Tube.Boxes)]), cloneIndex(x)
			untouched := func() bool {
				return sameSky(withRoom(room), before) && slices.Equal(e.Tube.Boxes[:cap(e.Tube.Boxes)], tubeBefore) && sameIndex(x, xBefore)
			}
			behind, code := impl.ProbeHappen(list, e)
			impl.ProbeFollow(x, list, e)
			if !untouched() {
				t.Fatalf("%+v: an argument, or what is behind its end, is written to", e)
			}
			kept := cloneSky(behind)
			holdSkyApart(t, func() []impl.ProbeTube { answer, _ := impl.ProbeHappen(list, e); return answer }, untouched)
			holdIndexApart(t, func() impl.ProbeIndex { return impl.ProbeFollow(x, list, e) }, untouched)
			if !sameSky(behind, kept) {
				t.Fatalf("%+v: what is written to an answer shows in another one", e)
			}
			codes[code]++
		}
	}
	if codes[0] == 0 || codes[1] == 0 || codes[2] == 0 || codes[3] == 0 {
		t.Errorf("codes %v: the events are badly picked", codes)
	}
}

// With 4, too, what stays is new memory.
func TestHappenIsNewMemoryWhenFull(t *testing.T) {
	list := fullSky(dice(), 3)
	before := cloneSky(list)
	e := put(named("new"))
	x := impl.ProbeIndexOf(list)
	untouched := func() bool { return sameSky(list, before) }
	holdSkyApart(t, func() []impl.ProbeTube { answer, _ := impl.ProbeHappen(list, e); return answer }, untouched)
	holdIndexApart(t, func() impl.ProbeIndex { return impl.ProbeFollow(x, list, e) }, func() bool { return untouched() && sameIndex(x, indexBy(before)) })
}

// What is written to the arguments behind a call does not show in its answer.
func TestHappenKeepsNothing(t *testing.T) {
	d := dice()
	for _, e := range []impl.ProbeEvent{put(pickTube(d, "ac", 4, 3, 12)), put(pickTube(d, "new", 4, 3, 12)), drop("ab"), drop("nobody"), put(named(""))} {
		list := pickSky(d, 6, 5, 3, 12)
		x := impl.ProbeIndexOf(list)
		behind, _ := impl.ProbeHappen(list, e)
		y := impl.ProbeFollow(x, list, e)
		kept, keptIndex := cloneSky(behind), cloneIndex(y)
		for i := range list {
			spoil(list[i].Boxes)
		}
		spoil(e.Tube.Boxes)
		for i := range x.Cells {
			spoilSlots(x.Cells[i].Slots)
		}
		clear(list)
		clear(x.Cells)
		if !sameSky(behind, kept) || !sameIndex(y, keptIndex) {
			t.Errorf("%+v: what is written to an argument shows in the answer", e)
		}
	}
}

func TestFollowHangsOnNothingElse(t *testing.T) {
	d := dice()
	list := pickSky(d, 20, 12, 6, 30)
	x := impl.ProbeIndexOf(list)
	for _, e := range []impl.ProbeEvent{put(pickTube(d, "ac", 9, 6, 30)), put(pickTube(d, "new", 9, 6, 30)), drop("ab"), drop("nobody"), put(named(""))} {
		behind, code := impl.ProbeHappen(list, e)
		y := impl.ProbeFollow(x, list, e)
		again := func(times int) {
			for range times {
				got, gotCode := impl.ProbeHappen(list, e)
				if gotCode != code || !sameSky(got, behind) || !sameIndex(impl.ProbeFollow(x, list, e), y) {
					t.Errorf("%+v: another answer to the same call", e)
					return
				}
			}
		}
		again(20)
		var callers sync.WaitGroup
		for range 4 {
			callers.Go(func() { again(5) })
		}
		callers.Wait()
	}
}
