package tests

import (
	"math/rand/v2"
	"slices"
	"sync"
	"testing"
	"testing/synctest"

	"loop.example/lapprobe/impl"
)

// pickSky is tubes that are ok together, some of them without boxes.
func pickSky(d *rand.Rand, tubes int, boxes int, side int, ticks int) []impl.ProbeTube {
	list := manyTubes(tubes)
	for i := range list {
		list[i] = pickTube(d, list[i].Name, d.IntN(boxes+1), side, ticks)
	}
	return list
}

// everyPair is ProbeMeet of each and each behind it, where it is true.
func everyPair(list []impl.ProbeTube) []impl.ProbeClash {
	var want []impl.ProbeClash
	for i := 0; i < len(list); i++ {
		for j := i + 1; j < len(list); j++ {
			if clash, near := impl.ProbeMeet(list[i], list[j]); near {
				want = append(want, clash)
			}
		}
	}
	return want
}

// everyOther is ProbeMeet of t and each of another name, where it is true.
func everyOther(list []impl.ProbeTube, t impl.ProbeTube) []impl.ProbeClash {
	var want []impl.ProbeClash
	for _, other := range list {
		if clash, near := impl.ProbeMeet(t, other); near && other.Name != t.Name {
			want = append(want, clash)
		}
	}
	return want
}

// clashesWithout is the clashes that the one of this name is not in.
func clashesWithout(all []impl.ProbeClash, name string) []impl.ProbeClash {
	return slices.DeleteFunc(slices.Clone(all), func(c impl.ProbeClash) bool { return c.A == name || c.B == name })
}

// wrongSkies are lists that are not ok together, though ones who are near stand in them.
func wrongSkies() [][]impl.ProbeTube {
	box := impl.ProbeBox{X: 1, Y: 1, High: 6, Out: 10000}
	p, q, r := tubeWith("p", box), tubeWith("q", box), tubeWith("r", box)
	tooMany := manyTubes(impl.ProbeMaxTubes + 1)
	for i := range tooMany {
		tooMany[i].Boxes = []impl.ProbeBox{box}
	}
	wrong := [][]impl.ProbeTube{{p, p}, {q, p}, {p, r, q}, {p, q, q}, {p, q, p}, tooMany}
	for _, bad := range wrongTubes() {
		wrong = append(wrong, []impl.ProbeTube{bad}, []impl.ProbeTube{bad, p, q}, []impl.ProbeTube{p, q, bad})
	}
	return wrong
}

func TestAllByHand(t *testing.T) {
	at := func(x int, in int) impl.ProbeBox { return impl.ProbeBox{X: x, High: 1, In: in, Out: in + 5} }
	list := []impl.ProbeTube{
		tubeWith("a", at(1, 7), at(5, 2)),
		tubeWith("b", at(9, 0), at(2, 9)),
		tubeWith("c"),
		tubeWith("d", at(6, 3), at(9, 5), at(0, 9)),
		tubeWith("e", at(15, 0)),
	}
	want := []impl.ProbeClash{{A: "a", B: "b", Tick: 9, I: 0, J: 1}, {A: "a", B: "d", Tick: 3, I: 1, J: 0}, {A: "b", B: "d", Tick: 5, I: 0, J: 1}}
	if got := impl.ProbeAll(list); !slices.Equal(got, want) {
		t.Errorf("all: %+v", got)
	}
	want = []impl.ProbeClash{{A: "d", B: "a", Tick: 3, I: 0, J: 1}, {A: "d", B: "b", Tick: 5, I: 1, J: 0}}
	if got := impl.ProbeWith(list, list[3]); !slices.Equal(got, want) {
		t.Errorf("with one of them: %+v", got)
	}
	guest := tubeWith("ab", at(14, 1), at(8, 4))
	want = []impl.ProbeClash{{A: "ab", B: "b", Tick: 4, I: 1, J: 0}, {A: "ab", B: "d", Tick: 5, I: 1, J: 1}, {A: "ab", B: "e", Tick: 1, I: 0, J: 0}}
	if got := impl.ProbeWith(list, guest); !slices.Equal(got, want) {
		t.Errorf("with one who is not there: %+v", got)
	}
	if impl.ProbeFree(list, list[0]) || impl.ProbeFree(list, guest) || !impl.ProbeFree(list, list[2]) || !impl.ProbeFree(list, list[4]) {
		t.Error("free")
	}
}

// P3: just the pairs that meet, in order, and one is free just where no clash has it.
func TestAllIsEveryPair(t *testing.T) {
	d := dice()
	clashes, free := 0, 0
	for range 150 {
		list := pickSky(d, d.IntN(impl.ProbeMaxTubes+1), 4, 12, 12)
		all := impl.ProbeAll(list)
		if want := everyPair(list); !slices.Equal(all, want) {
			t.Fatalf("%+v:\n%+v, not\n%+v", list, all, want)
		}
		clashes += len(all)
		for _, tube := range list {
			want := len(clashesWithout(all, tube.Name)) == len(all)
			if impl.ProbeFree(list, tube) != want {
				t.Fatalf("%+v is free in %+v: %v", tube, list, !want)
			}
			if want {
				free++
			}
		}
	}
	if clashes < 500 || free < 200 {
		t.Errorf("%d clashes and %d who are free: the tubes are badly picked", clashes, free)
	}
}

// P3, two by two: a pair is told just where one of the two is not free of the other.
func TestAllTellsWhoIsNotFreeOfWhom(t *testing.T) {
	d := dice()
	for range 40 {
		list := pickSky(d, 8, 4, 9, 12)
		all := impl.ProbeAll(list)
		for i, a := range list {
			for _, b := range list[i+1:] {
				told := slices.ContainsFunc(all, func(c impl.ProbeClash) bool { return c.A == a.Name && c.B == b.Name })
				if impl.ProbeFree([]impl.ProbeTube{a}, b) == told || impl.ProbeFree([]impl.ProbeTube{b}, a) == told {
					t.Fatalf("%+v and %+v are told: %v", a, b, told)
				}
			}
		}
	}
}

// P3: a tube that goes takes just its own clashes with it.
func TestAllWithoutOne(t *testing.T) {
	d := dice()
	for range 40 {
		list := pickSky(d, 1+d.IntN(12), 5, 8, 12)
		all := impl.ProbeAll(list)
		for i, gone := range list {
			left := slices.Delete(slices.Clone(list), i, i+1)
			if got, want := impl.ProbeAll(left), clashesWithout(all, gone.Name); !slices.Equal(got, want) {
				t.Fatalf("%+v without %s:\n%+v, not\n%+v", list, gone.Name, got, want)
			}
		}
	}
}

func TestAllOfFewAndMany(t *testing.T) {
	box := impl.ProbeBox{X: 1, Y: 1, High: 6, In: 3, Out: 10000}
	if len(impl.ProbeAll(nil)) != 0 || len(impl.ProbeAll([]impl.ProbeTube{})) != 0 || len(impl.ProbeAll([]impl.ProbeTube{tubeWith("a", box)})) != 0 {
		t.Error("no tubes, or one, have clashes")
	}
	list := manyTubes(impl.ProbeMaxTubes)
	if got := impl.ProbeAll(list); len(got) != 0 {
		t.Errorf("tubes without boxes: %+v", got)
	}
	for i := range list {
		list[i].Boxes = []impl.ProbeBox{box}
	}
	got := impl.ProbeAll(list)
	if len(got) != 24*23/2 || !slices.Equal(got, everyPair(list)) {
		t.Errorf("ProbeMaxTubes of one cell: %d clashes", len(got))
	}
	if got := impl.ProbeWith(list, tubeWith("zz", box)); len(got) != 24 {
		t.Errorf("one more with ProbeMaxTubes of one cell: %d clashes", len(got))
	}
	more := append(list, tubeWith("zz", box))
	if len(impl.ProbeAll(more)) != 0 || len(impl.ProbeWith(more, list[0])) != 0 || impl.ProbeFree(more, named("free")) {
		t.Error("more than ProbeMaxTubes are looked at")
	}
}

func TestAllOfFullTubes(t *testing.T) {
	d := dice()
	list := manyTubes(impl.ProbeMaxTubes)
	for i := range list {
		list[i] = pickTube(d, list[i].Name, impl.ProbeMaxBoxes, 16, impl.ProbeMaxTick)
		for j := range list[i].Boxes {
			b := &list[i].Boxes[j]
			b.Out = min(b.In+30, impl.ProbeMaxTick)
		}
	}
	got := impl.ProbeAll(list)
	if !slices.Equal(got, everyPair(list)) {
		t.Error("not ProbeMeet of each pair")
	}
	if len(got) < 30 || len(got) > 250 {
		t.Errorf("%d clashes: the tubes are badly picked", len(got))
	}
	list[7].Boxes = append(list[7].Boxes, impl.ProbeBox{})
	if len(impl.ProbeAll(list)) != 0 || len(impl.ProbeWith(list, list[0])) != 0 || impl.ProbeFree(list, named("free")) {
		t.Error("a tube of more than ProbeMaxBoxes boxes is looked at")
	}
}

func TestWithIsEveryOther(t *testing.T) {
	d := dice()
	for range 150 {
		list := pickSky(d, d.IntN(13), 4, 8, 12)
		asked := append(slices.Clone(list), pickTube(d, "0", 5, 8, 12), pickTube(d, "ac0", 5, 8, 12), pickTube(d, "zz", 5, 8, 12), named("q"))
		for _, tube := range list {
			asked = append(asked, pickTube(d, tube.Name, 5, 8, 12))
		}
		for _, tube := range asked {
			want := everyOther(list, tube)
			if got := impl.ProbeWith(list, tube); !slices.Equal(got, want) {
				t.Fatalf("%+v with %+v:\n%+v, not\n%+v", tube, list, got, want)
			}
			if impl.ProbeFree(list, tube) != (len(want) == 0) {
				t.Fatalf("%+v is free in %+v: %v", tube, list, len(want) != 0)
			}
		}
	}
}

// One of t's Name is passed by, whatever its boxes are.
func TestWithPassesItsOwnNameBy(t *testing.T) {
	box := impl.ProbeBox{X: 3, Y: 3, High: 6, Out: 10000}
	other := impl.ProbeBox{X: 4, Y: 4, Low: 2, High: 2, In: 70, Out: 80}
	list := []impl.ProbeTube{tubeWith("b", box)}
	for _, own := range []impl.ProbeTube{tubeWith("b", box), tubeWith("b", other), tubeWith("b", other, box), named("b")} {
		if got := impl.ProbeWith(list, own); len(got) != 0 || !impl.ProbeFree(list, own) {
			t.Errorf("%+v: %+v", own, got)
		}
	}
	list = []impl.ProbeTube{tubeWith("a", box), tubeWith("b", box), tubeWith("c", box)}
	want := []impl.ProbeClash{{A: "b", B: "a", Tick: 70}, {A: "b", B: "c", Tick: 70}}
	if got := impl.ProbeWith(list, tubeWith("b", other)); !slices.Equal(got, want) || impl.ProbeFree(list, tubeWith("b", other)) {
		t.Errorf("with others around: %+v", got)
	}
	// A name is another one, if it only begins like it.
	if got := impl.ProbeWith(list, tubeWith("bb", other)); len(got) != 3 {
		t.Errorf("a longer name: %+v", got)
	}
}

func TestWithNobody(t *testing.T) {
	some := tubeWith("a", impl.ProbeBox{High: 6, Out: 10000})
	for _, list := range [][]impl.ProbeTube{nil, {}, {named("b")}} {
		for _, tube := range []impl.ProbeTube{some, named("a")} {
			if got := impl.ProbeWith(list, tube); len(got) != 0 || !impl.ProbeFree(list, tube) {
				t.Errorf("%+v with %+v: %+v", tube, list, got)
			}
		}
		for _, wrong := range wrongTubes() {
			if got := impl.ProbeWith(list, wrong); len(got) != 0 || impl.ProbeFree(list, wrong) {
				t.Errorf("%+v with %+v: %+v", wrong, list, got)
			}
		}
	}
}

func TestAllOfWrongSkies(t *testing.T) {
	box := impl.ProbeBox{X: 1, Y: 1, High: 6, Out: 10000}
	for _, list := range wrongSkies() {
		if got := impl.ProbeAll(list); len(got) != 0 {
			t.Errorf("all of %+v: %+v", list, got)
		}
		for _, tube := range append(wrongTubes(), tubeWith("x", box), tubeWith("p", box), named("free")) {
			if got := impl.ProbeWith(list, tube); len(got) != 0 || impl.ProbeFree(list, tube) {
				t.Errorf("%+v with %+v: %+v", tube, list, got)
			}
		}
	}
}

func TestWithOfWrongTubes(t *testing.T) {
	box := impl.ProbeBox{X: 1, Y: 1, High: 6, Out: 10000}
	list := []impl.ProbeTube{tubeWith("p", box), tubeWith("q", box)}
	for _, wrong := range wrongTubes() {
		if got := impl.ProbeWith(list, wrong); len(got) != 0 || impl.ProbeFree(list, wrong) {
			t.Errorf("%+v: %+v", wrong, got)
		}
	}
}

// P4: whose tube is within one of the same name that is free is free.
func TestWithinOneWhoIsFree(t *testing.T) {
	d := dice()
	free, freed := 0, 0
	for range 600 {
		list := pickSky(d, 6, 2, 16, 12)
		// Names ahead of, between, in and behind those of the list.
		name := []string{"a", "aa", "ac", "acc", "zz"}[d.IntN(5)]
		outer := pickTube(d, name, 1+d.IntN(5), 16, 12)
		inner := shrink(d, outer)
		least := shrink(d, inner)
		if !impl.ProbeSmaller(inner, outer) || !impl.ProbeSmaller(least, inner) || !impl.ProbeSmaller(least, outer) {
			t.Fatal("not within one another")
		}
		if impl.ProbeFree(list, outer) && !impl.ProbeFree(list, inner) || impl.ProbeFree(list, inner) && !impl.ProbeFree(list, least) {
			t.Fatalf("%+v is free, what is within is not: %+v, %+v, in %+v", outer, inner, least, list)
		}
		if impl.ProbeFree(list, outer) {
			free++
		} else if impl.ProbeFree(list, least) {
			freed++
		}
	}
	if free < 50 || freed < 10 {
		t.Errorf("%d are free, %d only by being smaller: the tubes are badly picked", free, freed)
	}
}

// The same call gives the same clashes in the same order, many at the same time, too.
func TestAllHangsOnNothingElse(t *testing.T) {
	d := dice()
	list := pickSky(d, impl.ProbeMaxTubes, 6, 10, 30)
	tube := pickTube(d, "me", 10, 10, 30)
	all, with := impl.ProbeAll(list), impl.ProbeWith(list, tube)
	if len(all) < 30 || len(with) < 5 {
		t.Fatalf("%d and %d clashes: the tubes are badly picked", len(all), len(with))
	}
	again := func(times int) {
		for range times {
			if !slices.Equal(impl.ProbeAll(list), all) || !slices.Equal(impl.ProbeWith(list, tube), with) || impl.ProbeFree(list, tube) {
				t.Error("another answer to the same call")
				return
			}
		}
	}
	again(200)
	var callers sync.WaitGroup
	for range 8 {
		callers.Go(func() { again(20) })
	}
	callers.Wait()
}

// A goroutine that waited for ever would fail the bubble that it was started in.
func TestAllLeavesNobodyBehind(t *testing.T) {
	d := dice()
	for _, tubes := range []int{0, 1, 2, 3, 24, 25} {
		list := pickSky(d, tubes, 6, 6, 30)
		synctest.Test(t, func(*testing.T) {
			impl.ProbeAll(list)
			impl.ProbeWith(list, pickTube(d, "me", 6, 6, 30))
			impl.ProbeFree(list, pickTube(d, "me", 6, 6, 30))
		})
	}
}

func cloneSky(list []impl.ProbeTube) []impl.ProbeTube {
	var kept []impl.ProbeTube
	for _, tube := range list {
		kept = append(kept, impl.ProbeTube{Name: tube.Name, Boxes: slices.Clone(tube.Boxes)})
	}
	return kept
}

// Nothing is written into the lists, nor behind their ends: what is behind is looked at here, too.
func TestAllWritesNothing(t *testing.T) {
	d := dice()
	room := manyTubes(9)
	for i := range room {
		room[i] = pickTube(d, room[i].Name, 8, 5, 12)
	}
	own := pickTube(d, "me", 8, 5, 12)
	before, ownBefore := cloneSky(room), slices.Clone(own.Boxes)
	list := slices.Clone(room)
	for i := range list {
		list[i].Boxes = list[i].Boxes[1:5]
	}
	impl.ProbeAll(list[2:6])
	impl.ProbeWith(list[2:6], impl.ProbeTube{Name: "me", Boxes: own.Boxes[1:5]})
	impl.ProbeFree(list[2:6], impl.ProbeTube{Name: "me", Boxes: own.Boxes[1:5]})
	for i := range room {
		if !sameTube(room[i], before[i]) || !sameTube(list[i], impl.ProbeTube{Name: before[i].Name, Boxes: before[i].Boxes[1:5]}) {
			t.Errorf("tube %d, or what is around it, is written to", i)
		}
	}
	if !slices.Equal(own.Boxes, ownBefore) {
		t.Error("the one tube, or what is around it, is written to")
	}
}

// spoilClashes writes over an answer and its spare room.
func spoilClashes(clashes []impl.ProbeClash) {
	clashes = clashes[:cap(clashes)]
	for i := range clashes {
		clashes[i] = impl.ProbeClash{A: "spoilt", B: "spoilt", Tick: -7, I: -7, J: -7}
	}
}

func TestAllIsNewMemory(t *testing.T) {
	d := dice()
	list := pickSky(d, 8, 6, 6, 12)
	own := pickTube(d, "me", 6, 6, 12)
	for _, ask := range []func() []impl.ProbeClash{
		func() []impl.ProbeClash { return impl.ProbeAll(list) },
		func() []impl.ProbeClash { return impl.ProbeWith(list, own) },
	} {
		first, second := ask(), ask()
		kept := slices.Clone(second)
		if len(kept) == 0 {
			t.Fatal("no clashes: the tubes are badly picked")
		}
		spoilClashes(first)
		if !slices.Equal(second, kept) || !slices.Equal(ask(), kept) {
			t.Error("what is written to an answer shows in another one")
		}
	}
}
