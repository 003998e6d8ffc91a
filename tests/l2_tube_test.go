package tests

import (
	"math"
	"math/rand/v2"
	"slices"
	"strings"
	"testing"

	"loop.example/lapprobe/impl"
)

func TestLimitsOfTubes(t *testing.T) {
	if impl.ProbeMaxName != 8 || impl.ProbeMaxBoxes != 40 || impl.ProbeMaxTubes != 24 {
		t.Error("a limit of tubes is not the document's")
	}
}

func named(name string) impl.ProbeTube {
	return impl.ProbeTube{Name: name}
}

func TestTubeOkByName(t *testing.T) {
	for _, name := range []string{"a", "z", "0", "9", "-", "--------", "a-0", "abcdefgh", "12345678"} {
		if !impl.ProbeTubeOk(named(name)) {
			t.Errorf("ok, but refused: %q", name)
		}
	}
	for _, name := range []string{"", "abcdefghi", "---------", strings.Repeat("a", 100000), "A", "a b", " a", "a ", "a_b", "ä", "a\x00", "a\xff", "a\n"} {
		if impl.ProbeTubeOk(named(name)) {
			t.Errorf("not ok, but taken: %q", name)
		}
	}
}

func TestTubeOkByEachByte(t *testing.T) {
	for c := range 256 {
		want := strings.IndexByte("abcdefghijklmnopqrstuvwxyz0123456789-", byte(c)) >= 0
		one := string([]byte{byte(c)})
		for _, name := range []string{one, one + "bc", "a" + one + "c", "ab" + one, "abcdefg" + one} {
			if impl.ProbeTubeOk(named(name)) != want {
				t.Errorf("%q: %v", name, !want)
			}
		}
	}
}

func TestTubeOkByBoxes(t *testing.T) {
	full := pickTube(dice(), "a", impl.ProbeMaxBoxes, 16, impl.ProbeMaxTick)
	if !impl.ProbeTubeOk(full) {
		t.Error("ProbeMaxBoxes boxes are refused")
	}
	if !impl.ProbeTubeOk(impl.ProbeTube{Name: "a", Boxes: []impl.ProbeBox{}}) {
		t.Error("no boxes are refused")
	}
	for _, n := range []int{41, 42, 1000} {
		if impl.ProbeTubeOk(impl.ProbeTube{Name: "a", Boxes: make([]impl.ProbeBox, n)}) {
			t.Errorf("%d boxes are taken", n)
		}
	}
	for at := range full.Boxes {
		bad := impl.ProbeTube{Name: "a", Boxes: slices.Clone(full.Boxes)}
		bad.Boxes[at].X = impl.ProbeMaxSide
		if impl.ProbeTubeOk(bad) {
			t.Errorf("a wrong box at %d is taken", at)
		}
	}
	for _, b := range badBoxes() {
		if impl.ProbeTubeOk(impl.ProbeTube{Name: "a", Boxes: []impl.ProbeBox{b}}) {
			t.Errorf("taken: %+v", b)
		}
	}
}

// wrongTubes are tubes that are not ok, by their name, their size, or a box.
func wrongTubes() []impl.ProbeTube {
	box := impl.ProbeBox{X: 1, Y: 1, Low: 1, High: 2, In: 3, Out: 8}
	wrong := []impl.ProbeTube{
		{}, {Boxes: []impl.ProbeBox{box}},
		{Name: "abcdefghi", Boxes: []impl.ProbeBox{box}}, {Name: "A", Boxes: []impl.ProbeBox{box}},
		{Name: "a", Boxes: slices.Repeat([]impl.ProbeBox{box}, 41)},
	}
	for _, b := range badBoxes() {
		wrong = append(wrong, impl.ProbeTube{Name: "a", Boxes: []impl.ProbeBox{box, b}})
	}
	return wrong
}

func sky(names ...string) []impl.ProbeTube {
	var list []impl.ProbeTube
	for _, name := range names {
		list = append(list, named(name))
	}
	return list
}

func TestSkyOkByOrder(t *testing.T) {
	for _, list := range [][]impl.ProbeTube{
		nil, {}, sky("a"), sky("a", "b"), sky("a", "ab"), sky("a", "ab", "abc", "b"),
		sky("-", "0", "9", "a", "z"), sky("a-", "a0", "aa"), sky("a9", "aa"), sky("10", "9"),
	} {
		if !impl.ProbeSkyOk(list) {
			t.Errorf("ok together, but refused: %v", list)
		}
	}
	for _, list := range [][]impl.ProbeTube{
		sky("a", "a"), sky("b", "a"), sky("ab", "a"), sky("a", "b", "b"), sky("a", "c", "b"),
		sky("b", "c", "a"), sky("0", "-"), sky("a", "0"), sky("9", "10"), sky("a", "b", "a"),
	} {
		if impl.ProbeSkyOk(list) {
			t.Errorf("not ok together, but taken: %v", list)
		}
	}
}

func manyTubes(n int) []impl.ProbeTube {
	var list []impl.ProbeTube
	for i := range n {
		list = append(list, named(string([]byte{byte('a' + i/26), byte('a' + i%26)})))
	}
	return list
}

func TestSkyOkBySize(t *testing.T) {
	if !impl.ProbeSkyOk(manyTubes(23)) || !impl.ProbeSkyOk(manyTubes(24)) {
		t.Error("ProbeMaxTubes tubes are refused")
	}
	if impl.ProbeSkyOk(manyTubes(25)) || impl.ProbeSkyOk(manyTubes(60)) {
		t.Error("more than ProbeMaxTubes tubes are taken")
	}
}

func TestSkyOkAsksEachTube(t *testing.T) {
	for at := range impl.ProbeMaxTubes {
		list := manyTubes(impl.ProbeMaxTubes)
		list[at].Boxes = []impl.ProbeBox{{}, {In: 1}}
		if impl.ProbeSkyOk(list) {
			t.Errorf("a wrong tube at %d is taken", at)
		}
	}
	for _, list := range [][]impl.ProbeTube{sky(""), sky("", "a"), sky("A", "a"), sky("a", "a~"), sky("a", "bcdefghij")} {
		if impl.ProbeSkyOk(list) {
			t.Errorf("taken: %v", list)
		}
	}
	for _, wrong := range wrongTubes() {
		if impl.ProbeSkyOk([]impl.ProbeTube{wrong}) {
			t.Errorf("taken: %+v", wrong)
		}
	}
}

func TestCutByHand(t *testing.T) {
	a := impl.ProbeTube{Name: "a-1", Boxes: []impl.ProbeBox{
		{X: 1, Y: 2, Low: 3, High: 4, In: 5, Out: 9},
		{X: 2, In: 2, Out: 6},
		{X: 3, In: 8, Out: 20},
		{X: 4, In: 7, Out: 7},
	}}
	for _, c := range []struct {
		from int
		want []impl.ProbeBox
	}{
		{2, a.Boxes},
		{3, []impl.ProbeBox{a.Boxes[0], {X: 2, In: 3, Out: 6}, a.Boxes[2], a.Boxes[3]}},
		{7, []impl.ProbeBox{{X: 1, Y: 2, Low: 3, High: 4, In: 7, Out: 9}, a.Boxes[2], a.Boxes[3]}},
		{8, []impl.ProbeBox{{X: 1, Y: 2, Low: 3, High: 4, In: 8, Out: 9}, a.Boxes[2]}},
		{20, []impl.ProbeBox{{X: 3, In: 20, Out: 20}}},
		{21, nil},
	} {
		if got := impl.ProbeCut(a, c.from); !sameTube(got, impl.ProbeTube{Name: "a-1", Boxes: c.want}) {
			t.Errorf("from %d: %+v", c.from, got)
		}
	}
}

func TestCutAtEnds(t *testing.T) {
	a := impl.ProbeTube{Name: "a", Boxes: []impl.ProbeBox{{X: 1, In: 0, Out: 10000}, {X: 2, In: 3, Out: 9999}, {X: 3}}}
	for _, from := range []int{math.MinInt, math.MinInt + 1, -10000, -1, 0} {
		if got := impl.ProbeCut(a, from); !sameTube(got, a) {
			t.Errorf("from %d: %+v", from, got)
		}
	}
	last := impl.ProbeTube{Name: "a", Boxes: []impl.ProbeBox{{X: 1, In: 10000, Out: 10000}}}
	if got := impl.ProbeCut(a, impl.ProbeMaxTick); !sameTube(got, last) {
		t.Errorf("from the last tick: %+v", got)
	}
	for _, from := range []int{10001, 10002, math.MaxInt - 1, math.MaxInt} {
		if got := impl.ProbeCut(a, from); !sameTube(got, named("a")) {
			t.Errorf("from %d: %+v", from, got)
		}
	}
	if got := impl.ProbeCut(named("a"), 5); !sameTube(got, named("a")) {
		t.Errorf("without boxes: %+v", got)
	}
}

func TestCutOfWrongTubes(t *testing.T) {
	for _, wrong := range wrongTubes() {
		for _, from := range []int{math.MinInt, 0, 4, 9, 10000, math.MaxInt} {
			if got := impl.ProbeCut(wrong, from); !isNothing(got) {
				t.Errorf("%+v from %d: %+v", wrong, from, got)
			}
		}
	}
}

// tubesCloseAt asks ProbeClose of the boxes of a and what those of b are at one tick alone.
func tubesCloseAt(a impl.ProbeTube, b impl.ProbeTube, tick int) bool {
	for _, p := range a.Boxes {
		for _, q := range b.Boxes {
			if tick < q.In || q.Out < tick {
				continue
			}
			q.In, q.Out = tick, tick
			if _, near := impl.ProbeClose(p, q); near {
				return true
			}
		}
	}
	return false
}

// P5: from its tick on a cut is too near just where the tube is, ahead of it nowhere.
func TestCutIsNearWhereTheTubeIs(t *testing.T) {
	d := dice()
	for range 150 {
		a := pickTube(d, "a", d.IntN(6), 4, 14)
		other := pickTube(d, "b", d.IntN(6), 4, 14)
		for from := -1; from <= 15; from++ {
			cut := impl.ProbeCut(a, from)
			if !impl.ProbeTubeOk(cut) {
				t.Fatalf("the cut is not ok: %+v", cut)
			}
			for tick := 0; tick <= 15; tick++ {
				want := from <= tick && tubesNearAt(a, other, tick)
				if tubesNearAt(cut, other, tick) != want || tubesCloseAt(cut, other, tick) != want {
					t.Fatalf("%+v from %d and %+v at %d: not %v", a, from, other, tick, want)
				}
			}
		}
	}
}

// P5: cut once more, later, it is the tube cut there.
func TestCutOfACut(t *testing.T) {
	d := dice()
	for range 100 {
		a := pickTube(d, "a", d.IntN(impl.ProbeMaxBoxes+1), 16, 14)
		for from := -1; from <= 15; from++ {
			cut := impl.ProbeCut(a, from)
			for later := from; later <= 16; later++ {
				if got := impl.ProbeCut(cut, later); !sameTube(got, impl.ProbeCut(a, later)) {
					t.Fatalf("%+v from %d, then %d: %+v", a, from, later, got)
				}
			}
		}
	}
	a := impl.ProbeTube{Name: "a", Boxes: []impl.ProbeBox{{In: 3, Out: 10000}, {Out: 10000}}}
	ends := []int{math.MinInt, -1, 0, 1, 9999, 10000, 10001, math.MaxInt}
	for i, from := range ends {
		for _, later := range ends[i:] {
			if got := impl.ProbeCut(impl.ProbeCut(a, from), later); !sameTube(got, impl.ProbeCut(a, later)) {
				t.Errorf("from %d, then %d: %+v", from, later, got)
			}
		}
	}
}

func spoil(boxes []impl.ProbeBox) {
	for i := range boxes {
		boxes[i] = impl.ProbeBox{X: -7, Y: -7, Low: -7, High: -7, In: -7, Out: -7}
	}
}

// An answer shares no memory with its argument, nor with another answer, spare room included.
func TestCutIsNewMemory(t *testing.T) {
	for _, from := range []int{math.MinInt, 0, 4, 8, 10001} {
		room := pickTube(dice(), "a", 12, 4, 14).Boxes
		before := slices.Clone(room)
		a := impl.ProbeTube{Name: "a", Boxes: room[2:7]}
		first, second := impl.ProbeCut(a, from), impl.ProbeCut(a, from)
		if !slices.Equal(room, before) {
			t.Fatalf("from %d: the argument, or what is around it, is written to", from)
		}
		kept := slices.Clone(second.Boxes)
		spoil(first.Boxes[:cap(first.Boxes)])
		if !slices.Equal(room, before) || !slices.Equal(second.Boxes, kept) {
			t.Errorf("from %d: what is written to an answer shows elsewhere", from)
		}
		spoil(room)
		if !slices.Equal(second.Boxes, kept) {
			t.Errorf("from %d: what is written to the argument shows in the answer", from)
		}
	}
}

func TestChecksWriteNothing(t *testing.T) {
	d := dice()
	room, other := pickTube(d, "a", 12, 4, 14).Boxes, pickTube(d, "b", 12, 4, 14).Boxes
	before, otherBefore := slices.Clone(room), slices.Clone(other)
	list := []impl.ProbeTube{{Name: "a", Boxes: room[:5]}, {Name: "b", Boxes: other[:5]}, named("spare")}
	impl.ProbeTubeOk(list[0])
	impl.ProbeSkyOk(list[:2])
	impl.ProbeSmaller(list[0], list[1])
	impl.ProbeSmaller(list[1], list[0])
	if !slices.Equal(room, before) || !slices.Equal(other, otherBefore) {
		t.Error("boxes of an argument are written to")
	}
	if list[0].Name != "a" || list[1].Name != "b" || len(list[0].Boxes) != 5 || !sameTube(list[2], named("spare")) {
		t.Error("a list of tubes is written to")
	}
}

func tubeWith(name string, boxes ...impl.ProbeBox) impl.ProbeTube {
	return impl.ProbeTube{Name: name, Boxes: boxes}
}

func TestSmallerAtBounds(t *testing.T) {
	outer := impl.ProbeBox{X: 5, Y: 6, Low: 2, High: 4, In: 10, Out: 20}
	within := []impl.ProbeBox{
		outer,
		{X: 5, Y: 6, Low: 3, High: 3, In: 15, Out: 15},
		{X: 5, Y: 6, Low: 2, High: 2, In: 10, Out: 10},
		{X: 5, Y: 6, Low: 4, High: 4, In: 20, Out: 20},
	}
	beyond := []impl.ProbeBox{
		{X: 5, Y: 6, Low: 1, High: 4, In: 10, Out: 20}, {X: 5, Y: 6, Low: 2, High: 5, In: 10, Out: 20},
		{X: 5, Y: 6, Low: 2, High: 4, In: 9, Out: 20}, {X: 5, Y: 6, Low: 2, High: 4, In: 10, Out: 21},
		{X: 4, Y: 6, Low: 2, High: 4, In: 10, Out: 20}, {X: 6, Y: 6, Low: 2, High: 4, In: 10, Out: 20},
		{X: 5, Y: 5, Low: 2, High: 4, In: 10, Out: 20}, {X: 5, Y: 7, Low: 2, High: 4, In: 10, Out: 20},
		{X: 6, Y: 5, Low: 2, High: 4, In: 10, Out: 20},
		{X: 5, Y: 6, Low: 5, High: 5, In: 15, Out: 15}, {X: 5, Y: 6, Low: 3, High: 3, In: 21, Out: 21},
		{X: 5, Y: 6, Low: 0, High: 1, In: 15, Out: 15}, {X: 5, Y: 6, Low: 3, High: 3, In: 1, Out: 9},
	}
	for _, b := range within {
		if !impl.ProbeSmaller(tubeWith("a", b), tubeWith("b", outer)) {
			t.Errorf("within, but refused: %+v", b)
		}
	}
	for _, b := range beyond {
		if impl.ProbeSmaller(tubeWith("a", b), tubeWith("a", outer)) || impl.ProbeSmaller(tubeWith("a", outer, b), tubeWith("a", outer)) {
			t.Errorf("not within, but taken: %+v", b)
		}
	}
}

func TestSmallerInAnyOrder(t *testing.T) {
	p := impl.ProbeBox{X: 1, High: 3, In: 2, Out: 9}
	q := impl.ProbeBox{X: 2, High: 3, In: 4, Out: 8}
	r := impl.ProbeBox{X: 1, Low: 1, High: 2, In: 3, Out: 3}
	s := impl.ProbeBox{X: 1, Low: 3, High: 3, In: 9, Out: 9}
	left, right := impl.ProbeBox{X: 1, High: 3, In: 2, Out: 5}, impl.ProbeBox{X: 1, High: 3, In: 6, Out: 9}
	for i, c := range []struct {
		a, b impl.ProbeTube
		want bool
	}{
		{tubeWith("a", p, q), tubeWith("a", q, p), true},
		{tubeWith("a", r, s, r), tubeWith("a", p), true},
		{tubeWith("a", q, s, r), tubeWith("b", p, q), true},
		{tubeWith("a", r, q), tubeWith("a", p), false},
		{tubeWith("a", p), tubeWith("a", left, right), false},
		{tubeWith("a", left, right), tubeWith("a", p), true},
		{tubeWith("a"), tubeWith("a", p), true}, {tubeWith("a"), tubeWith("b"), true}, {tubeWith("a", p), tubeWith("a"), false},
	} {
		if impl.ProbeSmaller(c.a, c.b) != c.want {
			t.Errorf("case %d: %v", i, !c.want)
		}
	}
}

func TestSmallerOfWrongTubes(t *testing.T) {
	good := tubeWith("a", impl.ProbeBox{X: 1, Y: 1, High: 6, Out: 10000})
	for _, wrong := range wrongTubes() {
		if impl.ProbeSmaller(wrong, good) || impl.ProbeSmaller(good, wrong) || impl.ProbeSmaller(wrong, wrong) || impl.ProbeSmaller(named("a"), wrong) {
			t.Errorf("taken: %+v", wrong)
		}
	}
}

// shrink is a tube within t: some of its boxes, each made smaller, in another order.
func shrink(d *rand.Rand, t impl.ProbeTube) impl.ProbeTube {
	inner := impl.ProbeTube{Name: t.Name}
	for range min(impl.ProbeMaxBoxes, 2*len(t.Boxes)) {
		b := t.Boxes[d.IntN(len(t.Boxes))]
		b.Low, b.High = pickSpan(d, b.Low, b.High)
		b.In, b.Out = pickSpan(d, b.In, b.Out)
		inner.Boxes = append(inner.Boxes, b)
	}
	return inner
}

// P4: each ok tube is within itself, and being within goes on from one to the next.
func TestSmallerGoesOn(t *testing.T) {
	d := dice()
	for range 300 {
		c := pickTube(d, "c", d.IntN(impl.ProbeMaxBoxes+1), 16, impl.ProbeMaxTick)
		b := shrink(d, c)
		a := shrink(d, b)
		if !impl.ProbeSmaller(c, c) || !impl.ProbeSmaller(b, b) || !impl.ProbeSmaller(a, a) {
			t.Fatal("a tube is not within itself")
		}
		if !impl.ProbeSmaller(b, c) || !impl.ProbeSmaller(a, b) || !impl.ProbeSmaller(a, c) {
			t.Fatalf("%+v within %+v within %+v", a, b, c)
		}
	}
}

// Few cells, levels and ticks, so that tubes are within each other by chance, too.
func TestSmallerByDefinition(t *testing.T) {
	d := dice()
	var tubes []impl.ProbeTube
	for range 120 {
		tube := pickTube(d, "a", d.IntN(4), 1, 3)
		for i := range tube.Boxes {
			tube.Boxes[i].Low, tube.Boxes[i].High = pickSpan(d, 0, 2)
		}
		tubes = append(tubes, tube)
	}
	for _, a := range tubes {
		for _, b := range tubes {
			if impl.ProbeSmaller(a, b) != tubeWithin(a, b) {
				t.Fatalf("%+v within %+v: %v", a, b, !tubeWithin(a, b))
			}
			for _, c := range tubes {
				if impl.ProbeSmaller(a, b) && impl.ProbeSmaller(b, c) && !impl.ProbeSmaller(a, c) {
					t.Fatalf("%+v within %+v within %+v", a, b, c)
				}
			}
		}
	}
}

// A cut is within the tube it was cut from.
func TestCutIsSmaller(t *testing.T) {
	a := pickTube(dice(), "a", impl.ProbeMaxBoxes, 16, 30)
	for from := -1; from <= 31; from++ {
		if !impl.ProbeSmaller(impl.ProbeCut(a, from), a) {
			t.Errorf("not from %d", from)
		}
	}
}
