package tests

import (
	"math"
	"testing"

	"loop.example/lapprobe/impl"
)

func TestLimitsOfBoxes(t *testing.T) {
	if impl.ProbeMaxSide != 16 || impl.ProbeMaxLevel != 6 || impl.ProbeMaxTick != 10000 || impl.ProbeApart != 2 {
		t.Error("a limit of boxes is not the document's")
	}
}

func TestBoxOkAtEdges(t *testing.T) {
	for _, b := range []impl.ProbeBox{
		{},
		{X: 15}, {Y: 15}, {X: 15, Y: 15},
		{High: 6}, {Low: 6, High: 6}, {Low: 3, High: 3},
		{Out: 10000}, {In: 10000, Out: 10000}, {In: 4, Out: 4},
		{X: 15, Y: 15, Low: 0, High: 6, In: 0, Out: 10000},
	} {
		if !impl.ProbeBoxOk(b) {
			t.Errorf("ok, but refused: %+v", b)
		}
	}
	for _, b := range badBoxes() {
		if impl.ProbeBoxOk(b) {
			t.Errorf("not ok, but taken: %+v", b)
		}
	}
}

// Every field takes each value at an edge, two fields at a time.
func TestBoxOkByDefinition(t *testing.T) {
	values := []int{math.MinInt, math.MinInt + 1, -1, 0, 1, 5, 6, 7, 15, 16, 9999, 10000, 10001, math.MaxInt - 1, math.MaxInt}
	base := impl.ProbeBox{X: 7, Y: 8, Low: 2, High: 4, In: 3, Out: 6000}
	for f := range 6 {
		for g := range 6 {
			for _, v := range values {
				for _, w := range values {
					b := withField(withField(base, f, v), g, w)
					if impl.ProbeBoxOk(b) != boxOk(b) {
						t.Fatalf("%+v: %v", b, !boxOk(b))
					}
				}
			}
		}
	}
}

// holdClose holds ProbeClose against the definition, both ways round (P1).
func holdClose(t *testing.T, a impl.ProbeBox, b impl.ProbeBox) {
	t.Helper()
	want, near := firstNear(a, b)
	if tick, ok := impl.ProbeClose(a, b); tick != want || ok != near {
		t.Fatalf("%+v and %+v: %d %v, not %d %v", a, b, tick, ok, want, near)
	}
	if tick, ok := impl.ProbeClose(b, a); tick != want || ok != near {
		t.Fatalf("the other way round, %+v and %+v: %d %v, not %d %v", b, a, tick, ok, want, near)
	}
}

func TestCloseInEveryCell(t *testing.T) {
	for _, at := range [][2]int{{0, 0}, {15, 15}, {0, 15}, {7, 8}, {1, 14}} {
		a := impl.ProbeBox{X: at[0], Y: at[1], High: 6, In: 2, Out: 4}
		for x := range impl.ProbeMaxSide {
			for y := range impl.ProbeMaxSide {
				holdClose(t, a, impl.ProbeBox{X: x, Y: y, High: 6, In: 1, Out: 3})
			}
		}
	}
}

func TestCloseJustApart(t *testing.T) {
	a := impl.ProbeBox{X: 8, Y: 8, Low: 1, High: 1, In: 7, Out: 7}
	for _, c := range []struct {
		x, y int
		near bool
	}{
		{9, 8, true}, {7, 8, true}, {8, 9, true}, {8, 7, true}, {9, 9, true}, {7, 7, true}, {9, 7, true}, {7, 9, true},
		{10, 8, false}, {6, 8, false}, {8, 10, false}, {8, 6, false}, {10, 9, false}, {7, 6, false}, {9, 10, false}, {6, 7, false},
	} {
		b := a
		b.X, b.Y = c.x, c.y
		tick, near := impl.ProbeClose(a, b)
		if near != c.near || near && tick != 7 || !near && tick != 0 {
			t.Errorf("%d %d: %d %v", c.x, c.y, tick, near)
		}
		holdClose(t, a, b)
	}
}

func TestCloseOnEveryLevel(t *testing.T) {
	var spans [][2]int
	for low := 0; low <= impl.ProbeMaxLevel; low++ {
		for high := low; high <= impl.ProbeMaxLevel; high++ {
			spans = append(spans, [2]int{low, high})
		}
	}
	for _, p := range spans {
		for _, q := range spans {
			holdClose(t,
				impl.ProbeBox{X: 3, Y: 3, Low: p[0], High: p[1], In: 1, Out: 2},
				impl.ProbeBox{X: 4, Y: 2, Low: q[0], High: q[1], In: 2, Out: 3})
		}
	}
}

func TestCloseAtTicks(t *testing.T) {
	for _, c := range []struct {
		in, out, otherIn, otherOut int
		tick                       int
		near                       bool
	}{
		{5, 9, 9, 12, 9, true}, {5, 9, 10, 12, 0, false},
		{5, 9, 1, 5, 5, true}, {5, 9, 1, 4, 0, false},
		{5, 9, 6, 7, 6, true}, {5, 9, 5, 9, 5, true},
		{0, 0, 0, 0, 0, true}, {0, 0, 1, 1, 0, false}, {0, 10000, 0, 10000, 0, true},
		{10000, 10000, 0, 10000, 10000, true}, {10000, 10000, 0, 9999, 0, false},
	} {
		a := impl.ProbeBox{X: 2, Y: 2, Low: 2, High: 4, In: c.in, Out: c.out}
		b := impl.ProbeBox{X: 2, Y: 3, Low: 4, High: 5, In: c.otherIn, Out: c.otherOut}
		if tick, near := impl.ProbeClose(a, b); tick != c.tick || near != c.near {
			t.Errorf("%+v: %d %v", c, tick, near)
		}
		holdClose(t, a, b)
	}
}

func TestCloseByDefinition(t *testing.T) {
	d := dice()
	for range 3000 {
		holdClose(t, pickBox(d, 3, 12), pickBox(d, 3, 12))
	}
	for range 500 {
		holdClose(t, pickBox(d, 4, impl.ProbeMaxTick), pickBox(d, 4, impl.ProbeMaxTick))
	}
}

// A box that is not ok is near to nothing, whatever a difference that wraps round would say.
func TestCloseOfWrongBoxes(t *testing.T) {
	bad := badBoxes()
	all := append([]impl.ProbeBox{{X: 3, Y: 3, Low: 1, High: 2, In: 5, Out: 9}, {High: 6, Out: 10000}, {X: 15, Y: 15, High: 6, Out: 10000}}, bad...)
	for _, b := range bad {
		for _, a := range all {
			if tick, near := impl.ProbeClose(a, b); tick != 0 || near {
				t.Errorf("%+v and %+v: %d %v", a, b, tick, near)
			}
			if tick, near := impl.ProbeClose(b, a); tick != 0 || near {
				t.Errorf("%+v and %+v: %d %v", b, a, tick, near)
			}
		}
	}
}
