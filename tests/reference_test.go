package tests

import (
	"fmt"
	"math"
	"math/rand/v2"
	"regexp"
	"slices"
	"strconv"
	"strings"

	"loop.example/lapprobe/impl"
)

// What the document says, written down as it says it and not as the program does it.

func boxOk(b impl.ProbeBox) bool {
	return 0 <= b.X && b.X <= 15 && 0 <= b.Y && b.Y <= 15 &&
		0 <= b.Low && b.Low <= b.High && b.High <= 6 &&
		0 <= b.In && b.In <= b.Out && b.Out <= 10000
}

func lessThanTwoApart(p int, q int) bool {
	return p == q || p == q+1 || p+1 == q
}

func levelInCommon(a impl.ProbeBox, b impl.ProbeBox) bool {
	for level := 0; level <= 6; level++ {
		if a.Low <= level && level <= a.High && b.Low <= level && level <= b.High {
			return true
		}
	}
	return false
}

// nearAt says whether two boxes that are ok come too near at a tick.
func nearAt(a impl.ProbeBox, b impl.ProbeBox, tick int) bool {
	return a.In <= tick && tick <= a.Out && b.In <= tick && tick <= b.Out &&
		lessThanTwoApart(a.X, b.X) && lessThanTwoApart(a.Y, b.Y) && levelInCommon(a, b)
}

// firstNear is the first tick of all at which two boxes come too near.
func firstNear(a impl.ProbeBox, b impl.ProbeBox) (int, bool) {
	if !boxOk(a) || !boxOk(b) {
		return 0, false
	}
	for tick := 0; tick <= 10000; tick++ {
		if nearAt(a, b, tick) {
			return tick, true
		}
	}
	return 0, false
}

// tubesNearAt says whether any boxes of two tubes come too near at a tick, by the definition.
func tubesNearAt(a impl.ProbeTube, b impl.ProbeTube, tick int) bool {
	for _, p := range a.Boxes {
		for _, q := range b.Boxes {
			if nearAt(p, q, tick) {
				return true
			}
		}
	}
	return false
}

// firstMeet goes from tick to tick, and at each one over all pairs of boxes of two tubes that are ok.
func firstMeet(a impl.ProbeTube, b impl.ProbeTube) (impl.ProbeClash, bool) {
	for tick := 0; tick <= 10000; tick++ {
		for i, p := range a.Boxes {
			for j, q := range b.Boxes {
				if nearAt(p, q, tick) {
					return impl.ProbeClash{A: a.Name, B: b.Name, Tick: tick, I: i, J: j}, true
				}
			}
		}
	}
	return impl.ProbeClash{}, false
}

func boxWithin(a impl.ProbeBox, b impl.ProbeBox) bool {
	return a.X == b.X && a.Y == b.Y &&
		b.Low <= a.Low && a.Low <= b.High && b.Low <= a.High && a.High <= b.High &&
		b.In <= a.In && a.In <= b.Out && b.In <= a.Out && a.Out <= b.Out
}

// tubeWithin says of two tubes that are ok whether each box of a is within one of b.
func tubeWithin(a impl.ProbeTube, b impl.ProbeTube) bool {
	for _, p := range a.Boxes {
		if !slices.ContainsFunc(b.Boxes, func(q impl.ProbeBox) bool { return boxWithin(p, q) }) {
			return false
		}
	}
	return true
}

// indexBy is the index of tubes that are ok together: it goes from cell to cell, and takes
// of the boxes there the least one that is left.
func indexBy(list []impl.ProbeTube) impl.ProbeIndex {
	var x impl.ProbeIndex
	for at := range 256 {
		slots := slotsIn(list, at/16, at%16)
		if len(slots) == 0 {
			continue
		}
		cell := impl.ProbeCell{X: at / 16, Y: at % 16}
		for len(slots) > 0 {
			least := 0
			for i := range slots {
				if slotAhead(slots[i], slots[least]) {
					least = i
				}
			}
			cell.Slots = append(cell.Slots, slots[least])
			slots = slices.Delete(slots, least, least+1)
		}
		x.Cells = append(x.Cells, cell)
	}
	return x
}

func slotsIn(list []impl.ProbeTube, x int, y int) []impl.ProbeSlot {
	var slots []impl.ProbeSlot
	for _, t := range list {
		for at, b := range t.Boxes {
			if b.X == x && b.Y == y {
				slots = append(slots, impl.ProbeSlot{In: b.In, Out: b.Out, Low: b.Low, High: b.High, Name: t.Name, At: at})
			}
		}
	}
	return slots
}

func slotAhead(p impl.ProbeSlot, q impl.ProbeSlot) bool {
	if p.In != q.In {
		return p.In < q.In
	}
	if p.Name != q.Name {
		return p.Name < q.Name
	}
	return p.At < q.At
}

// askBy is what an index, as it is, tells of a tube that is ok: for each name but its own
// the least of all its clashes.
func askBy(x impl.ProbeIndex, t impl.ProbeTube) []impl.ProbeClash {
	var clashes []impl.ProbeClash
	for _, name := range namesIn(x) {
		all := clashesWith(x, t, name)
		if name == t.Name || len(all) == 0 {
			continue
		}
		clashes = append(clashes, slices.MinFunc(all, func(p impl.ProbeClash, q impl.ProbeClash) int {
			return slices.Compare([]int{p.Tick, p.I, p.J}, []int{q.Tick, q.I, q.J})
		}))
	}
	return clashes
}

func namesIn(x impl.ProbeIndex) []string {
	var names []string
	for _, cell := range x.Cells {
		for _, slot := range cell.Slots {
			names = append(names, slot.Name)
		}
	}
	slices.Sort(names)
	return slices.Compact(names)
}

// clashesWith is all clashes of a tube and the boxes of a name, by ProbeClose.
func clashesWith(x impl.ProbeIndex, t impl.ProbeTube, name string) []impl.ProbeClash {
	var all []impl.ProbeClash
	for i, b := range t.Boxes {
		for _, cell := range x.Cells {
			for _, slot := range cell.Slots {
				other := impl.ProbeBox{X: cell.X, Y: cell.Y, Low: slot.Low, High: slot.High, In: slot.In, Out: slot.Out}
				if tick, near := impl.ProbeClose(b, other); near && slot.Name == name {
					all = append(all, impl.ProbeClash{A: t.Name, B: name, Tick: tick, I: i, J: slot.At})
				}
			}
		}
	}
	return all
}

// happenBy is the tubes behind an event, and the code, in the order of the document's words.
func happenBy(list []impl.ProbeTube, e impl.ProbeEvent) ([]impl.ProbeTube, int) {
	if !impl.ProbeSkyOk(list) {
		return nil, 1
	}
	if !e.Drop && !impl.ProbeTubeOk(e.Tube) {
		return list, 2
	}
	var behind []impl.ProbeTube
	for _, t := range list {
		if t.Name != e.Tube.Name {
			behind = append(behind, t)
		}
	}
	none := len(behind) == len(list)
	if e.Drop && none {
		return list, 3
	}
	if e.Drop {
		return behind, 0
	}
	if none && len(list) == 24 {
		return list, 4
	}
	behind = append(behind, e.Tube)
	for i := len(behind) - 1; i > 0 && behind[i].Name < behind[i-1].Name; i-- {
		behind[i], behind[i-1] = behind[i-1], behind[i]
	}
	return behind, 0
}

// forms are the lines of the document's table.
var forms = map[string]*regexp.Regexp{}

func init() {
	words := strings.NewReplacer("NAME", "([^ ]*)", "N", "(0|[1-9][0-9]{0,4})")
	for _, form := range []string{"tube NAME", "box N N N N N N", "put", "drop NAME", "all", "with", "free", "meet NAME NAME", "cut N"} {
		forms[form] = regexp.MustCompile(`\A` + words.Replace(form) + `\z`)
	}
}

// formOf is the form that a line has, if it has one, and the words of it that are NAME or N.
func formOf(line string) (string, []string) {
	for form, pattern := range forms {
		if found := pattern.FindStringSubmatch(line); found != nil {
			return form, found[1:]
		}
	}
	return "", nil
}

// teller is a session that goes by the document's table, line by line.
type teller struct {
	tubes []impl.ProbeTube
	hand  impl.ProbeTube
}

func (s *teller) answer(line string) string {
	form, words := formOf(line)
	var n []int
	for _, word := range words {
		number, _ := strconv.Atoi(word)
		n = append(n, number)
	}
	switch form {
	case "tube NAME":
		s.hand = impl.ProbeTube{Name: words[0]}
		return "ok"
	case "box N N N N N N":
		box := impl.ProbeBox{X: n[0], Y: n[1], Low: n[2], High: n[3], In: n[4], Out: n[5]}
		if !boxOk(box) || len(s.hand.Boxes) == 40 {
			return "no"
		}
		s.hand.Boxes = append(slices.Clip(s.hand.Boxes), box)
		return "ok"
	case "put":
		return s.happen(impl.ProbeEvent{Tube: s.hand})
	case "drop NAME":
		return s.happen(impl.ProbeEvent{Drop: true, Tube: impl.ProbeTube{Name: words[0]}})
	case "all":
		return tellClashes("none", everyPair(s.tubes)...)
	case "with":
		return tellClashes("none", everyOther(s.tubes, s.hand)...)
	case "free":
		if impl.ProbeTubeOk(s.hand) && len(everyOther(s.tubes, s.hand)) == 0 {
			return "yes"
		}
		return "no"
	case "meet NAME NAME":
		return s.meet(words[0], words[1])
	case "cut N":
		s.hand = impl.ProbeCut(s.hand, n[0])
		return strconv.Itoa(len(s.hand.Boxes))
	}
	return "bad"
}

func (s *teller) happen(e impl.ProbeEvent) string {
	behind, code := happenBy(s.tubes, e)
	s.tubes = behind
	return "code " + strconv.Itoa(code)
}

func (s *teller) meet(a string, b string) string {
	var p, q *impl.ProbeTube
	for i, t := range s.tubes {
		if t.Name == a {
			p = &s.tubes[i]
		}
		if t.Name == b {
			q = &s.tubes[i]
		}
	}
	if p == nil || q == nil {
		return "none"
	}
	if clash, near := impl.ProbeMeet(*p, *q); near {
		return tellClashes("", clash)
	}
	return "never"
}

func tellClashes(none string, clashes ...impl.ProbeClash) string {
	told := ""
	for i, c := range clashes {
		if i > 0 {
			told += " "
		}
		told += fmt.Sprintf("%s/%s@%d:%d,%d", c.A, c.B, c.Tick, c.I, c.J)
	}
	if told == "" {
		return none
	}
	return told
}

// linesIn takes line after line from a text until nothing is left.
func linesIn(text string) []string {
	var lines []string
	for text != "" {
		line, rest, _ := strings.Cut(text, "\n")
		lines, text = append(lines, line), rest
	}
	return lines
}

// sessionBy is what a session is answered by the table.
func sessionBy(text string) string {
	lines := linesIn(text)
	if len(text) > 20000 || len(lines) > 400 {
		return "too long\n"
	}
	var s teller
	var told strings.Builder
	for _, line := range lines {
		told.WriteString(s.answer(line) + "\n")
	}
	return told.String()
}

// sameTube takes the empty list and the nil list for the same.
func sameTube(a impl.ProbeTube, b impl.ProbeTube) bool {
	return a.Name == b.Name && slices.Equal(a.Boxes, b.Boxes)
}

func sameSky(a []impl.ProbeTube, b []impl.ProbeTube) bool {
	return slices.EqualFunc(a, b, sameTube)
}

func sameCell(a impl.ProbeCell, b impl.ProbeCell) bool {
	return a.X == b.X && a.Y == b.Y && slices.Equal(a.Slots, b.Slots)
}

func sameIndex(a impl.ProbeIndex, b impl.ProbeIndex) bool {
	return slices.EqualFunc(a.Cells, b.Cells, sameCell)
}

func isNothing(t impl.ProbeTube) bool {
	return t.Name == "" && len(t.Boxes) == 0
}

// dice are the same ones at each run.
func dice() *rand.Rand {
	return rand.New(rand.NewPCG(20, 26))
}

func pickSpan(d *rand.Rand, least int, most int) (int, int) {
	p := least + d.IntN(most-least+1)
	q := least + d.IntN(most-least+1)
	return min(p, q), max(p, q)
}

// pickBox is an ok box in few cells and ticks, so that two of them often meet.
func pickBox(d *rand.Rand, side int, ticks int) impl.ProbeBox {
	low, high := pickSpan(d, 0, 6)
	in, out := pickSpan(d, 0, ticks)
	return impl.ProbeBox{X: d.IntN(side), Y: d.IntN(side), Low: low, High: high, In: in, Out: out}
}

func pickTube(d *rand.Rand, name string, boxes int, side int, ticks int) impl.ProbeTube {
	t := impl.ProbeTube{Name: name}
	for range boxes {
		t.Boxes = append(t.Boxes, pickBox(d, side, ticks))
	}
	return t
}

// badBoxes are boxes that are not ok, each by one field or by two that are out of order.
func badBoxes() []impl.ProbeBox {
	good := impl.ProbeBox{X: 3, Y: 3, Low: 1, High: 2, In: 5, Out: 9}
	var bad []impl.ProbeBox
	for _, wrong := range []int{math.MinInt, math.MinInt + 1, -1, math.MaxInt - 1, math.MaxInt} {
		for field := range 6 {
			bad = append(bad, withField(good, field, wrong))
		}
	}
	return append(bad,
		withField(good, 0, 16), withField(good, 1, 16),
		withField(good, 3, 7), withField(good, 5, 10001),
		withField(good, 2, 3), withField(good, 3, 0),
		withField(good, 4, 10), withField(good, 5, 4),
		impl.ProbeBox{X: 3, Y: 3, Low: 7, High: 7, In: 5, Out: 9},
		impl.ProbeBox{X: 3, Y: 3, Low: 1, High: 2, In: 10001, Out: 10001},
		impl.ProbeBox{X: math.MinInt, Y: math.MaxInt, Low: math.MinInt, High: math.MaxInt, In: math.MinInt, Out: math.MaxInt},
		impl.ProbeBox{X: math.MaxInt, Y: math.MinInt, Low: math.MaxInt, High: math.MinInt, In: math.MaxInt, Out: math.MinInt},
	)
}

func withField(b impl.ProbeBox, field int, value int) impl.ProbeBox {
	*[]*int{&b.X, &b.Y, &b.Low, &b.High, &b.In, &b.Out}[field] = value
	return b
}
