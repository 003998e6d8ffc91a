package impl

// Limits of tubes.
const (
	ProbeMaxName  = 8
	ProbeMaxBoxes = 40
	ProbeMaxTubes = 24
)

// ProbeTube is where and when somebody may be.
type ProbeTube struct {
	Name  string
	Boxes []ProbeBox
}

// ProbeTubeOk says whether a tube is ok.
func ProbeTubeOk(t ProbeTube) bool {
	// Sizes come first, so that nothing is gone through that is too long anyway.
	return passes(tubeOf(t), []func(tube) bool{nameSizeOk, boxCountOk, nameBytesOk, boxesOk})
}

// ProbeSkyOk says whether tubes are ok together.
func ProbeSkyOk(list []ProbeTube) bool {
	return passes(list, []func([]ProbeTube) bool{tubeCountOk, tubesOk, namesAscend})
}

// ProbeCut is a tube from a tick on.
func ProbeCut(t ProbeTube, from int) ProbeTube {
	if !ProbeTubeOk(t) {
		return ProbeTube{}
	}
	return ProbeTube{Name: t.Name, Boxes: tubeOf(t).from(from)}
}

// ProbeSmaller says whether a tube is within another one.
func ProbeSmaller(a ProbeTube, b ProbeTube) bool {
	return ProbeTubeOk(a) && ProbeTubeOk(b) && tubeOf(a).within(tubeOf(b).boxList)
}

// boxList is the boxes of one tube.
type boxList []ProbeBox

// tube is a ProbeTube that can be asked what its boxes are asked.
type tube struct {
	name string
	boxList
}

func tubeOf(t ProbeTube) tube {
	return tube{name: t.Name, boxList: t.Boxes}
}

// allOk says whether each of the boxes is ok.
func (l boxList) allOk() bool {
	for _, b := range l {
		if !ProbeBoxOk(b) {
			return false
		}
	}
	return true
}

// from is what is left of the boxes from a tick on.
func (l boxList) from(start int) boxList {
	var left boxList
	for _, b := range l {
		if b.Out >= start {
			b.In = max(b.In, start)
			left = append(left, b)
		}
	}
	return left
}

// within says whether each of the boxes is within one of the others.
func (l boxList) within(others boxList) bool {
	for _, b := range l {
		if !others.hold(b) {
			return false
		}
	}
	return true
}

// hold says whether the box is within a single one of these: several that hold it
// only together do not count.
func (l boxList) hold(b ProbeBox) bool {
	for _, outer := range l {
		if boxWithin(b, outer) {
			return true
		}
	}
	return false
}

func boxWithin(inner ProbeBox, outer ProbeBox) bool {
	return inner.X == outer.X && inner.Y == outer.Y &&
		levelsOf(inner).liesIn(levelsOf(outer)) &&
		ticksOf(inner).liesIn(ticksOf(outer))
}

// passes says whether a value passes each of the checks; those behind the first that
// fails are not run, so that they may count on it.
func passes[T any](value T, checks []func(T) bool) bool {
	for _, check := range checks {
		if !check(value) {
			return false
		}
	}
	return true
}

func nameSizeOk(t tube) bool {
	return 1 <= len(t.name) && len(t.name) <= ProbeMaxName
}

func boxCountOk(t tube) bool {
	return len(t.boxList) <= ProbeMaxBoxes
}

func nameBytesOk(t tube) bool {
	for i := 0; i < len(t.name); i++ {
		if !nameByteOk(t.name[i]) {
			return false
		}
	}
	return true
}

func nameByteOk(c byte) bool {
	return 'a' <= c && c <= 'z' || '0' <= c && c <= '9' || c == '-'
}

func boxesOk(t tube) bool {
	return t.allOk()
}

func tubeCountOk(list []ProbeTube) bool {
	return len(list) <= ProbeMaxTubes
}

func tubesOk(list []ProbeTube) bool {
	for _, t := range list {
		if !ProbeTubeOk(t) {
			return false
		}
	}
	return true
}

func namesAscend(list []ProbeTube) bool {
	for i := 1; i < len(list); i++ {
		if list[i-1].Name >= list[i].Name {
			return false
		}
	}
	return true
}
