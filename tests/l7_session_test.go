package tests

import (
	"fmt"
	"math/rand/v2"
	"slices"
	"strings"
	"sync"
	"testing"
	"testing/synctest"

	"loop.example/lapprobe/impl"
)

func holdSession(t *testing.T, text string, want string) {
	t.Helper()
	if got := impl.ProbeSession(text); got != want {
		t.Errorf("%.300q:\n%.300q, not\n%.300q", text, got, want)
	}
}

// holdTalk plays a session of lines, each with its answer behind it.
func holdTalk(t *testing.T, talk ...string) {
	t.Helper()
	var text, want strings.Builder
	for i := 0; i < len(talk); i += 2 {
		text.WriteString(talk[i] + "\n")
		want.WriteString(talk[i+1] + "\n")
	}
	got := impl.ProbeSession(text.String())
	if got == want.String() {
		return
	}
	for i, answer := range linesIn(got) {
		if 2*i+1 >= len(talk) || answer != talk[2*i+1] {
			t.Errorf("line %d of %.300q: %.300q", i, text.String(), answer)
			return
		}
	}
	t.Errorf("%.300q: %.300q", text.String(), got)
}

// repeated is a line and its answer, so many times.
func repeated(times int, line string, answer string) []string {
	return slices.Repeat([]string{line, answer}, times)
}

func TestLimitsOfSessions(t *testing.T) {
	if impl.ProbeMaxSession != 20000 || impl.ProbeMaxLines != 400 {
		t.Error("other limits than the document's")
	}
}

func TestSessionOfTheDocument(t *testing.T) {
	text := `tube a
box 1 1 1 2 5 9
box 2 2 2 3 8 14
put
tube b
box 3 3 3 3 12 20
box 2 1 1 1 9 11
with
put
tube c
box 4 4 0 6 20 21
free
put
all
cut 21
with
meet b c
drop a
all
meet a b
box 1 1 1 0 1 1
what
`
	want := `ok
ok
ok
code 0
ok
ok
ok
b/a@9:1,0
code 0
ok
ok
no
code 0
a/b@9:0,1 b/c@20:0,0
1
none
b/c@20:0,0
code 0
b/c@20:0,0
none
no
bad
`
	holdSession(t, text, want)
	holdSession(t, strings.TrimSuffix(text, "\n"), want)
}

func TestSessionLines(t *testing.T) {
	for _, c := range [][2]string{
		{"", ""},
		{"\n", "bad\n"},
		{"\n\n", "bad\nbad\n"},
		{"\n\n\n\n\n", "bad\nbad\nbad\nbad\nbad\n"},
		{"all", "none\n"},
		{"all\n", "none\n"},
		{"all\n\n", "none\nbad\n"},
		{"\nall", "bad\nnone\n"},
		{"all\nput", "none\ncode 2\n"},
		{"all\nput\n", "none\ncode 2\n"},
		{"all\n\nput\n", "none\nbad\ncode 2\n"},
		{" ", "bad\n"},
		{" \n", "bad\n"},
		{"all\n ", "none\nbad\n"},
	} {
		holdSession(t, c[0], c[1])
	}
}

// Nothing but a newline ends a line, and nothing but a space ends a word.
func TestSessionOtherSpaces(t *testing.T) {
	for _, other := range []string{"\r", "\t", "\v", "\f", "\x00", "\u00a0", "\u0085", "\u2028", "\xff", "\xa0"} {
		holdSession(t, "all"+other, "bad\n")
		holdSession(t, other+"all", "bad\n")
		holdSession(t, "all"+other+"\nall\n", "bad\nnone\n")
		holdSession(t, "all"+other+"all\n", "bad\n")
		holdSession(t, "all\n"+other, "none\nbad\n")
		holdTalk(t, "tube"+other+"a", "bad", "tube a"+other, "ok", "put", "code 2", "tube a"+other+"b", "ok", "put", "code 2", "tube "+other, "ok", "put", "code 2")
		holdTalk(t, "box 0 0 0 0 0"+other+"0", "bad", "box 0 0 0 0 0 0"+other, "bad", "cut 0"+other, "bad", "cut"+other+"0", "bad", "cut "+other+"0", "bad")
		holdTalk(t, "tube a", "ok", "put", "code 0", "drop a"+other, "code 3", "drop"+other+"a", "bad", "meet a a"+other, "none", "meet a"+other+"a", "bad", "drop a", "code 0")
	}
	holdSession(t, "all\r\nput\r\n", "bad\nbad\n")
}

// manners are the lines of the table, each right as it stands.
func manners() []string {
	return []string{"tube a", "box 1 1 1 2 5 9", "put", "drop a", "all", "with", "free", "meet a b", "cut 7"}
}

func TestSessionWords(t *testing.T) {
	for _, line := range manners() {
		if impl.ProbeSession(line) == "bad\n" {
			t.Errorf("%q is bad", line)
		}
		command, rest, many := strings.Cut(line, " ")
		wrong := []string{
			" " + line, "  " + line, line + "  ", line + " x y z",
			strings.ToUpper(command) + strings.TrimPrefix(line, command),
			strings.ToUpper(command[:1]) + line[1:],
			line[1:], command + command, command + "x", "x" + line, "x " + line, "\x00" + line, "\ufeff" + line, `"` + command + `" ` + rest,
		}
		if many {
			wrong = append(wrong, command, command+rest, command+"  "+rest+" x", command+"\n"+rest)
		}
		for i := range len(command) {
			wrong = append(wrong, command[:i]+" "+line[i:], command[:i]+line[i+1:])
		}
		for _, w := range wrong {
			holdSession(t, w, strings.Repeat("bad\n", len(linesIn(w))))
		}
	}
	for _, line := range []string{"put ", "all ", "with ", "free ", "put x", "all all", "with a", "free a", "put 1", "all 0"} {
		holdSession(t, line, "bad\n")
	}
	for _, line := range []string{"tube", "tube a b", "tube  a", "tube a ", "tube  ", "drop", "drop a b", "drop  a", "drop a ", "drop  "} {
		holdSession(t, line, "bad\n")
	}
	for _, line := range []string{"meet", "meet a", "meet ", "meet a b c", "meet  a b", "meet a  b", "meet a b ", "meet   "} {
		holdSession(t, line, "bad\n")
	}
	for _, line := range []string{"box", "box ", "box 1 1 1 2 5", "box 1 1 1 2 5 9 9", "box  1 1 1 2 5 9", "box 1 1 1  2 5 9", "box 1 1 1 2 5 9 ", "box 1 1 1 2 5 ", "box      ", "box 111259", "box 1,1,1,2,5,9"} {
		holdSession(t, line, "bad\n")
	}
	for _, line := range []string{"cut", "cut ", "cut 1 1", "cut  1", "cut 1 ", "cut  ", "cut a"} {
		holdSession(t, line, "bad\n")
	}
	for _, line := range []string{"", " ", "what", "a", "0", "code 0", "ok", "bad", "none", "never", "quit", "tubes a", "tub a", "ask", "happen", "index"} {
		holdSession(t, line+"\n", "bad\n")
	}
}

// notNumbers are words that are no N, though some of them are numbers elsewhere.
func notNumbers() []string {
	return []string{
		"", "00", "01", "007", "000", "00000", "00001", "000001", "010", "100000", "000000", "123456", "999999",
		"99999999999999999999", "18446744073709551616", "18446744073709551617", "4294967297", strings.Repeat("9", 1000),
		"-1", "-0", "+1", "+0", "-", "+", "--1", "1-", "1+", "a", "x1", "1x", "1a", "0x1", "0b1", "0o1", "1e1", "1.", "1.0", ".1", "1,0", "1_0", "_1", "1_",
		"inf", "nan", "one", "\x00", "1\x00", "\x001", "/", ":", "1/", "1:", "\xb1", "\xff", "1\xff",
		"\u0661", "\uff11", "\u0967", "\u00b2", "\u00b9", "\U0001d7cf", "1\u0661", "\u2460",
	}
}

func boxLine(n ...any) string {
	return strings.TrimSuffix("box "+fmt.Sprintln(n...), "\n")
}

func TestSessionNumbers(t *testing.T) {
	for _, word := range notNumbers() {
		for at := range 6 {
			words := []any{"1", "1", "1", "2", "5", "9"}
			words[at] = word
			holdTalk(t, "tube a", "ok", boxLine(words...), "bad", "cut 0", "0", boxLine(1, 1, 1, 2, 5, 9), "ok", boxLine(words...), "bad", "cut 0", "1")
			// A number that makes no ok box does not hide one that is none.
			words[(at+1)%6] = "99999"
			holdTalk(t, boxLine(words...), "bad")
		}
		holdTalk(t, "tube a", "ok", boxLine(0, 0, 0, 0, 0, 0), "ok", "cut "+word, "bad", "cut 0", "1")
	}
	// A full tube does not hide it either.
	full := append([]string{"tube a", "ok"}, repeated(40, "box 0 0 0 0 0 0", "ok")...)
	holdTalk(t, append(full, "box 0 0 0 0 0 01", "bad", "box 0 0 0 0 0 100000", "bad", "box 0 0 0 0 0", "bad", "box 0 0 0 0 0 0", "no")...)
}

// A number of this form that makes no ok box is no, and not bad.
func TestSessionBoxesThatAreNotOk(t *testing.T) {
	for _, c := range []struct {
		box  []any
		want string
	}{
		{[]any{0, 0, 0, 0, 0, 0}, "ok"}, {[]any{15, 15, 6, 6, 10000, 10000}, "ok"}, {[]any{0, 15, 0, 6, 0, 10000}, "ok"}, {[]any{15, 0, 3, 3, 7, 7}, "ok"},
		{[]any{16, 0, 0, 0, 0, 0}, "no"}, {[]any{0, 16, 0, 0, 0, 0}, "no"}, {[]any{0, 0, 0, 7, 0, 0}, "no"}, {[]any{0, 0, 7, 7, 0, 0}, "no"},
		{[]any{0, 0, 0, 0, 0, 10001}, "no"}, {[]any{0, 0, 0, 0, 10001, 10001}, "no"},
		{[]any{0, 0, 1, 0, 0, 0}, "no"}, {[]any{0, 0, 6, 5, 0, 0}, "no"}, {[]any{0, 0, 0, 0, 1, 0}, "no"}, {[]any{0, 0, 0, 0, 10000, 9999}, "no"},
		{[]any{99999, 0, 0, 0, 0, 0}, "no"}, {[]any{0, 99999, 0, 0, 0, 0}, "no"}, {[]any{0, 0, 99999, 0, 0, 0}, "no"},
		{[]any{0, 0, 0, 99999, 0, 0}, "no"}, {[]any{0, 0, 0, 0, 99999, 0}, "no"}, {[]any{0, 0, 0, 0, 0, 99999}, "no"},
		{[]any{99999, 99999, 99999, 99999, 99999, 99999}, "no"}, {[]any{10000, 10000, 10000, 10000, 10000, 10000}, "no"},
	} {
		many := map[string]string{"ok": "1", "no": "0"}[c.want]
		holdTalk(t, "tube a", "ok", boxLine(c.box...), c.want, "cut 0", many)
	}
}

// Each of the six numbers is the field that the table says.
func TestSessionFieldsOfABox(t *testing.T) {
	base := []int{3, 9, 2, 4, 20, 40}
	home := impl.ProbeTube{Name: "home", Boxes: []impl.ProbeBox{{X: 3, Y: 9, Low: 2, High: 4, In: 20, Out: 40}}}
	told, none := 0, 0
	for at := range 6 {
		for value := range 50 {
			n := slices.Clone(base)
			n[at] = value
			guest := impl.ProbeTube{Name: "guest", Boxes: []impl.ProbeBox{{X: n[0], Y: n[1], Low: n[2], High: n[3], In: n[4], Out: n[5]}}}
			if !boxOk(guest.Boxes[0]) {
				continue
			}
			want := "never"
			if clash, near := firstMeet(guest, home); near {
				want = tellClashes("", clash)
				told++
			} else {
				none++
			}
			holdTalk(t, "tube home", "ok", "box 3 9 2 4 20 40", "ok", "put", "code 0", "tube guest", "ok", boxLine(n[0], n[1], n[2], n[3], n[4], n[5]), "ok", "put", "code 0", "meet guest home", want)
		}
	}
	if told < 60 || none < 20 {
		t.Errorf("%d are near and %d are not: the boxes are badly picked", told, none)
	}
}

// oddNames are words that are no ok Names.
func oddNames() []string {
	return []string{"", "A", "abcdefghi", "a_b", "a/b", "\xff", "\x00", "a\r", "é", "a\t", strings.Repeat("a", 500), "Tube", "*", "a.b"}
}

func TestSessionNames(t *testing.T) {
	for _, name := range oddNames() {
		holdTalk(t, "tube "+name, "ok", "put", "code 2", "with", "none", "free", "no", "drop "+name, "code 3", "all", "none")
		holdTalk(t, "tube a", "ok", boxLine(1, 1, 1, 1, 1, 1), "ok", "put", "code 0", "meet "+name+" a", "none", "meet a "+name, "none", "drop "+name, "code 3", "meet a a", "a/a@1:0,0")
		holdTalk(t, "meet "+name+" "+name, "none")
	}
	for _, name := range []string{"a", "-", "0", "abcdefgh", "--------", "a-0", "tube", "box", "put", "all", "none", "bad", "00", "01"} {
		holdTalk(t, "tube "+name, "ok", boxLine(1, 1, 1, 1, 4, 4), "ok", "free", "yes", "meet "+name+" "+name, "none", "put", "code 0", "meet "+name+" "+name, name+"/"+name+"@4:0,0", "drop "+name, "code 0", "drop "+name, "code 3")
	}
}

func TestSessionBox(t *testing.T) {
	// Nothing is in hand at first; it takes boxes as well.
	first := repeated(40, "box 2 2 1 1 3 3", "ok")
	holdTalk(t, append(slices.Clone(first), "box 2 2 1 1 3 3", "no", "put", "code 2", "with", "none", "free", "no", "cut 0", "0", "box 2 2 1 1 3 3", "ok")...)
	// One more than ProbeMaxBoxes is not taken; what is not ok does not count.
	talk := append([]string{"tube a", "ok", "box 2 2 1 0 3 3", "no"}, first[:39*2]...)
	talk = append(talk, "box 16 0 0 0 0 0", "no", "box 5 5 0 0 0 0", "ok", "box 2 2 1 1 0 0", "no", "box 2 2 1 1 0 0", "no", "put", "code 0", "cut 0", "40", "meet a a", "a/a@0:39,39")
	// Behind tube there is room again.
	holdTalk(t, append(talk, "tube b", "ok", "cut 0", "0", "box 2 2 1 1 3 3", "ok", "cut 0", "1")...)
	// Behind a cut there is room for as many as went.
	talk = append([]string{"tube a", "ok"}, repeated(38, "box 2 2 1 1 3 3", "ok")...)
	talk = append(talk, "box 2 2 1 1 3 4", "ok", "box 2 2 1 1 5 5", "ok", "box 2 2 1 1 5 5", "no", "cut 4", "2")
	talk = append(talk, repeated(38, "box 9 9 1 1 3 3", "ok")...)
	holdTalk(t, append(talk, "box 2 2 1 1 5 5", "no", "cut 0", "40", "put", "code 0", "meet a a", "a/a@3:2,2")...)
}

// A box stands behind those that are there.
func TestSessionBoxesInTheirOrder(t *testing.T) {
	talk := []string{"tube p", "ok", "box 0 0 0 0 0 9", "ok", "put", "code 0", "tube a", "ok"}
	for at := range 20 {
		talk = append(talk, boxLine(0, 0, 0, 0, 40-2*at, 40-2*at), "ok")
		if 40-2*at <= 9 {
			talk = append(talk, "with", fmt.Sprintf("a/p@%d:%d,0", 40-2*at, at))
		} else {
			talk = append(talk, "with", "none")
		}
	}
	holdTalk(t, talk...)
}

func TestSessionTube(t *testing.T) {
	holdTalk(t,
		"tube a", "ok", "box 1 1 1 1 5 9", "ok", "tube a", "ok", "cut 0", "0", "put", "code 0", "meet a a", "never",
		"box 1 1 1 1 5 9", "ok", "tube b", "ok", "put", "code 0", "meet b b", "never", "meet a b", "never", "meet b a", "never")
}

func TestSessionPut(t *testing.T) {
	holdTalk(t, "put", "code 2", "box 1 1 1 1 1 1", "ok", "put", "code 2", "all", "none")
	holdTalk(t, "tube a", "ok", "put", "code 0", "put", "code 0", "box 1 1 1 1 7 9", "ok", "meet a a", "never", "put", "code 0", "meet a a", "a/a@7:0,0",
		"tube a", "ok", "box 1 1 1 1 3 3", "ok", "put", "code 0", "meet a a", "a/a@3:0,0", "tube A", "ok", "put", "code 2", "meet a a", "a/a@3:0,0")
	// They come in in order, whatever the order is in which they are put.
	holdTalk(t, "tube c", "ok", "box 1 1 1 1 1 9", "ok", "put", "code 0", "tube a", "ok", "box 1 1 1 1 2 9", "ok", "put", "code 0",
		"all", "a/c@2:0,0", "tube b", "ok", "box 1 1 1 1 4 9", "ok", "put", "code 0", "all", "a/b@4:0,0 a/c@2:0,0 b/c@4:0,0", "with", "b/a@4:0,0 b/c@4:0,0")
}

// fullTalk puts ProbeMaxTubes tubes, aa to ax.
func fullTalk() []string {
	var talk []string
	for _, tube := range manyTubes(impl.ProbeMaxTubes) {
		talk = append(talk, "tube "+tube.Name, "ok", "box 1 1 1 1 5 5", "ok", "put", "code 0")
	}
	return talk
}

func TestSessionPutWhenFull(t *testing.T) {
	full := fullTalk()
	last := manyTubes(impl.ProbeMaxTubes)[23].Name
	all := []string{}
	for i, p := range manyTubes(impl.ProbeMaxTubes) {
		for _, q := range manyTubes(impl.ProbeMaxTubes)[i+1:] {
			all = append(all, p.Name+"/"+q.Name+"@5:0,0")
		}
	}
	told := strings.Join(all, " ")
	holdTalk(t, append(full,
		"all", told, "tube zz", "ok", "put", "code 4", "all", told, "drop zz", "code 3", "meet zz aa", "none",
		"tube 0", "ok", "put", "code 4", "tube A", "ok", "put", "code 2", "put", "code 2",
		// One who is there may be put again; one who is put in the place of another one comes in.
		"tube aa", "ok", "put", "code 0", "meet aa "+last, "never",
		"tube zz", "ok", "box 1 1 1 1 4 6", "ok", "put", "code 4", "drop "+last, "code 0", "put", "code 0", "meet zz zz", "zz/zz@4:0,0", "drop zz", "code 0", "drop zz", "code 3")...)
}

func TestSessionDrop(t *testing.T) {
	holdTalk(t, "drop a", "code 3", "tube a", "ok", "drop a", "code 3", "box 1 1 1 1 5 9", "ok", "put", "code 0",
		"drop b", "code 3", "drop aa", "code 3", "drop", "bad", "drop a a", "bad", "meet a a", "a/a@5:0,0",
		"drop a", "code 0", "meet a a", "none", "drop a", "code 3",
		// What is in hand stays there.
		"cut 0", "1", "put", "code 0", "meet a a", "a/a@5:0,0")
	holdTalk(t, "tube a", "ok", "box 1 1 1 1 5 9", "ok", "put", "code 0", "tube b", "ok", "box 1 1 1 1 6 9", "ok", "put", "code 0", "tube c", "ok", "box 1 1 1 1 7 9", "ok", "put", "code 0",
		"all", "a/b@6:0,0 a/c@7:0,0 b/c@7:0,0", "drop b", "code 0", "all", "a/c@7:0,0", "with", "c/a@7:0,0", "drop a", "code 0", "all", "none", "with", "none", "free", "yes", "meet c c", "c/c@7:0,0")
}

func TestSessionAllWithFree(t *testing.T) {
	// No tubes; nothing, or one who is not ok, in hand.
	holdTalk(t, "all", "none", "with", "none", "free", "no", "tube a", "ok", "all", "none", "with", "none", "free", "yes", "box 1 1 1 1 1 1", "ok", "with", "none", "free", "yes",
		"tube A", "ok", "box 1 1 1 1 1 1", "ok", "all", "none", "with", "none", "free", "no")
	// Some tubes.
	some := []string{"tube p", "ok", "box 1 1 1 1 1 90", "ok", "put", "code 0", "tube q", "ok", "box 2 2 1 1 50 80", "ok", "box 9 9 1 1 50 80", "ok", "put", "code 0"}
	holdTalk(t, append(some, "all", "p/q@50:0,0", "with", "q/p@50:0,0", "free", "no",
		"tube Q", "ok", "box 1 1 1 1 1 1", "ok", "all", "p/q@50:0,0", "with", "none", "free", "no",
		"tube r", "ok", "with", "none", "free", "yes", "box 15 15 1 1 50 80", "ok", "with", "none", "free", "yes",
		"box 9 8 0 6 70 80", "ok", "with", "r/q@70:1,1", "free", "no", "box 0 0 0 6 80 80", "ok", "with", "r/p@80:2,0 r/q@70:1,1", "free", "no",
		"all", "p/q@50:0,0", "put", "code 0", "all", "p/q@50:0,0 p/r@80:0,2 q/r@70:1,1",
		// Who has the name of one of them is not near to that one.
		"tube p", "ok", "box 1 1 1 1 80 90", "ok", "with", "p/q@80:0,0 p/r@80:0,2", "box 14 15 0 6 60 60", "ok", "with", "p/q@80:0,0 p/r@60:1,0")...)
}

func TestSessionMeet(t *testing.T) {
	holdTalk(t, "meet a b", "none", "tube a", "ok", "box 3 3 1 1 7 20", "ok", "meet a a", "none", "put", "code 0", "meet a b", "none", "meet b a", "none", "meet b b", "none", "meet a a", "a/a@7:0,0",
		"tube b", "ok", "box 9 9 1 1 0 99", "ok", "meet a b", "none", "meet b a", "none", "put", "code 0", "meet a b", "never", "meet b a", "never", "meet b b", "b/b@0:0,0",
		"box 4 4 0 1 9 9", "ok", "meet a b", "never", "put", "code 0", "meet a b", "a/b@9:0,1", "meet b a", "b/a@9:1,0",
		"tube c", "ok", "put", "code 0", "meet c c", "never", "meet a c", "never", "meet c a", "never", "drop b", "code 0", "meet a b", "none", "meet b a", "none", "meet a a", "a/a@7:0,0")
}

func TestSessionCut(t *testing.T) {
	base := []string{"tube p", "ok", "box 1 1 0 6 0 10000", "ok", "put", "code 0", "tube a", "ok", "box 1 1 1 1 5 9", "ok", "box 1 1 1 1 3 10000", "ok", "box 1 1 1 1 9 9", "ok"}
	for _, c := range [][]string{
		{"cut 0", "3", "with", "a/p@3:1,0"},
		{"cut 3", "3", "with", "a/p@3:1,0"},
		{"cut 4", "3", "with", "a/p@4:1,0"},
		{"cut 6", "3", "with", "a/p@6:0,0"},
		{"cut 9", "3", "with", "a/p@9:0,0"},
		{"cut 10", "1", "with", "a/p@10:0,0"},
		{"cut 10000", "1", "with", "a/p@10000:0,0"},
		{"cut 10001", "0", "with", "none", "free", "yes", "put", "code 0", "meet a a", "never"},
		{"cut 99999", "0", "with", "none", "free", "yes", "put", "code 0", "drop a", "code 0"},
		{"cut 10", "1", "cut 0", "1", "with", "a/p@10:0,0", "cut 11", "1", "with", "a/p@11:0,0", "box 1 1 1 1 2 2", "ok", "with", "a/p@2:1,0", "cut 3", "1", "with", "a/p@11:0,0"},
		{"cut 100000", "bad", "cut 010", "bad", "cut -1", "bad", "cut", "bad", "cut 10 10", "bad", "with", "a/p@3:1,0"},
	} {
		holdTalk(t, append(slices.Clone(base), c...)...)
	}
	// Of one who is not ok it is nothing, which has no name and no boxes.
	holdTalk(t, "cut 0", "0", "cut 99999", "0", "put", "code 2")
	for _, name := range oddNames() {
		talk := append([]string{"tube " + name, "ok"}, repeated(40, "box 1 1 1 1 5 9", "ok")...)
		holdTalk(t, append(talk, "box 1 1 1 1 5 9", "no", "cut 0", "0", "box 1 1 1 1 5 9", "ok", "put", "code 2", "cut 0", "0")...)
	}
}

// What was put does not change with what is done to the tube in hand behind it.
func TestSessionPutIsACopy(t *testing.T) {
	p := []string{"tube p", "ok", "box 1 1 0 6 0 10000", "ok", "put", "code 0"}
	for boxes := 1; boxes < 40; boxes++ {
		talk := append(slices.Clone(p), "tube a", "ok")
		talk = append(talk, repeated(boxes, "box 1 1 1 1 50 90", "ok")...)
		talk = append(talk, "put", "code 0", "all", "a/p@50:0,0", "box 1 1 1 1 7 9", "ok", "all", "a/p@50:0,0", "with", fmt.Sprintf("a/p@7:%d,0", boxes),
			"cut 60", fmt.Sprint(boxes), "all", "a/p@50:0,0", "meet a a", "a/a@50:0,0", "with", "a/p@60:0,0", "box 1 1 1 1 3 3", "ok", "all", "a/p@50:0,0",
			"cut 99999", "0", "all", "a/p@50:0,0", "put", "code 0", "all", "none")
		holdTalk(t, talk...)
	}
	// Nor with a refusal, or with a tube of the same name in hand.
	holdTalk(t, append(slices.Clone(p), "tube a", "ok", "box 1 1 1 1 50 90", "ok", "put", "code 0", "tube a", "ok", "box 1 1 1 1 7 7", "ok", "all", "a/p@50:0,0",
		"tube A", "ok", "put", "code 2", "all", "a/p@50:0,0", "drop b", "code 3", "all", "a/p@50:0,0")...)
}

func TestSessionTooLong(t *testing.T) {
	const refused = "too long\n"
	tube := func(size int) string { return "tube " + strings.Repeat("a", size-5) }
	holdSession(t, tube(20000), "ok\n")
	holdSession(t, tube(19999)+"\n", "ok\n")
	holdSession(t, tube(20001), refused)
	holdSession(t, tube(20000)+"\n", refused)
	holdSession(t, strings.Repeat(" ", 20000), "bad\n")
	holdSession(t, strings.Repeat(" ", 20001), refused)
	holdSession(t, strings.Repeat("\xff", 20000), "bad\n")
	// Bytes are counted, and not letters.
	holdSession(t, "tube "+strings.Repeat("é", 9997), "ok\n")
	holdSession(t, "tube "+strings.Repeat("é", 9998), refused)
	holdSession(t, "all\nput\n"+tube(19993), refused)
	holdSession(t, "all\nput\n"+tube(19992), "none\ncode 2\nok\n")
	for _, c := range [][2]string{{"all", "none"}, {"put", "code 2"}, {"", "bad"}, {"tube abcdefghijklmnop", "ok"}, {"meet a b", "none"}, {"cut 0", "0"}} {
		holdSession(t, strings.Repeat(c[0]+"\n", 400), strings.Repeat(c[1]+"\n", 400))
		holdSession(t, strings.Repeat(c[0]+"\n", 401), refused)
		holdSession(t, strings.Repeat(c[0]+"\n", 400)+"x", refused)
		holdSession(t, strings.Repeat(c[0]+"\n", 400)+" ", refused)
		holdSession(t, strings.Repeat(c[0]+"\n", 400)+"\n", refused)
	}
	holdSession(t, strings.Repeat("all\n", 399)+"all", strings.Repeat("none\n", 400))
	holdSession(t, strings.Repeat("all\n", 400)+"all", refused)
	// Both limits at once, and far behind them.
	exact := strings.Repeat(tube(49)+"\n", 400)
	holdSession(t, exact, strings.Repeat("ok\n", 400))
	holdSession(t, exact+"\n", refused)
	holdSession(t, strings.Repeat("\n", 20000), refused)
	holdSession(t, strings.Repeat("all\n", 10000000), refused)
	holdSession(t, strings.Repeat("x", 40000000), refused)
}

// pickName is now and then no ok Name.
func pickName(d *rand.Rand) string {
	if d.IntN(12) == 0 {
		return []string{"", "A", "abcdefghi", "\xff", "a\r", "é"}[d.IntN(6)]
	}
	return []string{"a", "b", "c", "d", "e-1"}[d.IntN(5)]
}

// pickLine is a line of the table, of any of its kinds.
func pickLine(d *rand.Rand) string {
	switch d.IntN(16) {
	case 0, 1:
		return "tube " + pickName(d)
	case 2, 3, 4, 5:
		b := pickBox(d, 5, 30)
		return boxLine(b.X, b.Y, b.Low, b.High, b.In, b.Out)
	case 6:
		return boxLine(d.IntN(18), d.IntN(18), d.IntN(9), d.IntN(9), d.IntN(12000), d.IntN(12000))
	case 7, 8, 9:
		return "put"
	case 10:
		return "drop " + pickName(d)
	case 11:
		return "meet " + pickName(d) + " " + pickName(d)
	case 12:
		return fmt.Sprint("cut ", []int{d.IntN(9), d.IntN(20), d.IntN(40), d.IntN(100000)}[d.IntN(4)])
	}
	return []string{"all", "with", "free"}[d.IntN(3)]
}

// pickPut is the lines that bring a tube in.
func pickPut(d *rand.Rand) string {
	lines := "tube " + pickName(d) + "\n"
	for range 1 + d.IntN(3) {
		b := pickBox(d, 5, 30)
		lines += boxLine(b.X, b.Y, b.Low, b.High, b.In, b.Out) + "\n"
	}
	return lines + "put"
}

// nearly is a line with one thing of it changed.
func nearly(d *rand.Rand, line string) string {
	at := d.IntN(len(line) + 1)
	switch d.IntN(7) {
	case 0:
		return line[:at] + " " + line[at:]
	case 1:
		return line[:at]
	case 2:
		return line[at:]
	case 3:
		return line[:at] + string([]byte{byte(d.IntN(256))}) + line[at:]
	case 4:
		return line[:at] + "0" + line[at:]
	case 5:
		return strings.Replace(line, " ", []string{"  ", " 0", " -", "\t", "", "\n"}[d.IntN(6)], 1)
	}
	return line + []string{" ", "\r", " a", "x", "\x00", " 0"}[d.IntN(6)]
}

func anyBytes(d *rand.Rand, size int) string {
	bytes := make([]byte, size)
	for i := range bytes {
		bytes[i] = byte(d.IntN(256))
		if d.IntN(3) == 0 {
			bytes[i] = "tube box 0123456789\n\n \r"[d.IntN(23)]
		}
	}
	return string(bytes)
}

// pickText is lines of each of these kinds; some are more than one.
func pickText(d *rand.Rand, lines int) string {
	var text strings.Builder
	for range lines {
		switch d.IntN(8) {
		case 0:
			text.WriteString(nearly(d, pickLine(d)))
		case 1:
			if d.IntN(3) == 0 {
				text.WriteString(anyBytes(d, d.IntN(20)))
			}
		case 2:
			text.WriteString(pickPut(d))
		default:
			text.WriteString(pickLine(d))
		}
		text.WriteString("\n")
	}
	return text.String()[:max(0, text.Len()-d.IntN(2))]
}

// kindOf is what an answer tells, without what it tells of.
func kindOf(answer string) string {
	switch {
	case strings.Contains(answer, "@") && strings.Contains(answer, " "):
		return "clashes"
	case strings.Contains(answer, "@"):
		return "clash"
	case strings.Trim(answer, "0123456789") == "":
		return "number"
	}
	return answer
}

// P8: each text is answered as the table tells, line by line.
func TestSessionByTheTable(t *testing.T) {
	d := dice()
	kinds := map[string]int{}
	for range 1500 {
		text := pickText(d, d.IntN(120))
		got, want := impl.ProbeSession(text), sessionBy(text)
		if got != want {
			t.Fatalf("%q:\n%q, not\n%q", text, got, want)
		}
		for _, answer := range linesIn(got) {
			kinds[kindOf(answer)]++
		}
	}
	for _, kind := range []string{"ok", "no", "yes", "none", "never", "bad", "code 0", "code 2", "code 3", "clash", "clashes", "number"} {
		if kinds[kind] < 200 {
			t.Errorf("%d answers %q: the texts are badly picked", kinds[kind], kind)
		}
	}
}

// P8: the answers to the first lines do not hang on the lines behind them.
func TestSessionByItsBeginnings(t *testing.T) {
	d := dice()
	for range 60 {
		text := pickText(d, 1+d.IntN(60))
		whole := impl.ProbeSession(text)
		answers := strings.SplitAfter(whole, "\n")
		lines := strings.SplitAfter(text, "\n")
		for n := range lines {
			first := strings.Join(lines[:n], "")
			got := impl.ProbeSession(first)
			if got != strings.Join(answers[:n], "") {
				t.Fatalf("%q:\n%q, but as the beginning of %q:\n%q", first, got, text, whole)
			}
			// Without its newline a line that is not empty is the same line.
			if n > 0 && lines[n-1] != "\n" && impl.ProbeSession(strings.TrimSuffix(first, "\n")) != got {
				t.Fatalf("%q: another answer without its last newline", first)
			}
			for _, behind := range []string{"\n", "x", "tube a\nput\nall\n", "box", anyBytes(d, 30)} {
				if !strings.HasPrefix(impl.ProbeSession(first+behind), got) {
					t.Fatalf("%q: another answer with %q behind it", first, behind)
				}
			}
		}
	}
}

// P8: a text that is too long with its last lines is answered without them.
func TestSessionBeginningOfOneTooLong(t *testing.T) {
	d := dice()
	text := pickText(d, 300) + "\n"
	lines := strings.SplitAfter(text+strings.Repeat("with\n", 410), "\n")[:401]
	first := strings.Join(lines[:400], "")
	holdSession(t, strings.Join(lines, ""), "too long\n")
	holdSession(t, first, sessionBy(first))
	if !strings.HasPrefix(impl.ProbeSession(first), impl.ProbeSession(strings.Join(lines[:300], ""))) {
		t.Error("another answer to the first lines")
	}
}

// P8: any bytes are answered, with a line for each line.
func TestSessionOfAnyBytes(t *testing.T) {
	d := dice()
	for range 3000 {
		text := anyBytes(d, d.IntN(300))
		got := impl.ProbeSession(text)
		if got != sessionBy(text) || strings.Count(got, "\n") != len(linesIn(text)) {
			t.Fatalf("%q: %q", text, got)
		}
	}
	for _, size := range []int{19999, 20000, 20001} {
		text := anyBytes(d, size)
		holdSession(t, text, sessionBy(text))
		text = strings.ReplaceAll(text, "\n", "\r")
		holdSession(t, text, sessionBy(text))
	}
}

// A line that is answered bad changes nothing for the lines behind it.
func TestSessionBadChangesNothing(t *testing.T) {
	d := dice()
	gone := 0
	for range 300 {
		text := pickText(d, d.IntN(100))
		var lines, answers []string
		told := linesIn(impl.ProbeSession(text))
		for i, line := range linesIn(text) {
			if told[i] == "bad" {
				gone++
				continue
			}
			lines, answers = append(lines, line+"\n"), append(answers, told[i]+"\n")
		}
		holdSession(t, strings.Join(lines, ""), strings.Join(answers, ""))
	}
	if gone < 1000 {
		t.Errorf("%d bad lines: the texts are badly picked", gone)
	}
	bad := []string{
		"", " ", "tube", "tube x y", "tube  ", "Tube x", "tube a b", "box 1 1 1 1 1", "box 1 1 1 1 1 01", "box 1 1 1 1 1 1 1", "box 1 1 1 1 1 ",
		"put ", "put a", "Put", "drop", "drop a ", "drop a b", "drop b a", "cut", "cut 01", "cut 100000", "cut 99999 ", "cut 9 9", "all ", "with a", "free ", "meet a", "meet a b ", "\r", "what",
	}
	for _, line := range bad {
		holdTalk(t, "tube a", "ok", "box 1 1 1 1 5 9", "ok", line, "bad", "put", "code 0", line, "bad", "tube b", "ok", line, "bad", "box 1 1 1 1 7 9", "ok", line, "bad",
			"cut 0", "1", "with", "b/a@7:0,0", "put", "code 0", line, "bad", "all", "a/b@7:0,0", "meet a a", "a/a@5:0,0", "meet b b", "b/b@7:0,0", "box 1 1 1 1 6 9", "ok", line, "bad", "with", "b/a@6:1,0")
	}
}

// Most of what a session may do: full tubes, many of them, and all of them again and again.
func TestSessionOfMany(t *testing.T) {
	d := dice()
	for _, boxes := range []int{1, 3, 7, 40} {
		var text strings.Builder
		lines := 0
		for i := 0; lines+boxes+2 <= 300; i++ {
			fmt.Fprintf(&text, "tube t%d\n", (i*7)%30)
			for range boxes {
				b := pickBox(d, 9, 10000)
				text.WriteString(boxLine(b.X, b.Y, b.Low, b.High, b.In, b.Out) + "\n")
			}
			text.WriteString("put\n")
			lines += boxes + 2
		}
		for ; lines < 400; lines++ {
			text.WriteString([]string{"all\n", "with\n", "free\n"}[d.IntN(3)])
		}
		if got, want := impl.ProbeSession(text.String()), sessionBy(text.String()); got != want || strings.Count(got, "\n") != 400 || !strings.Contains(got, "@") {
			t.Errorf("%d boxes each: %.200q, not %.200q", boxes, got, want)
		}
	}
}

// The same text has the same answer, many at the same time, too; nobody is left behind.
func TestSessionHangsOnNothingElse(t *testing.T) {
	d := dice()
	var texts, answers []string
	for range 12 {
		texts = append(texts, pickText(d, 100))
		answers = append(answers, impl.ProbeSession(texts[len(texts)-1]))
	}
	again := func(times int) {
		for i := range times * len(texts) {
			// One text behind the other: nothing of it is kept.
			at := i * 5 % len(texts)
			if impl.ProbeSession(texts[at]) != answers[at] {
				t.Errorf("%q: another answer to the same text", texts[at])
				return
			}
		}
	}
	again(20)
	var callers sync.WaitGroup
	for range 8 {
		callers.Go(func() { again(3) })
	}
	callers.Wait()
	for _, text := range texts {
		synctest.Test(t, func(*testing.T) { impl.ProbeSession(text) })
	}
}
