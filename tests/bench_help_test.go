package tests

import (
	"slices"
	"strconv"
	"strings"
	"testing"

	"loop.example/g00337/impl"
)

// What the tests ask of the bench: the same lines are read here byte by byte, and done by the functions of the chapters ahead, one after the other.

// splitByHand cuts at each such byte: one piece more than there are of them.
func splitByHand(text string, at byte) []string {
	pieces := []string{""}
	for i := range len(text) {
		if text[i] == at {
			pieces = append(pieces, "")
			continue
		}
		pieces[len(pieces)-1] += text[i : i+1]
	}
	return pieces
}

// numberByHand is false of what a chapter does not read as a number.
func numberByHand(word string) (int64, bool) {
	digits, sign := word, int64(1)
	if word != "" && word[0] == '-' {
		digits, sign = word[1:], -1
	}
	if digits == "" || len(digits) > 9 || digits[0] == '0' && word != "0" {
		return 0, false
	}
	n := int64(0)
	for i := range len(digits) {
		if digits[i] < '0' || digits[i] > '9' {
			return 0, false
		}
		n = 10*n + int64(digits[i]-'0')
	}
	return sign * n, true
}

// lineOf is a line that was read: its first word, and the numbers behind it.
type lineOf struct {
	word string
	n    []int64
}

// takes is how many numbers stand behind each word of the table.
func takes(word string) (int, bool) {
	for n, list := range []string{" scavenge full free ", " nil mourn tenure hash at show ", " int copy swap replace same ", " pin fetch store ", " new "} {
		if word != "" && !strings.Contains(word, " ") && strings.Contains(list, " "+word+" ") {
			return n, true
		}
	}
	return 0, false
}

func readLine(line string) (lineOf, bool) {
	words := splitByHand(line, ' ')
	read := lineOf{word: words[0]}
	for _, word := range words[1:] {
		n, is := numberByHand(word)
		if !is {
			return lineOf{}, false
		}
		read.n = append(read.n, n)
	}
	count, is := takes(read.word)
	return read, is && count == len(read.n)
}

// actOf is false where the line is no Act.
func actOf(l lineOf) (impl.Act, bool) {
	n := append(slices.Clone(l.n), 0, 0, 0)
	switch l.word {
	case "new":
		return impl.Act{Kind: 1, A: n[0], B: n[1], C: n[2], N: n[3]}, true
	case "pin":
		return impl.Act{Kind: 1, A: n[0], B: n[1], N: n[2], Flag: true}, true
	case "int":
		return impl.Act{Kind: 2, A: n[0], N: n[1]}, true
	case "fetch":
		return impl.Act{Kind: 5, A: n[0], B: n[1], N: n[2]}, true
	case "store":
		return impl.Act{Kind: 6, A: n[0], N: n[1], B: n[2]}, true
	}
	kinds := []string{3: "nil", 4: "copy", 7: "scavenge", 8: "full", 9: "swap", 10: "replace", 11: "mourn", 12: "tenure", 13: "hash", 14: "same"}
	kind := slices.Index(kinds, l.word)
	return impl.Act{Kind: int64(kind), A: n[0], B: n[1]}, kind > 0
}

// happens is what an Act does to a heap, and what it tells.
type happens func(h impl.Heap, a impl.Act) (impl.Heap, int64)

// benchRun is the heap that the lines so far made, and the answers to them.
type benchRun struct {
	h       impl.Heap
	happen  happens
	answers []string
}

func newBenchRun(happen happens) *benchRun {
	h, _ := impl.NewHeap(40, 60, 1)
	return &benchRun{h: h, happen: happen}
}

func inDigits(n int64) string { return strconv.FormatInt(n, 10) }

func written(told int64) string {
	if told == -1 {
		return "error"
	}
	return inDigits(told)
}

// shows tells of the Root what the graph shows that the heap shows.
func (r *benchRun) shows(root int64) string {
	if !isRoot(root) {
		return "error"
	}
	g := impl.Shown(r.h)
	ref := g.Roots[root]
	switch ref.Kind {
	case 1:
		return "i" + inDigits(ref.N)
	case 2:
		return "o" + inDigits(g.Objs[ref.N-1].Hash)
	}
	return "n"
}

// stands tells where the Root leads in the end.
func (r *benchRun) stands(root int64) string {
	if !isRoot(root) {
		return "error"
	}
	at, leads := impl.AddrOf(impl.Follow(r.h, r.h.Roots[root]))
	if !leads {
		return "error"
	}
	return inDigits(at)
}

func (r *benchRun) acts(word string, a impl.Act) string {
	made, told := r.happen(r.h, a)
	r.h = made
	switch {
	case told == -1:
		return "error"
	case word == "scavenge" || word == "full":
		return inDigits(made.Top)
	case slices.Contains([]string{"new", "pin", "swap", "replace", "hash", "same"}, word):
		return written(told)
	}
	return "ok"
}

func (r *benchRun) answer(line string) string {
	l, is := readLine(line)
	if !is {
		return "error"
	}
	switch l.word {
	case "free":
		return written(impl.FreeWords(r.h))
	case "at":
		return r.stands(l.n[0])
	case "show":
		return r.shows(l.n[0])
	}
	a, _ := actOf(l)
	return r.acts(l.word, a)
}

// wantBench is the chapter's words, line by line.
func wantBench(text string, happen happens) string {
	lines := splitByHand(text, '\n')
	if lines[len(lines)-1] == "" {
		lines = lines[:len(lines)-1]
	}
	if len(text) > 20000 || len(lines) > 200 {
		return ""
	}
	r, all := newBenchRun(happen), ""
	for _, line := range lines {
		if line != "" {
			all += r.answer(line) + "\n"
		}
	}
	return all
}

func checkBench(t *testing.T, text, want string) {
	t.Helper()
	if got := impl.Bench(text); got != want {
		t.Fatalf("%.400q\nis answered %.400q\nwant %.400q", text, got, want)
	}
}

// checkBenchAsTold holds Bench against the functions of the chapters ahead.
func checkBenchAsTold(t *testing.T, text string) {
	t.Helper()
	checkBench(t, text, wantBench(text, impl.Happen))
}

// lined is these lines, each with its byte 10.
func lined(lines ...string) string {
	text := ""
	for _, line := range lines {
		text += line + "\n"
	}
	return text
}

// answered is a line, and what it is answered.
type answered struct{ line, answer string }

// checkAnswered asks it after each line, with the last byte 10 and without: what comes later changes nothing ahead of it.
func checkAnswered(t *testing.T, list []answered) {
	t.Helper()
	text, want := "", ""
	for _, a := range list {
		checkBench(t, text+a.line, want+lined(a.answer))
		text, want = text+lined(a.line), want+lined(a.answer)
		checkBench(t, text, want)
		if told := wantBench(text, wantHappen); told != want {
			t.Fatalf("%q\nby the chapters' words it is answered %q, and by hand %q", text, told, want)
		}
	}
}

// furnishedBench makes Roots 0, 1 and 3 objects in the room, 2 a number, 4 Nil, 5 a Pinned one upstairs, and two in Mourned: so that each line of aLineEach can be.
const furnishedBench = "new 0 1 0 2\nnew 1 2 0 2\nstore 0 1 1\nint 2 7\nnew 3 3 2 1\nnew 4 4 0 0\nstore 3 0 4\nnew 5 5 2 1\nstore 5 0 4\nnil 4\nfull\npin 5 6 1\nstore 5 0 0\n"

const furnishedAnswers = "0\n0\nok\nok\n0\n0\nok\n0\nok\nok\n14\n0\nok\n"

// aLineEach is one of each word, and what it is answered behind furnishedBench.
var aLineEach = []answered{
	{"new 4 1 0 2", "0"}, {"pin 4 1 2", "0"}, {"int 4 9", "ok"}, {"nil 0", "ok"}, {"copy 4 0", "ok"}, {"fetch 4 0 1", "ok"}, {"store 0 0 2", "ok"},
	{"scavenge", "14"}, {"full", "14"}, {"swap 0 1", "0"}, {"replace 0 1", "0"}, {"mourn 4", "ok"}, {"tenure 0", "ok"},
	{"hash 0", "39022"}, {"same 0 1", "0"}, {"free", "58"}, {"at 0", "40"}, {"show 0", "o39022"},
}

// looksAround asks all that a heap tells, and what more there is to see once it is mourned, fetched and pushed together.
var looksAround = func() string {
	text := ""
	for root := range 6 {
		r := strconv.Itoa(root)
		text += lined("show "+r, "at "+r, "hash "+r)
	}
	text += lined("free", "fetch 2 0 0", "show 2", "fetch 2 0 1", "show 2", "fetch 2 1 0", "show 2", "fetch 2 5 0", "show 2", "mourn 2", "show 2", "mourn 2", "show 2", "mourn 2")
	return text + lined("scavenge", "at 0", "new 4 1 0 0", "hash 4", "full", "free", "at 0")
}()

// lineOfAct writes an Act as a line: of a Kind that has none, a line that is wrong.
func lineOfAct(a impl.Act) string {
	n := func(word string, numbers ...int64) string {
		for _, number := range numbers {
			word += " " + inDigits(number)
		}
		return word
	}
	switch {
	case a.Kind == impl.AcNew && a.Flag:
		return n("pin", a.A, a.B, a.N)
	case a.Kind == impl.AcNew:
		return n("new", a.A, a.B, a.C, a.N)
	case a.Kind == impl.AcInt:
		return n("int", a.A, a.N)
	case a.Kind == impl.AcFetch:
		return n("fetch", a.A, a.B, a.N)
	case a.Kind == impl.AcStore:
		return n("store", a.A, a.N, a.B)
	case a.Kind == impl.AcScavenge:
		return "scavenge"
	case a.Kind == impl.AcFull:
		return "full"
	}
	for _, word := range []struct {
		kind  int64
		word  string
		roots []int64
	}{
		{impl.AcNil, "nil", []int64{a.A}}, {impl.AcCopy, "copy", []int64{a.A, a.B}}, {impl.AcSwap, "swap", []int64{a.A, a.B}},
		{impl.AcReplace, "replace", []int64{a.A, a.B}}, {impl.AcMourn, "mourn", []int64{a.A}}, {impl.AcTenure, "tenure", []int64{a.A}},
		{impl.AcHash, "hash", []int64{a.A}}, {impl.AcSame, "same", []int64{a.A, a.B}},
	} {
		if word.kind == a.Kind {
			return n(word.word, word.roots...)
		}
	}
	return n("act", a.Kind)
}

// line is one that may well be right, now and then one that is not.
func (d *dice) line() string {
	root := inDigits(d.roll(6))
	switch d.roll(16) {
	case 0:
		return "free"
	case 1:
		return "at " + root
	case 2:
		return "show " + root
	case 3:
		return d.spoiltLine(lineOfAct(d.anyAct()))
	}
	return lineOfAct(d.anyAct())
}

// spoiltLine has one byte less, one more, or another one, or a number more: now and then it is right all the same.
func (d *dice) spoiltLine(line string) string {
	const some = "  0019-+anfx\tS\r\x00\x80\xff"
	at := d.roll(int64(len(line)))
	b := d.roll(int64(len(some)))
	switch d.roll(4) {
	case 3:
		return line + " " + inDigits(d.roll(8)-1)
	case 0:
		return line[:at] + line[at+1:]
	case 1:
		return line[:at] + some[b:b+1] + line[at:]
	}
	return line[:at] + some[b:b+1] + line[at+1:]
}

// benchText is so many lines; some have no byte. Of each second text new ones are great, so that there is no room for all of them.
func (d *dice) benchText(n int) []string {
	lines, great := []string{}, d.roll(2) == 0
	for _, a := range d.acts(n) {
		if great && a.Kind == impl.AcNew {
			a.N = d.roll(21)
		}
		switch d.roll(5) {
		case 0:
			lines = append(lines, d.line())
		case 1:
			lines = append(lines, []string{"", d.line()}[d.roll(2)])
		default:
			lines = append(lines, lineOfAct(a))
		}
	}
	return lines
}
