package tests

import (
	"slices"
	"strings"
	"sync"
	"testing"

	"loop.example/g00337/impl"
)

func TestBenchConstants(t *testing.T) {
	if impl.MaxBench != 20000 || impl.MaxLines != 200 {
		t.Error(impl.MaxBench, impl.MaxLines)
	}
}

// What new and pin tell, from a new heap on until there is no room.
func TestBenchMakesNewOnes(t *testing.T) {
	checkAnswered(t, []answered{
		{"free", "60"}, {"full", "0"}, {"scavenge", "0"}, {"free", "60"},
		{"new 0 3 0 20", "0"}, {"at 0", "0"}, {"show 0", "o39022"}, {"hash 0", "39022"},
		{"new 1 0 1 16", "0"}, {"at 1", "22"}, {"show 1", "o61087"},
		// All of the room is taken: it changes sides in vain, and the next one stands upstairs.
		{"new 2 99 0 0", "0"}, {"at 2", "80"}, {"free", "58"}, {"at 0", "40"}, {"at 1", "62"},
		{"pin 3 1 20", "0"}, {"at 3", "82"}, {"pin 4 0 20", "0"}, {"at 4", "104"}, {"free", "14"},
		{"pin 5 1 20", "1"}, {"show 5", "n"}, {"at 5", "error"},
		{"new 5 1 2 13", "0"}, {"at 5", "126"}, {"free", "0"}, {"hash 5", "21259"},
		// While room is made the Root leads to what it led to.
		{"new 5 1 0 0", "1"}, {"hash 5", "21259"}, {"nil 5", "ok"}, {"free", "0"},
		{"new 5 1 0 0", "2"}, {"hash 5", "65216"}, {"at 5", "126"}, {"free", "12"},
		{"pin 5 1 1", "0"}, {"hash 5", "19417"}, {"at 5", "128"}, {"free", "10"},
		{"nil 4", "ok"}, {"pin 4 99 20", "2"}, {"at 4", "104"}, {"hash 4", "30502"},
		{"new 6 0 0 0", "3"}, {"new -1 0 0 0", "3"}, {"new 0 100 0 0", "3"}, {"new 0 -1 0 0", "3"},
		{"new 0 0 3 1", "3"}, {"new 0 0 -1 1", "3"}, {"new 0 0 2 0", "3"}, {"new 0 0 6 0", "3"}, {"new 0 0 7 0", "3"},
		{"new 0 0 0 21", "3"}, {"new 0 0 0 -1", "3"}, {"new 999999999 -999999999 999999999 -999999999", "3"},
		{"pin 6 0 0", "3"}, {"pin -1 0 0", "3"}, {"pin 0 100 0", "3"}, {"pin 0 -1 0", "3"}, {"pin 0 0 21", "3"}, {"pin 0 0 -1", "3"},
		{"show 0", "o39022"}, {"show 4", "o30502"}, {"full", "40"}, {"free", "12"},
	})
}

// What swap, replace and tenure tell, and where they all are then.
func TestBenchLetsThemBecome(t *testing.T) {
	checkAnswered(t, []answered{
		{"new 0 1 0 20", "0"}, {"tenure 0", "ok"}, {"at 0", "80"}, {"free", "38"}, {"tenure 0", "error"},
		// The note that is left below goes where room is made.
		{"new 1 2 0 20", "0"}, {"at 1", "40"}, {"same 0 1", "0"},
		{"swap 0 1", "4"}, {"at 0", "80"}, {"at 1", "40"}, {"free", "38"},
		{"replace 0 1", "0"}, {"at 0", "40"}, {"at 1", "40"}, {"show 0", "o61087"}, {"same 0 1", "1"}, {"same 0 0", "1"},
		{"replace 0 1", "2"}, {"swap 0 1", "2"}, {"swap 1 1", "2"}, {"replace 1 1", "2"},
		{"swap 0 5", "1"}, {"swap 5 0", "1"}, {"replace 5 0", "1"}, {"replace 0 5", "1"}, {"swap 6 0", "1"}, {"swap 0 6", "1"}, {"replace -1 0", "1"}, {"replace 0 -1", "1"},
		{"pin 2 3 1", "0"}, {"at 2", "102"}, {"tenure 2", "error"},
		{"swap 0 2", "3"}, {"swap 2 0", "3"}, {"replace 2 0", "3"}, {"at 0", "40"}, {"at 2", "102"},
		{"replace 0 2", "0"}, {"at 0", "102"}, {"at 1", "102"}, {"same 1 2", "1"}, {"hash 1", "20196"},
		{"full", "0"}, {"free", "58"}, {"at 2", "102"},
		{"new 3 1 0 1", "0"}, {"new 4 2 0 3", "0"}, {"at 3", "0"}, {"at 4", "2"},
		{"swap 3 4", "0"}, {"at 3", "8"}, {"at 4", "6"}, {"show 3", "o3882"}, {"show 4", "o45005"}, {"hash 3", "3882"}, {"same 3 4", "0"},
		{"scavenge", "6"}, {"at 3", "40"}, {"at 4", "44"}, {"show 3", "o3882"},
		{"tenure 4", "ok"}, {"at 4", "80"}, {"scavenge", "4"}, {"at 3", "0"}, {"at 4", "80"},
	})
}

// What is put into Roots and Slots, and what is fetched, mourned and asked.
func TestBenchPutsAndAsks(t *testing.T) {
	checkAnswered(t, []answered{
		{"show 0", "n"}, {"show 5", "n"}, {"show 6", "error"}, {"show -1", "error"}, {"at 0", "error"}, {"hash 0", "error"}, {"same 0 1", "0"},
		{"int 0 -100000", "ok"}, {"show 0", "i-100000"}, {"at 0", "error"}, {"hash 0", "error"}, {"same 0 0", "0"},
		{"int 0 100001", "error"}, {"int 0 -100001", "error"}, {"int 0 999999999", "error"}, {"int 0 -999999999", "error"}, {"int 6 1", "error"}, {"int -1 1", "error"}, {"show 0", "i-100000"},
		{"copy 1 0", "ok"}, {"show 1", "i-100000"}, {"copy 1 6", "error"}, {"copy 6 1", "error"}, {"copy -1 1", "error"}, {"copy 1 -1", "error"},
		{"int 5 0", "ok"}, {"show 5", "i0"}, {"int 5 -1", "ok"}, {"show 5", "i-1"}, {"nil 5", "ok"}, {"show 5", "n"},
		{"nil -1", "error"}, {"nil 6", "error"}, {"nil 1", "ok"}, {"show 1", "n"},
		{"fetch 2 0 0", "error"}, {"fetch 2 1 0", "error"}, {"store 0 0 1", "error"}, {"store 1 0 0", "error"}, {"mourn 0", "error"}, {"tenure 0", "error"}, {"tenure 1", "error"}, {"tenure 6", "error"},
		{"same 0 6", "error"}, {"same 6 0", "error"}, {"same -1 0", "error"}, {"same 0 -1", "error"}, {"at 6", "error"}, {"at -1", "error"}, {"hash 6", "error"}, {"hash -1", "error"},
		{"new 0 1 0 2", "0"}, {"int 1 100000", "ok"}, {"store 0 0 1", "ok"}, {"store 0 2 1", "error"}, {"store 0 -1 1", "error"}, {"store 0 0 6", "error"}, {"store 0 0 -1", "error"}, {"store 6 0 0", "error"},
		{"fetch 2 0 0", "ok"}, {"show 2", "i100000"}, {"fetch 2 0 1", "ok"}, {"show 2", "n"}, {"fetch 2 0 2", "error"}, {"fetch 2 0 -1", "error"}, {"fetch 6 0 0", "error"}, {"fetch 2 6 0", "error"},
		// Slot 1 of Root 0's is what Root 1 is, not the other way round.
		{"new 1 2 0 1", "0"}, {"store 0 1 1", "ok"}, {"fetch 2 0 1", "ok"}, {"same 1 2", "1"}, {"fetch 2 1 0", "ok"}, {"show 2", "n"},
		{"new 3 7 2 1", "0"}, {"new 4 8 0 0", "0"}, {"store 3 0 4", "ok"}, {"nil 4", "ok"}, {"mourn 4", "error"},
		{"full", "10"}, {"mourn 6", "error"}, {"mourn -1", "error"}, {"mourn 4", "ok"}, {"same 3 4", "1"}, {"hash 4", "20196"}, {"fetch 5 4 0", "ok"}, {"show 5", "o45005"}, {"mourn 4", "error"},
		{"nil 3", "ok"}, {"nil 5", "ok"}, {"scavenge", "10"}, {"nil 4", "ok"}, {"scavenge", "6"}, {"what", "error"}, {"full", "6"}, {"free", "60"},
	})
}

// seenAround is what is looked at where no line is behind furnishedBench.
var seenAround = sync.OnceValue(func() string { return wantBench(furnishedBench+looksAround, wantHappen)[len(furnishedAnswers):] })

// errorLeavesAll: the line is answered error, and all that is looked at behind it is as if it were not there.
func errorLeavesAll(t *testing.T, line string) {
	t.Helper()
	checkBench(t, furnishedBench+lined(line)+looksAround, furnishedAnswers+"error\n"+seenAround())
	checkBench(t, line, "error\n")
}

func TestBenchOfEachWord(t *testing.T) {
	checkBench(t, furnishedBench, furnishedAnswers)
	checkBenchAsTold(t, furnishedBench+looksAround)
	for _, a := range aLineEach {
		checkBench(t, furnishedBench+a.line, furnishedAnswers+lined(a.answer))
		text := furnishedBench + lined(a.line) + looksAround
		checkBench(t, text, wantBench(text, wantHappen))
		for _, other := range aLineEach {
			text := furnishedBench + lined(a.line, other.line) + looksAround
			checkBench(t, text, wantBench(text, wantHappen))
		}
	}
}

// wrongLines are this one with something that no line of the table has.
func wrongLines(line string) []string {
	word, numbers, _ := strings.Cut(line, " ")
	list := []string{line + " 0", line + " 0 0", line + " 1 1 1 1 1", line + " free", line + "  0"}
	for _, b := range []string{" ", "  ", "\t", "\r", "\x00", "\v", "\f", "\x80", "\xff", "\u00a0", "\u2003", "\u2028", ".", "#", "\"", ";"} {
		list = append(list, b+line, line+b, line+b+"0", b+line+b)
	}
	for i := range len(line) {
		for _, b := range []string{"\t", "\r", "\x00", "\x80", "\xff", "\u00a0", "_", "  "} {
			list = append(list, line[:i]+b+line[i+1:])
			if i > 0 {
				list = append(list, line[:i]+b+line[i:])
			}
		}
	}
	if words := strings.Split(line, " "); len(words) > 1 {
		list = append(list, strings.Join(words[:len(words)-1], " "), strings.Join(words[1:], " "), word)
		list = append(list, numbers+" "+word, strings.ReplaceAll(line, " ", ""), word+numbers, word+", "+numbers)
		for _, other := range []string{"  ", "\t", " \t", "\t ", "\r", "\u00a0", "\x00"} {
			list = append(list, strings.ReplaceAll(line, " ", other), strings.Replace(line, " ", other, 1))
		}
	}
	for _, other := range []string{strings.ToUpper(word), strings.ToUpper(word[:1]) + word[1:], word[:len(word)-1], word[1:], word + "s", word + word, "s" + word, word[:1], word + "\x00"} {
		list = append(list, strings.TrimSuffix(other+" "+numbers, " "))
	}
	return list
}

func TestBenchOfWrongLines(t *testing.T) {
	for _, a := range aLineEach {
		for _, line := range wrongLines(a.line) {
			if _, is := readLine(line); is {
				t.Fatalf("%q is right", line)
			}
			errorLeavesAll(t, line)
		}
	}
	for _, line := range []string{" ", "  ", "\t", "\r", "\x00", "\xff", "-", "0", "-1", "error", "ok", "n", "o39022", "at", "act 1", "carried", "biggest", "class 0", "young 0", "objects", "tenured 0", "fulls", "gc", "bench", "nil nil", "free free", "free 0", "show 0 show 0", "at 0 1 2 3 4 5"} {
		errorLeavesAll(t, line)
	}
	errorLeavesAll(t, strings.Repeat(" ", 5000))
	errorLeavesAll(t, strings.Repeat("0", 5000))
	errorLeavesAll(t, "free"+strings.Repeat(" 0", 5000))
	errorLeavesAll(t, "new"+strings.Repeat(" 0", 5000))
}

// Each word with up to seven numbers: only so many as the table has are right.
func TestBenchOfManyOrFewNumbers(t *testing.T) {
	for _, a := range aLineEach {
		word, _, _ := strings.Cut(a.line, " ")
		for n := range 8 {
			line := word + strings.Repeat(" 1", n)
			if count, _ := takes(word); count != n {
				errorLeavesAll(t, line)
				continue
			}
			text := furnishedBench + lined(line) + looksAround
			checkBench(t, text, wantBench(text, wantHappen))
		}
	}
}

// noNumbers are what a chapter does not read as a number.
var noNumbers = []string{
	"", "-", "--", "+", "+1", "+0", "-0", "00", "-00", "01", "-01", "007", "0000000001", "1-", "--1", "-+1", "+-1", "- 1",
	"1000000000", "-1000000000", "1234567890", "-1234567890", "4294967296", "4294967297", "9223372036854775807", "9223372036854775808", "-9223372036854775808", "18446744073709551616", "18446744073709551617",
	"1.", "1.0", ".1", "1e0", "1e1", "0x1", "0b1", "0o1", "1_0", "1,0", "a", "A", "one", "nil", "free", "i1", "n", "1i",
	"1\t", "\t1", "1\r", "\r1", "1\x00", "\x001", "1\xff", "\xff1", "1\x80", "\u0661", "\uff11", "\u00b2", "1\u0301", "\u22121", "'1'", "(1)", "1;", "1/1", "1:",
}

// replaced is the line with another word at this place.
func replaced(line string, at int, word string) string {
	words := strings.Split(line, " ")
	words[at] = word
	return strings.Join(words, " ")
}

func TestBenchOfWhatIsNoNumber(t *testing.T) {
	for _, a := range aLineEach {
		for at := range strings.Count(a.line, " ") {
			for _, word := range noNumbers {
				errorLeavesAll(t, replaced(a.line, at+1, word))
			}
		}
	}
}

// farOut is what a line is answered of which a number is far below what any of it may be.
func farOut(line string) string {
	switch word, _, _ := strings.Cut(line, " "); word {
	case "new", "pin":
		return "3"
	case "swap", "replace":
		return "1"
	}
	return "error"
}

// Each number of each line, in and out of what its Act takes: of nine digits at most it is a number.
func TestBenchOfAnyNumber(t *testing.T) {
	numbers := []int64{-999999999, -100001, -100000, -99999, -65536, -7, -2, -1, 0, 1, 2, 3, 4, 5, 6, 7, 8, 19, 20, 21, 22, 40, 41, 80, 99, 100, 101, 200, 65535, 65536, 99999, 100000, 100001, 99999999, 100000000, 999999999}
	was := strings.Count(furnishedAnswers, "\n")
	for _, a := range aLineEach {
		for at := range strings.Count(a.line, " ") {
			for _, n := range numbers {
				line := replaced(a.line, at+1, inDigits(n))
				text := furnishedBench + lined(line) + looksAround
				want := wantBench(text, wantHappen)
				checkBench(t, text, want)
				if answer := strings.Split(want, "\n")[was]; n < -100000 && answer != farOut(a.line) {
					t.Fatalf("%q is answered %q", line, answer)
				}
			}
		}
	}
}

// All Roots at all places where a line has one.
func TestBenchOfAnyRoots(t *testing.T) {
	for a := int64(-2); a <= 7; a++ {
		for b := int64(-2); b <= 7; b++ {
			for _, act := range []impl.Act{
				{Kind: impl.AcNew, A: a, B: 1, N: b}, {Kind: impl.AcNew, A: a, B: b, N: 1, Flag: true}, {Kind: impl.AcInt, A: a, N: b}, {Kind: impl.AcNil, A: a},
				{Kind: impl.AcCopy, A: a, B: b}, {Kind: impl.AcFetch, A: a, B: b, N: 1}, {Kind: impl.AcStore, A: a, B: b, N: 1}, {Kind: impl.AcSwap, A: a, B: b},
				{Kind: impl.AcReplace, A: a, B: b}, {Kind: impl.AcMourn, A: a}, {Kind: impl.AcTenure, A: a}, {Kind: impl.AcHash, A: a}, {Kind: impl.AcSame, A: a, B: b},
			} {
				text := furnishedBench + lined(lineOfAct(act)) + looksAround
				checkBench(t, text, wantBench(text, wantHappen))
			}
		}
	}
}

// Lines without a byte are not answered, wherever they are, and the last byte 10 may lack.
func TestBenchPassesOverLines(t *testing.T) {
	for _, c := range []struct{ text, want string }{
		{"", ""}, {"\n", ""}, {"\n\n", ""}, {"\n\n\n\n", ""},
		{"free", "60\n"}, {"free\n", "60\n"}, {"\nfree", "60\n"}, {"\nfree\n", "60\n"}, {"\n\n\nfree\n\n\n", "60\n"},
		{"free\nfree", "60\n60\n"}, {"free\nfree\n", "60\n60\n"}, {"free\n\nfree", "60\n60\n"}, {"free\n\n\n\nfree\n\n", "60\n60\n"},
		{"pin 0 1 1\n\n\n\nfree\n\n\nshow 0", "0\n58\no39022\n"},
		{" ", "error\n"}, {" \n", "error\n"}, {"\n ", "error\n"}, {" \n\n ", "error\nerror\n"}, {"free\n ", "60\nerror\n"}, {"free\n\r\n", "60\nerror\n"}, {"\r", "error\n"},
		{"free\r\nfree\r\n", "error\nerror\n"}, {"free\rfree", "error\n"}, {"\x00", "error\n"}, {"free\x00\nfree", "error\n60\n"}, {"free\n\x00", "60\nerror\n"}, {"\ufefffree", "error\n"}, {"fr\nee", "error\nerror\n"}, {"free \n free", "error\nerror\n"},
	} {
		checkBench(t, c.text, c.want)
		checkBenchAsTold(t, c.text)
	}
}

func TestBenchOfManyLines(t *testing.T) {
	nothing := func(n int) string { return strings.Repeat("\n", n) }
	for n := range 204 {
		frees, all := strings.Repeat("free\n", n), strings.Repeat("60\n", n)
		one, more := all+"60\n", all
		if n > 199 {
			one = ""
		}
		if n > 200 {
			more = ""
		}
		checkBench(t, frees, more)
		checkBench(t, frees+"free", one)
		checkBench(t, nothing(n), "")
		last := "60\n"
		if n > 199 {
			last = ""
		}
		checkBench(t, nothing(n)+"free", last)
		checkBench(t, nothing(n)+"free\n", last)
		checkBench(t, "free\n"+nothing(n), last)
		checkBench(t, nothing(n/2)+"free\n"+nothing(n-n/2), last)
	}
	for _, n := range []int{1000, 4000, 10000, 19999, 20000, 20001} {
		checkBench(t, nothing(n), "")
		checkBench(t, nothing(n-1)+"x", "")
		checkBench(t, "x"+nothing(n-1), "")
	}
	for _, n := range []int{201, 1000, 4000} {
		checkBench(t, strings.Repeat("free\n", n), "")
		checkBench(t, strings.Repeat("x\n", n), "")
	}
	// The last line is one where it lacks its byte 10, and a line without a byte is one where it has it.
	checkBench(t, strings.Repeat("free\n", 199)+"\n", strings.Repeat("60\n", 199))
	checkBench(t, strings.Repeat("free\n", 199)+"\n\n", "")
	checkBench(t, strings.Repeat("free\n", 199)+"\nx", "")
}

func TestBenchOfManyBytes(t *testing.T) {
	for n := 19990; n <= 20010; n++ {
		long := strings.Repeat("x", n)
		for _, c := range []struct{ text, want string }{
			{long, "error\n"}, {long[:n-1] + "\n", "error\n"}, {"free\n" + long[:n-5], "60\nerror\n"}, {long[:n-5] + "\nfree", "error\n60\n"},
			{"free" + strings.Repeat(" ", n-4), "error\n"}, {"free\n\n\n" + long[:n-12] + "\nfree", "60\nerror\n60\n"},
			{"free " + strings.Repeat("0", n-5), "error\n"}, {strings.Repeat("\xff", n), "error\n"}, {strings.Repeat("\x00", n), "error\n"},
			{strings.Repeat("\u00e9", n/2) + strings.Repeat("x", n%2), "error\n"},
		} {
			if len(c.text) != n {
				t.Fatal(len(c.text))
			}
			if n > 20000 {
				c.want = ""
			}
			checkBench(t, c.text, c.want)
		}
	}
	// Both limits at once: 200 lines of 100 bytes.
	lines := strings.Repeat("free "+strings.Repeat("0", 94)+"\n", 200)
	checkBench(t, lines, strings.Repeat("error\n", 200))
	checkBench(t, lines+"\n", "")
	checkBench(t, lines[:len(lines)-1], strings.Repeat("error\n", 200))
	checkBench(t, lines[:len(lines)-5]+"\nfree", "")
	checkBench(t, strings.Repeat("free\n", 200)[:999]+strings.Repeat("e", 19001), strings.Repeat("60\n", 199)+"error\n")
	checkBench(t, strings.Repeat("free\n", 200)[:999]+strings.Repeat("e", 19002), "")
	for _, n := range []int{1 << 16, 1 << 20, 1 << 22} {
		checkBench(t, strings.Repeat("x", n), "")
		checkBench(t, strings.Repeat("\n", n), "")
		checkBench(t, strings.Repeat("free\n", n/5), "")
	}
}

// A text with any byte at any place, in place of the one there or ahead of it, or with one less.
func TestBenchOfAnyByte(t *testing.T) {
	const text = "new 0 1 1 2\nint 5 -40\n\nstore 0 1 5\nshow 5\nat 0\nfree"
	for at := range len(text) {
		checkBenchAsTold(t, text[:at]+text[at+1:])
		checkBenchAsTold(t, text[:at])
		checkBenchAsTold(t, text[at:])
		for b := range 256 {
			checkBenchAsTold(t, text[:at]+string([]byte{byte(b)})+text[at+1:])
			checkBenchAsTold(t, text[:at]+string([]byte{byte(b)})+text[at:])
		}
	}
}

// Each text of up to four bytes of those of which lines are made, alone and between two that are right.
func TestBenchOfAnyShortText(t *testing.T) {
	bytes := []int64{'\n', ' ', '0', '-', 'f', 'n', '\r', 0, 255}
	for n := range 5 {
		eachShortRow(n, bytes, func(row []int64) {
			text := ""
			for _, b := range row {
				text += string([]byte{byte(b)})
			}
			checkBenchAsTold(t, text)
			checkBenchAsTold(t, "free"+text+"free")
		})
	}
}

// All texts of three lines out of many, behind one that makes an object.
func TestEveryShortBench(t *testing.T) {
	lines := []string{
		"", "new 1 2 2 1", "new 0 1 0 3", "pin 1 1 20", "int 0 3", "nil 0", "copy 1 0", "fetch 0 1 0", "store 1 0 0", "scavenge", "full", "swap 0 1", "replace 1 0",
		"mourn 0", "tenure 0", "hash 1", "same 0 1", "free", "at 0", "show 0", "show  0", "new 1 2 2 0",
	}
	asked := 0
	eachShortRow(3, fromTo(0, int64(len(lines))-1), func(row []int64) {
		asked++
		checkBenchAsTold(t, lined("new 0 1 1 1", lines[row[0]], lines[row[1]], lines[row[2]]))
	})
	if asked != 22*22*22 {
		t.Fatal(asked)
	}
}

// answersSeen counts what each word was answered: the answer itself, or the kind of it where there are many.
func answersSeen(lines []string, answers []string, seen map[[2]string]int) {
	n := 0
	for _, line := range lines {
		if line == "" {
			continue
		}
		word, _, _ := strings.Cut(line, " ")
		answer := answers[n]
		n++
		if _, is := takes(word); !is {
			word = "none"
		}
		switch {
		case answer == "error" || answer == "ok" || slices.Contains([]string{"new", "pin", "swap", "replace", "same"}, word):
		case word == "show":
			answer = answer[:1]
		default:
			answer = "number"
		}
		seen[[2]string{word, answer}]++
	}
}

// withBytes is how many of them are answered.
func withBytes(lines []string) int {
	return len(slices.DeleteFunc(slices.Clone(lines), func(line string) bool { return line == "" }))
}

// Texts by dice: each line is answered as by the chapters ahead, and what comes later changes nothing ahead of it.
func TestBenchByDice(t *testing.T) {
	d := &dice{n: 20}
	seen := map[[2]string]int{}
	for turn := range 700 {
		lines := d.benchText(int(1 + d.roll(200)))
		if turn%3 == 0 {
			lines = d.benchText(200)
		}
		text := lined(lines...)
		happen := happens(impl.Happen)
		if turn%10 == 0 {
			happen = wantHappen
		}
		want := wantBench(text, happen)
		checkBench(t, text, want)
		checkBench(t, strings.TrimSuffix(text, "\n"), want)
		answersSeen(lines, strings.Split(want, "\n"), seen)
		cuts := []int{int(d.roll(int64(len(lines)))), len(lines) - 1}
		if turn%100 == 0 {
			cuts = nil
			for n := range lines {
				cuts = append(cuts, n)
			}
		}
		for _, n := range cuts {
			got := impl.Bench(lined(lines[:n]...))
			if !strings.HasPrefix(want, got) || strings.Count(got, "\n") != withBytes(lines[:n]) {
				t.Fatalf("%q\nis answered %q\nof which the first %d lines\n%q", text, want, n, got)
			}
		}
	}
	for word, list := range map[string]string{
		"new": "0 1 2 3 error", "pin": "0 1 2 3 error", "int": "ok error", "nil": "ok error", "copy": "ok error", "fetch": "ok error", "store": "ok error",
		"scavenge": "number error", "full": "number error", "swap": "0 1 2 3 4 error", "replace": "0 1 2 3 error", "mourn": "ok error", "tenure": "ok error",
		"hash": "number error", "same": "0 1 error", "free": "number", "at": "number error", "show": "n i o", "none": "error",
	} {
		for _, answer := range strings.Fields(list) {
			if n := seen[[2]string{word, answer}]; n < 5 {
				t.Errorf("only %d of %s are answered %s", n, word, answer)
			}
		}
	}
}

// Many benches at once, none of which knows of the other, nor of one ahead of it.
func TestBenchesAtOnce(t *testing.T) {
	d := &dice{n: 2020}
	texts, wants := []string{}, []string{}
	for range 16 {
		text := lined(d.benchText(120)...)
		texts, wants = append(texts, text), append(wants, wantBench(text, impl.Happen))
	}
	var all sync.WaitGroup
	for i := range 64 {
		all.Go(func() {
			for range 8 {
				if got := impl.Bench(texts[i%16]); got != wants[i%16] {
					t.Errorf("%q\nis answered %q, want %q", texts[i%16], got, wants[i%16])
				}
			}
		})
	}
	all.Wait()
}
