package tests

import (
	"math"
	"slices"
	"strconv"
	"strings"
	"testing"

	"loop.example/g00337/impl"
)

// spareEntry marks the room behind a list of Entries.
var spareEntry = impl.Entry{Index: spare, Name: "behind the list"}

// entered is a list of Entries with marked room behind it, and a picture of both as they were handed in.
type entered struct {
	list []impl.Entry
	was  []impl.Entry
}

func enter(list ...impl.Entry) entered {
	all := make([]impl.Entry, len(list)+5)
	for i := range all {
		all[i] = spareEntry
	}
	copy(all, list)
	return entered{list: all[:len(list)], was: slices.Clone(all)}
}

func (e entered) check(t *testing.T) {
	t.Helper()
	if all := e.list[:len(e.was)]; !slices.Equal(all, e.was) {
		t.Fatalf("an argument, with the room behind it, became %v, was %v", all, e.was)
	}
}

func overwriteEntries(got []impl.Entry) {
	all := got[:cap(got)]
	for i := range all {
		all[i] = impl.Entry{Index: 4444444, Name: "written over"}
	}
}

// named is Entries of these Indexes, in this order, each Name made of its place.
func named(indexes ...int64) []impl.Entry {
	list := []impl.Entry{}
	for i, index := range indexes {
		list = append(list, impl.Entry{Index: index, Name: "class " + strconv.Itoa(i)})
	}
	return list
}

func fromTo(from, to int64) []int64 {
	made := []int64{}
	for i := from; i <= to; i++ {
		made = append(made, i)
	}
	return made
}

// wantClasses holds each Entry against each other one, as the chapter's words do.
func wantClasses(list []impl.Entry) bool {
	if len(list) > 40 {
		return false
	}
	for i, e := range list {
		if e.Index < 0 || e.Index > 99 || e.Name == "" || len(e.Name) > 20 {
			return false
		}
		for _, f := range list[i+1:] {
			if e.Index >= f.Index || e.Name == f.Name {
				return false
			}
		}
	}
	return true
}

func hasIndex(list []impl.Entry, index int64) bool {
	return slices.ContainsFunc(list, func(e impl.Entry) bool { return e.Index == index })
}

func byIndex(a, b impl.Entry) int { return int(a.Index - b.Index) }

func wantClaimed(list []impl.Entry, name string) ([]impl.Entry, int64) {
	if !wantClasses(list) {
		return nil, -1
	}
	for _, e := range list {
		if e.Name == name {
			return list, e.Index
		}
	}
	if name == "" || len(name) > 20 || len(list) == 40 {
		return list, -1
	}
	least := int64(0)
	for hasIndex(list, least) {
		least++
	}
	made := append(slices.Clone(list), impl.Entry{Index: least, Name: name})
	slices.SortFunc(made, byIndex)
	return made, least
}

func wantReleased(list []impl.Entry, index int64) ([]impl.Entry, bool) {
	if !wantClasses(list) {
		return nil, false
	}
	made := []impl.Entry{}
	for _, e := range list {
		if e.Index != index {
			made = append(made, e)
		}
	}
	return made, len(made) < len(list)
}

func checkClasses(t *testing.T, e entered, want bool) {
	t.Helper()
	if got := impl.ClassesOk(e.list); got != want {
		t.Fatalf("ClassesOk of %d, %v = %v", len(e.list), e.list, got)
	}
	e.check(t)
}

func checkClaimed(t *testing.T, e entered, name string, want []impl.Entry, wantIndex int64) {
	t.Helper()
	got, index := impl.Claimed(e.list, name)
	if index != wantIndex || !slices.Equal(got, want) {
		t.Fatalf("%v: Claimed %q = %v, %d, want %v, %d", e.list, name, got, index, want, wantIndex)
	}
	overwriteEntries(got)
	e.check(t)
}

func checkReleased(t *testing.T, e entered, index int64, want []impl.Entry, wantIs bool) {
	t.Helper()
	got, is := impl.Released(e.list, index)
	if is != wantIs || !slices.Equal(got, want) {
		t.Fatalf("%v: Released %d = %v, %v, want %v, %v", e.list, index, got, is, want, wantIs)
	}
	overwriteEntries(got)
	e.check(t)
}

// checkAll asks all that can be asked of one list: with each of these Names and Indexes.
func checkAll(t *testing.T, list []impl.Entry, names []string, indexes []int64) {
	t.Helper()
	e := enter(list...)
	checkClasses(t, e, wantClasses(list))
	for _, name := range names {
		want, index := wantClaimed(list, name)
		checkClaimed(t, e, name, want, index)
	}
	for _, index := range indexes {
		want, is := wantReleased(list, index)
		checkReleased(t, e, index, want, is)
	}
}

var (
	twentyBytes    = strings.Repeat("x", 20)
	twentyOneBytes = strings.Repeat("x", 21)
)

// strangeNames are right ones: a Name is bytes, whatever they are.
var strangeNames = []string{
	" ", "\n", "\x00", "\x00\x00", "a\x00", "a", "A", "\x7f", "\x80", "\xff", "\xfe", "\xff\xff", "\xc3", "\xc3\xa9", "e\xcc\x81", "\xef\xbf\xbd",
	strings.Repeat("\x00", 20), strings.Repeat("\xff", 20), strings.Repeat("\xc3\xa9", 10), strings.Repeat("\xf0\x9f\x8f\xa0", 5), "-1", "0",
}

// wrongNames are empty or too long: some of them only where bytes are counted, not letters.
var wrongNames = []string{
	"", twentyOneBytes, strings.Repeat("\x00", 21), strings.Repeat("\xff", 21), strings.Repeat("\xc3\xa9", 10) + "x", strings.Repeat("\xf0\x9f\x8f\xa0", 6), strings.Repeat("y", 1000),
}

var farIndexes = []int64{math.MinInt64, math.MinInt64 + 1, -1 << 32, -101, -100, -2, -1, 100, 101, 128, 256, 1 << 32, math.MaxInt64 - 1, math.MaxInt64}

func TestClaimedAndReleasedInTurn(t *testing.T) {
	list, a := impl.Claimed(nil, "one")
	list, b := impl.Claimed(list, "two")
	list, c := impl.Claimed(list, "three")
	if a != 0 || b != 1 || c != 2 {
		t.Fatal(a, b, c)
	}
	again, index := impl.Claimed(list, "two")
	if index != 1 || !slices.Equal(again, list) {
		t.Fatal(again, index)
	}
	list, is := impl.Released(list, 1)
	if want := []impl.Entry{{Index: 0, Name: "one"}, {Index: 2, Name: "three"}}; !is || !slices.Equal(list, want) {
		t.Fatal(list, is)
	}
	list, index = impl.Claimed(list, "four")
	if want := []impl.Entry{{Index: 0, Name: "one"}, {Index: 1, Name: "four"}, {Index: 2, Name: "three"}}; index != 1 || !slices.Equal(list, want) {
		t.Fatal(list, index)
	}
	list, index = impl.Claimed(list, "two")
	if index != 3 || list[3] != (impl.Entry{Index: 3, Name: "two"}) || !impl.ClassesOk(list) {
		t.Fatal(list, index)
	}
}

// The lists of up to three Entries out of the edges of an Index and of a Name, right ones and wrong ones.
func TestClassesOfShortLists(t *testing.T) {
	names := []string{"", "a", "b", twentyBytes, twentyOneBytes}
	indexes := []int64{-1, 0, 1, 2, 99, 100}
	entries := []impl.Entry{}
	for _, name := range names {
		for _, index := range indexes {
			entries = append(entries, impl.Entry{Index: index, Name: name})
		}
	}
	asked := append([]int64{3, 98, math.MinInt64, math.MaxInt64}, indexes...)
	claimed := append([]string{"c", "aa"}, names...)
	checkAll(t, nil, claimed, asked)
	for _, a := range entries {
		checkAll(t, []impl.Entry{a}, claimed, asked)
		for _, b := range entries {
			checkAll(t, []impl.Entry{a, b}, claimed, asked)
			for _, c := range entries {
				checkAll(t, []impl.Entry{a, b, c}, claimed, asked)
			}
		}
	}
}

func TestClassesByTheirCount(t *testing.T) {
	asked := append(fromTo(-1, 100), farIndexes...)
	for _, from := range []int64{0, 1, 40, 59} {
		for n := int64(0); n <= 41; n++ {
			indexes := fromTo(from, from+n-1)
			list := named(indexes...)
			checkClasses(t, enter(list...), n <= 40 && from+n <= 100)
			checkAll(t, list, []string{"class 0", "class 39", "class 40", "new"}, asked)
		}
	}
	checkClasses(t, enter(named(fromTo(0, 99)...)...), false)
	checkClasses(t, enter(named(fromTo(0, 9999)...)...), false)
}

// A full list has no room for a new Name, but knows those it has.
func TestClaimedOfFullLists(t *testing.T) {
	for _, from := range []int64{0, 1, 30, 60} {
		full := named(fromTo(from, from+39)...)
		e := enter(full...)
		checkClaimed(t, e, "new", full, -1)
		checkClaimed(t, e, "", full, -1)
		checkClaimed(t, e, twentyOneBytes, full, -1)
		for i := range int64(40) {
			checkClaimed(t, e, "class "+strconv.FormatInt(i, 10), full, from+i)
		}
		less, is := impl.Released(full, from+17)
		if !is || len(less) != 39 {
			t.Fatal(less, is)
		}
		want := int64(0)
		if from == 0 {
			want = 17
		}
		if more, index := impl.Claimed(less, "new"); index != want || len(more) != 40 || !impl.ClassesOk(more) {
			t.Fatal(more, index)
		}
	}
}

func TestClaimedTakesTheLeastGap(t *testing.T) {
	for _, c := range []struct {
		indexes []int64
		want    int64
	}{
		{nil, 0},
		{[]int64{0}, 1},
		{[]int64{1}, 0},
		{[]int64{99}, 0},
		{[]int64{0, 99}, 1},
		{[]int64{1, 2, 3}, 0},
		{[]int64{0, 2, 3}, 1},
		{[]int64{0, 1, 3}, 2},
		{[]int64{0, 1, 2}, 3},
		{[]int64{0, 2, 4, 6}, 1},
		{[]int64{0, 1, 4, 5, 9}, 2},
		{fromTo(0, 38), 39},
		{fromTo(1, 39), 0},
		{fromTo(40, 78), 0},
		{fromTo(61, 99), 0},
		{append(fromTo(0, 18), fromTo(20, 39)...), 19},
		{append(fromTo(0, 37), 99), 38},
	} {
		list := named(c.indexes...)
		want, index := wantClaimed(list, "new")
		if index != c.want {
			t.Fatalf("%v: the least that is free is told as %d", c.indexes, index)
		}
		checkClaimed(t, enter(list...), "new", want, c.want)
	}
}

func TestClassesThatAreNotRight(t *testing.T) {
	lists := [][]impl.Entry{
		named(1, 0), named(0, 0), named(0, 1, 1), named(0, 2, 1), named(5, 6, 7, 6), named(-1), named(-1, 0), named(100), named(0, 100), named(99, 100), named(0, -1),
		named(math.MinInt64), named(math.MaxInt64), named(0, math.MaxInt64), named(math.MinInt64, 0), named(math.MinInt64, math.MaxInt64),
		named(fromTo(0, 40)...), named(fromTo(59, 99)...),
		{{Index: 0, Name: "a"}, {Index: 1, Name: "a"}},
		{{Index: 0, Name: "a"}, {Index: 1, Name: "b"}, {Index: 99, Name: "a"}},
		{{Index: 0, Name: "a"}, {Index: 0, Name: "a"}},
		{{Index: 3, Name: "\xff"}, {Index: 4, Name: "\xff"}},
	}
	for _, name := range wrongNames {
		lists = append(lists, []impl.Entry{{Index: 0, Name: name}}, []impl.Entry{{Index: 0, Name: "a"}, {Index: 1, Name: name}})
	}
	for _, list := range lists {
		e := enter(list...)
		checkClasses(t, e, false)
		for _, name := range []string{"a", "b", "class 0", "class 1", "new", "\xff", "", twentyOneBytes} {
			checkClaimed(t, e, name, nil, -1)
		}
		for _, index := range append(fromTo(-1, 100), farIndexes...) {
			checkReleased(t, e, index, nil, false)
		}
	}
}

func TestNamesAreBytes(t *testing.T) {
	names := append([]string{"a", "ab", twentyBytes, twentyBytes[:19], twentyBytes[:19] + "y"}, strangeNames...)
	names = slices.Compact(slices.Sorted(slices.Values(names)))
	list := []impl.Entry{}
	for i, name := range names {
		e := enter(list...)
		list = append(list, impl.Entry{Index: int64(i), Name: name})
		checkClaimed(t, e, name, list, int64(i))
	}
	e := enter(list...)
	checkClasses(t, e, true)
	for i, name := range names {
		checkClaimed(t, e, name, list, int64(i))
	}
}

func TestClaimedOfWrongNames(t *testing.T) {
	for _, list := range [][]impl.Entry{nil, named(0), named(1, 2), named(fromTo(0, 38)...), named(fromTo(0, 39)...), named(99)} {
		for _, name := range wrongNames {
			checkClaimed(t, enter(list...), name, list, -1)
		}
	}
}

func TestReleasedOfWhatIsNotThere(t *testing.T) {
	for _, list := range [][]impl.Entry{nil, named(0), named(1, 3), named(99), named(fromTo(0, 39)...), named(fromTo(60, 99)...)} {
		for _, index := range farIndexes {
			checkReleased(t, enter(list...), index, list, false)
		}
	}
	checkReleased(t, enter(named(1, 3)...), 0, named(1, 3), false)
	checkReleased(t, enter(named(1, 3)...), 2, named(1, 3), false)
	checkReleased(t, enter(named(1, 3)...), 4, named(1, 3), false)
	checkReleased(t, enter(named(0, 99)...), 99, named(0), true)
	checkReleased(t, enter(named(7)...), 7, nil, true)
}

// An Entry that is claimed and released at each place leaves the list as it was.
func TestReleasedOfClaimed(t *testing.T) {
	for gap := range int64(40) {
		indexes := slices.DeleteFunc(fromTo(0, 39), func(i int64) bool { return i == gap })
		list := named(indexes...)
		more, index := impl.Claimed(list, "new")
		if index != gap || !impl.ClassesOk(more) {
			t.Fatalf("gap at %d: Claimed told %d, %v", gap, index, more)
		}
		checkReleased(t, enter(more...), gap, list, true)
	}
}

// Whatever is claimed and released: a class has one Index, an Index one class, and each keeps the one it has.
func TestClassesHaveOneIndexEach(t *testing.T) {
	list := []impl.Entry{}
	next := int64(1)
	most := 0
	for step := range 20000 {
		next = (next*1103515245 + 12345) % (1 << 31)
		pick := next >> 8
		// The tide: the list fills up to its end and empties again, over and over.
		claims := pick%10 < 7
		if step/200%2 == 1 {
			claims = !claims
		}
		before := slices.Clone(list)
		if claims {
			name := "class " + strconv.FormatInt(pick/10%60, 10)
			want, wantIndex := wantClaimed(list, name)
			checkClaimed(t, enter(list...), name, want, wantIndex)
			list, _ = impl.Claimed(list, name)
		} else {
			index := pick / 10 % 42
			want, wantIs := wantReleased(list, index)
			checkReleased(t, enter(list...), index, want, wantIs)
			list, _ = impl.Released(list, index)
		}
		if !impl.ClassesOk(list) || !wantClasses(list) {
			t.Fatalf("step %d: %v became %v", step, before, list)
		}
		for _, e := range before {
			for _, f := range list {
				if (e.Name == f.Name) != (e.Index == f.Index) {
					t.Fatalf("step %d: %v became %v", step, e, f)
				}
			}
		}
		most = max(most, len(list))
	}
	if most != 40 {
		t.Fatalf("the list never filled up, but to %d", most)
	}
}

// An answer grown or written into, also where it is the list as it is, changes neither the list nor another answer.
func TestClassesAnswersShareNothing(t *testing.T) {
	e := enter(named(0, 2, 5)...)
	want := slices.Clone(e.list)
	more, _ := impl.Claimed(e.list, "new")
	kept := slices.Clone(more)
	asIs, _ := impl.Claimed(e.list, "class 1")
	refused, _ := impl.Claimed(e.list, "")
	less, _ := impl.Released(e.list, 2)
	notThere, _ := impl.Released(e.list, 1)
	for _, answer := range [][]impl.Entry{asIs, refused, less, notThere} {
		_ = append(answer, impl.Entry{Index: 77, Name: "grown"})
		overwriteEntries(answer)
		e.check(t)
	}
	if !slices.Equal(more, kept) {
		t.Fatalf("an answer became %v, was %v", more, kept)
	}
	empty := enter()
	for _, answer := range [][]impl.Entry{first(impl.Claimed(empty.list, "a")), first(impl.Claimed(empty.list, "")), first(impl.Released(empty.list, 0))} {
		_ = append(answer, impl.Entry{Index: 77, Name: "grown"})
		overwriteEntries(answer)
		empty.check(t)
	}
	// The list, written over afterwards, changes no answer either.
	overwriteEntries(e.list)
	if !slices.Equal(more, kept) || slices.Equal(e.list, want) {
		t.Fatalf("an answer became %v, was %v", more, kept)
	}
}

func first[A, B any](a A, _ B) A { return a }

func TestDrawByItsSum(t *testing.T) {
	for seed := range int64(65536) {
		// The document's sum, with the rest taken away by hand.
		sum := 25173*seed + 13849
		want := sum - sum/65536*65536
		if got := impl.Draw(seed); got != want {
			t.Fatalf("Draw %d = %d, want %d", seed, got, want)
		}
	}
	for seed, want := range map[int64]int64{0: 13849, 1: 39022, 65535: 54212} {
		if got := impl.Draw(seed); got != want {
			t.Fatalf("Draw %d = %d, want %d", seed, got, want)
		}
	}
}

func TestDrawOfWrongSeeds(t *testing.T) {
	for _, seed := range []int64{math.MinInt64, math.MinInt64 + 1, -1 << 32, -65537, -65536, -65535, -2, -1, 65536, 65537, 131071, 131072, 1 << 32, math.MaxInt64 - 1, math.MaxInt64} {
		if got := impl.Draw(seed); got != -1 {
			t.Fatalf("Draw %d = %d, want -1", seed, got)
		}
	}
}

// From any seed: 65536 unlike hashes, and then the first one comes again.
func TestDrawIsOneRound(t *testing.T) {
	for _, seed := range []int64{0, 1, 2, 13849, 32767, 32768, 65534, 65535} {
		var drawn [65536]int64
		hash := seed
		for n := range int64(65536) {
			hash = impl.Draw(hash)
			if hash < 0 || hash > 65535 {
				t.Fatalf("from %d, drawn as %d: %d", seed, n, hash)
			}
			if drawn[hash] != 0 {
				t.Fatalf("from %d: %d, drawn as %d, comes again as %d", seed, hash, drawn[hash]-1, n)
			}
			drawn[hash] = n + 1
		}
		if hash != seed || impl.Draw(hash) != impl.Draw(seed) {
			t.Fatalf("from %d: after a whole round at %d", seed, hash)
		}
	}
}
