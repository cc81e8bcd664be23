package tests

import (
	"fmt"
	"slices"
	"testing"

	"loop.example/g00337/impl"
)

// What the tests of several layers ask of marks. All of it is asked only of right heaps, and goes by the chapter's words.

// wantMarks are those that are Reached where an object's Id is its place and 1, however many there are.
func wantMarks(h impl.Heap) []int64 {
	places := []int64{}
	for _, id := range wantReached(bareGraph(h)) {
		places = append(places, id-1)
	}
	return places
}

// without are those of the first list that are not of the second.
func without(list, gone []int64) []int64 {
	return slices.DeleteFunc(slices.Clone(list), func(n int64) bool { return slices.Contains(gone, n) })
}

func wantGarbage(h impl.Heap) []int64 { return without(wantObjects(h), wantMarks(h)) }

func wantLiveWords(h impl.Heap) int64 {
	marks := wantMarks(h)
	words := int64(0)
	list, _ := piecesOf(h)
	for _, p := range list {
		if slices.Contains(marks, p.at) {
			words += p.size
		}
	}
	return words
}

// checkPlaces: the answer is this one, also where a former one was written into.
func checkPlaces(t *testing.T, name string, call func(impl.Heap) []int64, w watchedHeap, want []int64) {
	t.Helper()
	got, other := call(w.heap), call(w.heap)
	for _, list := range [][]int64{got, other} {
		if !slices.Equal(list, want) {
			t.Fatalf("%+v\n%s = %v, want %v", w.heap, name, list, want)
		}
		_ = append(list, 1)
		overwrite(list)
		w.check(t)
	}
}

func checkMarks(t *testing.T, w watchedHeap, marks, garbage []int64, words int64) {
	t.Helper()
	checkPlaces(t, "Marks", impl.Marks, w, marks)
	checkPlaces(t, "Garbage", impl.Garbage, w, garbage)
	if got := impl.LiveWords(w.heap); got != words {
		t.Fatalf("%+v\nLiveWords = %d, want %d", w.heap, got, words)
	}
	w.check(t)
}

func rises(list []int64) bool {
	return slices.IsSorted(list) && len(slices.Compact(slices.Clone(list))) == len(list)
}

// checkParts: each object is of Marks or of Garbage, and of one alone; notes are of Garbage.
func checkParts(t *testing.T, h impl.Heap) {
	t.Helper()
	marks, garbage := impl.Marks(h), impl.Garbage(h)
	if !rises(marks) || !rises(garbage) {
		t.Fatalf("%+v\nMarks %v or Garbage %v does not rise", h, marks, garbage)
	}
	both := joined(marks, garbage)
	slices.Sort(both)
	if !slices.Equal(both, impl.Objects(h)) {
		t.Fatalf("%+v\nMarks %v and Garbage %v are not Objects %v", h, marks, garbage, impl.Objects(h))
	}
	words := int64(0)
	for _, at := range marks {
		if head, _, is := impl.ObjectAt(h.Row, at); !is || head.Format > impl.FoEphem {
			t.Fatalf("%+v\nof Marks is %d, where %+v is", h, at, head)
		}
		words += impl.ChunkAt(h.Row, at)
	}
	if got := impl.LiveWords(h); got != words {
		t.Fatalf("%+v\nLiveWords = %d, and Marks take %d", h, got, words)
	}
}

// likeObjs tells each Reached Obj by its Class, Format, Hash and Slots, where an Obj that is led to is told by its Hash.
func likeObjs(g impl.Graph) []string {
	texts := []string{}
	for _, id := range impl.Reached(g) {
		o, _ := findObj(g, id)
		text := fmt.Sprint(o.Class, o.Format, o.Hash)
		for _, r := range o.Slots {
			if to, leads := findObj(g, r.N); leads && r.Kind == impl.RfObj {
				text += fmt.Sprint(" o", to.Hash)
			} else {
				text += fmt.Sprint(" ", r.Kind, r.N)
			}
		}
		texts = append(texts, text)
	}
	slices.Sort(texts)
	return texts
}

// likeMarks tells each of Marks likewise.
func likeMarks(h impl.Heap) []string {
	texts := []string{}
	for _, at := range impl.Marks(h) {
		head, words, _ := impl.ObjectAt(h.Row, at)
		text := fmt.Sprint(head.Class, head.Format, head.Hash)
		for _, w := range words {
			w = impl.Follow(h, w)
			if to, leads := impl.AddrOf(w); leads {
				found, _, _ := impl.ObjectAt(h.Row, to)
				text += fmt.Sprint(" o", found.Hash)
			} else if n, is := impl.IntOf(w); is {
				text += fmt.Sprint(" ", impl.RfInt, n)
			} else {
				text += fmt.Sprint(" ", impl.RfNil, 0)
			}
		}
		texts = append(texts, text)
	}
	slices.Sort(texts)
	return texts
}

// checkAsReached: Marks are what is Reached of what is Shown, where it can be Shown.
func checkAsReached(t *testing.T, h impl.Heap) {
	t.Helper()
	g := impl.Shown(h)
	if !impl.GraphOk(g) {
		return
	}
	// The places of the Objs, by their Ids from 1 on.
	came := cameTo(bareGraph(h))
	want := []int64{}
	for _, id := range impl.Reached(g) {
		want = append(want, came[id-1]-1)
	}
	slices.Sort(want)
	if marks := impl.Marks(h); !slices.Equal(marks, want) {
		t.Fatalf("%+v\nshows\n%v\nMarks %v, Reached are those at %v", h, g, marks, want)
	}
	if one, other := likeMarks(h), likeObjs(g); !slices.Equal(one, other) {
		t.Fatalf("%+v\nMarks\n%q\nReached\n%q", h, one, other)
	}
}

// checkMarking holds all three functions against the chapter's words, against the graph, and against the heap under other hands.
func checkMarking(t *testing.T, h impl.Heap) {
	t.Helper()
	if !wantHeapOk(h) {
		t.Fatalf("the test's own words say that it is wrong: %+v", h)
	}
	checkMarks(t, watchHeap(h), wantMarks(h), wantGarbage(h), wantLiveWords(h))
	checkParts(t, h)
	checkAsReached(t, h)
	// Straight, the same objects are marked where they were; carried over, as many words of them.
	if one, other := impl.Marks(h), impl.Marks(impl.Straightened(h)); !slices.Equal(one, other) {
		t.Fatalf("%+v\nMarks %v, Straightened %v", h, one, other)
	}
	if one, other := impl.LiveWords(h), impl.LiveWords(impl.Scavenged(h)); one != other {
		t.Fatalf("%+v\nLiveWords %d, Scavenged %d", h, one, other)
	}
}

// checkLeastMarks: Marks are closed, and within each set of places that is.
func checkLeastMarks(t *testing.T, h impl.Heap) {
	t.Helper()
	bare := bareGraph(h)
	ids := []int64{}
	for _, at := range impl.Marks(h) {
		ids = append(ids, at+1)
	}
	if !isClosed(bare, ids) {
		t.Fatalf("%+v\nMarks are not closed: %v and 1", h, ids)
	}
	for _, set := range setsOf(bare) {
		if isClosed(bare, set) && !isWithin(ids, set) {
			t.Fatalf("%+v\nMarks are %v and 1, and less is closed: %v", h, ids, set)
		}
	}
}

// checkNoMarking: of a wrong heap nothing is told.
func checkNoMarking(t *testing.T, h impl.Heap) {
	t.Helper()
	checkMarks(t, watchHeap(h), nil, nil, -1)
}

// shaped is an object of this Format.
func shaped(format, hash int64, words ...int64) []int64 {
	made := one(hash, words...)
	made[0] += 64 * format
	return made
}

func weakOne(hash int64, words ...int64) []int64 { return shaped(impl.FoWeak, hash, words...) }

func ephemOne(hash int64, words ...int64) []int64 { return shaped(impl.FoEphem, hash, words...) }

// markCase is a heap, and by hand what is marked in it, what is not, and how many words the marked ones take.
type markCase struct {
	name    string
	was     layout
	marks   []int64
	garbage []int64
	words   int64
}

func checkMarkCases(t *testing.T, side int64, list []markCase) {
	t.Helper()
	for _, c := range list {
		h := c.was.heap(side)
		checkBoth(t, c.name, h, true)
		if got := impl.Marks(h); !slices.Equal(got, c.marks) {
			t.Fatalf("%s: of\n%+v\nMarks = %v, want %v", c.name, h, got, c.marks)
		}
		checkMarks(t, watchHeap(h), c.marks, c.garbage, c.words)
		checkMarking(t, h)
	}
}

// laying is how a graph is laid out in a heap: which Obj comes first, and whether all words lead over notes.
type laying struct {
	half, old, side int64
	order           []int
	noted           bool
}

// laid is the heap, and by Id the place of each Obj: in the room where there is space, else upstairs. A note lies ahead of its Obj.
func (l laying) laid(g impl.Graph) (impl.Heap, map[int64]int64) {
	h := heapOf(l.half, l.old, l.side, nil, nil)
	places, doors := map[int64]int64{}, map[int64]int64{}
	below, above := l.side*l.half, 2*l.half
	for _, i := range l.order {
		o := g.Objs[i]
		size := int64(len(o.Slots)/2*2 + 2)
		if l.noted {
			size += 2
		}
		at := &above
		if below+size <= (l.side+1)*l.half {
			at = &below
		}
		places[o.Id], doors[o.Id] = *at, *at
		if l.noted {
			copy(h.Row[*at:], note(*at+2))
			places[o.Id] += 2
		}
		*at += size
	}
	for _, o := range g.Objs {
		body := one(o.Hash, wordsOf(o.Slots, doors)...)
		body[0] += 64*o.Format + 512*o.Class
		copy(h.Row[places[o.Id]:], body)
	}
	if left := int64(len(h.Row)) - above; left > 0 {
		copy(h.Row[above:], free(int(left)))
	}
	h.Top = below - l.side*l.half
	h.Roots, h.Mourned = wordsOf(g.Roots, doors), wordsOf(g.Mourned, doors)
	rightSeen(&h)
	return h, places
}

// wordsOf are what the Refs say, where each Obj is led to at its place.
func wordsOf(refs []impl.Ref, places map[int64]int64) []int64 {
	words := []int64{}
	for _, r := range refs {
		switch r.Kind {
		case impl.RfInt:
			words = append(words, num(r.N))
		case impl.RfObj:
			words = append(words, to(places[r.N]))
		default:
			words = append(words, 2)
		}
	}
	return words
}

// checkLaid: what is Reached of the graph is marked where it is laid, and nothing else is.
func (l laying) checkLaid(t *testing.T, g impl.Graph) impl.Heap {
	t.Helper()
	h, places := l.laid(g)
	if !impl.HeapOk(h) {
		t.Fatalf("%v\nlaid out is wrong: %+v", g, h)
	}
	marks := []int64{}
	words := int64(0)
	for _, id := range wantReached(g) {
		o, _ := findObj(g, id)
		marks = append(marks, places[id])
		words += int64(len(o.Slots)/2*2 + 2)
	}
	slices.Sort(marks)
	if got := impl.Marks(h); !slices.Equal(got, marks) {
		t.Fatalf("%v\nlaid out is\n%+v\nMarks = %v, want %v", g, h, got, marks)
	}
	if got, want := impl.Garbage(h), without(wantObjects(h), marks); !slices.Equal(got, want) {
		t.Fatalf("%v\nlaid out is\n%+v\nGarbage = %v, want %v", g, h, got, want)
	}
	if got := impl.LiveWords(h); got != words {
		t.Fatalf("%v\nlaid out is\n%+v\nLiveWords = %d, want %d", g, h, got, words)
	}
	return h
}

// ordersOf are the numbers below n as they rise, as they fall, and in any order.
func (d *dice) ordersOf(n int) [][]int {
	rising := []int{}
	for i := range n {
		rising = append(rising, i)
	}
	falling, mixed := slices.Clone(rising), slices.Clone(rising)
	slices.Reverse(falling)
	shuffle(d, mixed)
	return [][]int{rising, falling, mixed}
}

// thin lets few words lead into the heap, and makes FoEphem of many that have Slots.
func (d *dice) thin(h *impl.Heap) {
	for i := range h.Roots {
		if i > 1 || d.roll(3) == 0 {
			h.Roots[i] = 2
		}
	}
	list, _ := piecesOf(*h)
	for _, p := range list {
		if !p.isFree() && !p.isNote() && p.head.Slots > 0 && d.roll(2) == 0 {
			h.Row[p.at] += 64 * (impl.FoEphem - p.head.Format)
		}
	}
}
