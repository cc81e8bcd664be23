package tests

import (
	"maps"
	"slices"
	"testing"

	"loop.example/g00337/impl"
)

// What the tests of several layers ask of what is once through the house. All of it is asked only of right heaps, and goes by the chapter's words.

func wantFull(h impl.Heap) impl.Heap {
	for _, want := range []func(impl.Heap) impl.Heap{wantStraightened, wantGrieved, wantNilled, wantSwept, wantCompacted, wantScavenged} {
		h = want(h)
	}
	return h
}

func biggestOf(h impl.Heap) int64 {
	most := int64(0)
	for _, p := range upstairsOf(h) {
		if p.isFree() && p.size > most {
			most = p.size
		}
	}
	return most
}

func checkFull(t *testing.T, w watchedHeap, want impl.Heap) {
	t.Helper()
	checkMakesHeap(t, "Full", impl.Full, w, want)
}

func checkFree(t *testing.T, w watchedHeap, words, most int64) {
	t.Helper()
	if got := impl.FreeWords(w.heap); got != words {
		t.Fatalf("%+v\nFreeWords = %d, want %d", w.heap, got, words)
	}
	if got := impl.Biggest(w.heap); got != most {
		t.Fatalf("%+v\nBiggest = %d, want %d", w.heap, got, most)
	}
	w.check(t)
}

// checkFreeOf holds both against the chunks by hand, and against those that FreeIn tells.
func checkFreeOf(t *testing.T, h impl.Heap) {
	t.Helper()
	checkFree(t, watchHeap(h), freeWordsOf(h), biggestOf(h))
	words, most := int64(0), int64(0)
	for _, at := range impl.FreeIn(h.Row, 2*h.Half, int64(len(h.Row))) {
		words += impl.ChunkAt(h.Row, at)
		most = max(most, impl.ChunkAt(h.Row, at))
	}
	checkFree(t, watchHeap(h), words, most)
}

// checkSteps: it is what the six functions make of it, one after the other, in every field.
func checkSteps(t *testing.T, h impl.Heap) {
	t.Helper()
	want := impl.Scavenged(impl.Compacted(impl.Swept(impl.Nilled(impl.Grieved(impl.Straightened(h))))))
	if got := impl.Full(h); !sameHeap(got, want) {
		t.Fatalf("%+v\nFull =\n%+v\nstep by step\n%+v", h, got, want)
	}
}

// checkShowsCollected: it shows what is Collected of what was Shown, also where there are more than can be Shown.
func checkShowsCollected(t *testing.T, h, made impl.Heap) {
	t.Helper()
	if was := impl.Shown(h); impl.GraphOk(was) {
		got, want := impl.Shown(made), impl.Collected(was)
		if impl.Canon(got) != impl.Canon(want) || got.Seed != want.Seed || impl.Canon(got) == "" {
			t.Fatalf("%+v\nFull shows\n%v\nCollected is\n%v", h, got, want)
		}
	}
	got, want := byCanon(bareGraph(made)), byCanon(wantCollected(byCanon(bareGraph(h))))
	if !sameGraph(got, want) {
		t.Fatalf("%+v\nFull has\n%v\nCollected is\n%v", h, got, want)
	}
}

// checkAllWanted: no object is left that is not of Marks, neither upstairs nor in the room, and no note.
func checkAllWanted(t *testing.T, h, made impl.Heap) {
	t.Helper()
	if gone := impl.Garbage(made); len(gone) > 0 {
		t.Fatalf("%+v\nFull has Garbage %v\n%+v", h, gone, made)
	}
	if marks := impl.Marks(made); !slices.Equal(marks, impl.Objects(made)) || !slices.Equal(marks, wantMarks(made)) {
		t.Fatalf("%+v\nFull has Objects %v, Marks %v\n%+v", h, impl.Objects(made), marks, made)
	}
	checkEmptied(t, made)
	checkNoFreeMeet(t, made)
	checkOneFree(t, made)
}

// pairing goes through a heap as it was and as it is then at once, from Roots and Mourned on.
type pairing struct {
	t         *testing.T
	was, then []piece
	kept      []int64
	// By the place where one was, the place where it is.
	went map[int64]int64
	todo []piece
}

func (p *pairing) pair(w, now int64) {
	p.t.Helper()
	one, leads := pieceLedTo(p.was, wantFollow(p.was, w))
	if !leads {
		if w != now {
			p.t.Fatalf("a word was %d and is %d", w, now)
		}
		return
	}
	other, leads := pieceLedTo(p.then, now)
	if !leads || one.head != other.head {
		p.t.Fatalf("at %d was %+v, and what leads there leads to %+v", one.at, one, other)
	}
	at, known := p.went[one.at]
	if known && at != other.at {
		p.t.Fatalf("the one at %d is at %d and at %d", one.at, at, other.at)
	}
	if !known {
		p.went[one.at] = other.at
		p.todo = append(p.todo, one)
	}
}

// pairSlots lets a FoWeak one let go of what is not kept.
func (p *pairing) pairSlots(one piece) {
	p.t.Helper()
	now, _ := pieceLedTo(p.then, to(p.went[one.at]))
	for i, w := range one.words {
		if one.head.Format == 1 && isLost(p.was, p.kept, w) {
			w = 2
		}
		p.pair(w, now.words[i])
	}
}

// wentTo pairs all that is kept of a heap in which nobody grieves with what is there then.
func wentTo(t *testing.T, was, then impl.Heap) map[int64]int64 {
	t.Helper()
	p := &pairing{t: t, kept: wantMarks(was), went: map[int64]int64{}}
	p.was, _ = piecesOf(was)
	p.then, _ = piecesOf(then)
	if len(was.Mourned) != len(then.Mourned) {
		t.Fatalf("%+v\nMourned is then\n%+v", was, then)
	}
	for i, w := range was.Roots {
		p.pair(w, then.Roots[i])
	}
	for i, w := range was.Mourned {
		p.pair(w, then.Mourned[i])
	}
	for len(p.todo) > 0 {
		one := p.todo[0]
		p.todo = p.todo[1:]
		p.pairSlots(one)
	}
	if !slices.Equal(slices.Sorted(maps.Keys(p.went)), p.kept) {
		t.Fatalf("%+v\nkept are %v, and of them are there %v", was, p.kept, p.went)
	}
	return p.went
}

// checkWent: each that is kept is there once, upstairs if it was there and in the same order, and where it was if it is Pinned.
func checkWent(t *testing.T, h, made impl.Heap) {
	t.Helper()
	was := wantGrieved(h)
	went := wentTo(t, was, made)
	if places := slices.Sorted(maps.Values(went)); !slices.Equal(places, impl.Objects(made)) {
		t.Fatalf("%+v\nFull\n%+v\nhas Objects that were not there, or two in one: %v", h, made, places)
	}
	last := int64(-1)
	for _, at := range slices.Sorted(maps.Keys(went)) {
		now := went[at]
		head, _, _ := impl.ObjectAt(was.Row, at)
		if (at < 2*h.Half) != (now < 2*h.Half) || head.Pinned && now != at {
			t.Fatalf("%+v\nFull\n%+v\nwhat was at %d is at %d", h, made, at, now)
		}
		if at >= 2*h.Half && (now > at || now <= last) {
			t.Fatalf("%+v\nFull\n%+v\nwhat was at %d is at %d, behind %d", h, made, at, now, last)
		}
		if at >= 2*h.Half {
			last = now
		}
	}
}

// checkRoomAfter: free is all that is not of Marks upstairs, and it is no less than it was, in one piece where nothing is Pinned.
func checkRoomAfter(t *testing.T, h, made impl.Heap) {
	t.Helper()
	checkFreeOf(t, made)
	words, most := impl.FreeWords(made), impl.Biggest(made)
	if taken := impl.LiveWords(made) - made.Top; words != made.Old-taken {
		t.Fatalf("%+v\nFull has %d words free, and %d taken upstairs\n%+v", h, words, taken, made)
	}
	if words < impl.FreeWords(h) || most < impl.Biggest(h) {
		t.Fatalf("%+v\nhas %d words free, one chunk %d\nFull %d, %d", h, impl.FreeWords(h), impl.Biggest(h), words, most)
	}
	held := slices.ContainsFunc(upstairsOf(made), func(p piece) bool { return p.head.Pinned })
	if !held && most != words {
		t.Fatalf("%+v\nFull, nothing is Pinned, has %d words free, and the biggest takes %d", h, words, most)
	}
}

// checkFullAgain: Full again shows the same from the other half, and once more all is as it was.
func checkFullAgain(t *testing.T, made impl.Heap) {
	t.Helper()
	twice := impl.Full(made)
	thrice := impl.Full(twice)
	if !sameGraph(impl.Shown(twice), impl.Shown(made)) || !sameGraph(byCanon(bareGraph(twice)), byCanon(bareGraph(made))) {
		t.Fatalf("%+v\nshows\n%v\nFull again\n%v", made, impl.Shown(made), impl.Shown(twice))
	}
	if twice.Side != 1-made.Side || twice.Top != made.Top || !sameHeap(thrice, made) {
		t.Fatalf("%+v\nFull again\n%+v\nand once more\n%+v", made, twice, thrice)
	}
	if impl.FreeWords(twice) != impl.FreeWords(made) || impl.Biggest(twice) != impl.Biggest(made) {
		t.Fatalf("%+v\nFull again has other room\n%+v", made, twice)
	}
}

// checkCollects holds the promise: once through the house it shows what is Collected, and who is Pinned is where it was.
func checkCollects(t *testing.T, h impl.Heap) {
	t.Helper()
	made := impl.Full(h)
	checkSees(t, made)
	if made.Half != h.Half || made.Old != h.Old || made.Side != 1-h.Side || made.Seed != h.Seed || made.Top > h.Top {
		t.Fatalf("%+v\nFull is\n%+v", h, made)
	}
	checkShowsCollected(t, h, made)
	checkAllWanted(t, h, made)
	checkWent(t, h, made)
	checkRoomAfter(t, h, made)
	checkFullAgain(t, made)
}

// checkThrough holds all three functions against the chapter's words, and the promise.
func checkThrough(t *testing.T, h impl.Heap) {
	t.Helper()
	if !wantHeapOk(h) {
		t.Fatalf("the test's own words say that it is wrong: %+v", h)
	}
	checkFull(t, watchHeap(h), wantFull(h))
	checkFreeOf(t, h)
	checkSteps(t, h)
	checkCollects(t, h)
}

// checkNotThrough: of a wrong heap nothing is told.
func checkNotThrough(t *testing.T, h impl.Heap) {
	t.Helper()
	w := watchHeap(h)
	checkFull(t, w, impl.Heap{})
	checkFree(t, w, -1, -1)
}

// freeRoom is FreeWords and Biggest.
type freeRoom struct{ words, most int64 }

// fullCase is a heap as it is, and by hand as it is once through the house, with what is Seen and what is free ahead and after.
type fullCase struct {
	name         string
	was, then    layout
	seen         []int64
	ahead, after freeRoom
}

func checkFullCases(t *testing.T, side int64, list []fullCase) {
	t.Helper()
	for _, c := range list {
		h, want := c.was.heap(side), c.then.heap(1-side)
		want.Seen = c.seen
		checkBoth(t, c.name, h, true)
		checkBoth(t, c.name+", then", want, true)
		if got := impl.Full(h); !sameHeap(got, want) {
			t.Fatalf("%s: of\n%+v\nFull =\n%+v\nwant\n%+v", c.name, h, got, want)
		}
		checkFree(t, watchHeap(h), c.ahead.words, c.ahead.most)
		checkFree(t, watchHeap(want), c.after.words, c.after.most)
		checkThrough(t, h)
	}
}

// detours lets about half of all words that lead to an object lead to a note that leads there, if there is one; and notes, too. It is asked only of heaps whose notes lead to objects, and shows the same then.
func (d *dice) detours(h *impl.Heap) {
	doors := map[int64][]int64{}
	goOver := func(words []int64) {
		for i, w := range words {
			if list := doors[w]; len(list) > 0 && d.roll(2) == 0 {
				words[i] = list[d.roll(int64(len(list)))]
			}
		}
	}
	list, _ := piecesOf(*h)
	for _, p := range list {
		if p.isNote() {
			w := p.words[0]
			goOver(p.words)
			doors[w] = append(doors[w], to(p.at))
		}
	}
	goOver(h.Roots)
	goOver(h.Mourned)
	for _, p := range list {
		if !p.isNote() {
			goOver(p.words)
		}
	}
	rightSeen(h)
}

// mixedHeap is by turns one with and without many notes, with and without Pinned ones, and with words that lead over notes or straight on.
func (d *dice) mixedHeap(turn int) impl.Heap {
	h := d.heap(8+2*d.roll(14), 8+2*d.roll(24), d.roll(3))
	if turn%5 == 1 {
		d.noted(&h)
	}
	if turn%3 > 0 {
		d.detours(&h)
	}
	if turn%4 > 1 {
		unnailed(&h)
	}
	return h
}
