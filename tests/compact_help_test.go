package tests

import (
	"slices"
	"testing"

	"loop.example/g00337/impl"
)

// What the tests of several layers ask of what is Swept and Compacted. All of it is asked only of right heaps, and goes by the chapter's words.

func isStraightByHand(h impl.Heap) bool { return sameHeap(wantStraightened(h), h) }

// isClosedByHand: no Slot of one of Marks leads to one that is not.
func isClosedByHand(h impl.Heap) bool {
	list, _ := piecesOf(h)
	marks := wantMarks(h)
	for _, p := range list {
		for _, w := range p.words {
			if slices.Contains(marks, p.at) && isLost(list, marks, w) {
				return false
			}
		}
	}
	return true
}

func upstairsOf(h impl.Heap) []piece {
	list, _ := piecesIn(h.Row, 2*h.Half, int64(len(h.Row)))
	return list
}

// canPush: it is straight, and no note is upstairs.
func canPush(h impl.Heap) bool {
	return isStraightByHand(h) && !slices.ContainsFunc(upstairsOf(h), piece.isNote)
}

// blank is an object of FoPlain of which nothing is told but its Slots, all of them Nil.
func blank(slots int64) []int64 { return filled(0, slots, 2) }

// block is a piece of upstairs that may come to lie elsewhere.
type block struct {
	was    int64
	body   []int64
	free   bool
	pinned bool
}

// blocksOf has free ones as they are, with whatever lies in them.
func blocksOf(h impl.Heap) []block {
	list := []block{}
	for _, p := range upstairsOf(h) {
		list = append(list, block{was: p.at, body: slices.Clone(h.Row[p.at : p.at+p.size]), free: p.isFree(), pinned: p.head.Pinned})
	}
	return list
}

// joinFree makes one of the first two free blocks that meet; it is false where none do.
func joinFree(list []block) ([]block, bool) {
	for i := 1; i < len(list); i++ {
		if list[i-1].free && list[i].free {
			list[i-1].body = free(len(list[i-1].body) + len(list[i].body))
			return slices.Delete(list, i, i+1), true
		}
	}
	return list, false
}

// swapFree lets the first object that is not Pinned, and has free room right ahead of it, change places with that; it is false where there is none.
func swapFree(list []block) bool {
	for i := 1; i < len(list); i++ {
		if list[i-1].free && !list[i].free && !list[i].pinned {
			list[i-1], list[i] = list[i], list[i-1]
			return true
		}
	}
	return false
}

// settle makes one of all free blocks that meet, and where it is told swaps all that can be, until nothing is left to do.
func settle(list []block, swaps bool) []block {
	for more := true; more; {
		list, more = joinFree(list)
		if !more && swaps {
			more = swapFree(list)
		}
	}
	return list
}

// layUpstairs puts the blocks one behind the other, and tells of each word that led to one what it is now.
func layUpstairs(h *impl.Heap, list []block) map[int64]int64 {
	became := map[int64]int64{}
	at := 2 * h.Half
	for _, b := range list {
		copy(h.Row[at:], b.body)
		if !b.free {
			became[to(b.was)] = to(at)
		}
		at += int64(len(b.body))
	}
	return became
}

func wantSwept(h impl.Heap) impl.Heap {
	made := clonedHeap(h)
	if !isStraightByHand(h) || !isClosedByHand(h) {
		return made
	}
	for _, at := range wantGarbage(h) {
		p, _ := pieceAt(h.Row, at)
		if at < 2*h.Half {
			copy(made.Row[at:], blank(p.head.Slots))
		} else {
			copy(made.Row[at:], free(int(p.size)))
		}
	}
	layUpstairs(&made, settle(blocksOf(made), false))
	rightSeen(&made)
	return made
}

func wantCompacted(h impl.Heap) impl.Heap {
	made := clonedHeap(h)
	if !canPush(h) {
		return made
	}
	blocks := blocksOf(h)
	for i, b := range blocks {
		if b.free {
			blocks[i].body = free(len(b.body))
		}
	}
	became := layUpstairs(&made, settle(blocks, true))
	lists := [][]int64{made.Roots, made.Mourned}
	then, _ := piecesOf(made)
	for _, p := range then {
		lists = append(lists, p.words)
	}
	for _, words := range lists {
		for i, w := range words {
			if now, is := became[w]; is {
				words[i] = now
			}
		}
	}
	rightSeen(&made)
	return made
}

func checkSwept(t *testing.T, w watchedHeap, want impl.Heap) {
	t.Helper()
	checkMakesHeap(t, "Swept", impl.Swept, w, want)
}

func checkCompacted(t *testing.T, w watchedHeap, want impl.Heap) {
	t.Helper()
	checkMakesHeap(t, "Compacted", impl.Compacted, w, want)
}

// checkShowsSame: both show the same, also where there are more than can be Shown.
func checkShowsSame(t *testing.T, name string, h, made impl.Heap) {
	t.Helper()
	checkSees(t, made)
	if one, other := impl.Shown(h), impl.Shown(made); !sameGraph(one, other) {
		t.Fatalf("%+v\nshows\n%v\n%s it shows\n%v", h, one, name, other)
	}
	if one, other := byCanon(bareGraph(h)), byCanon(bareGraph(made)); !sameGraph(one, other) {
		t.Fatalf("%+v\nhas\n%v\n%s it has\n%v", h, one, name, other)
	}
	if made.Half != h.Half || made.Old != h.Old || made.Side != h.Side || made.Top != h.Top || made.Seed != h.Seed {
		t.Fatalf("%+v\n%s is\n%+v", h, name, made)
	}
}

// checkNoFreeMeet: no free chunk upstairs lies right behind another.
func checkNoFreeMeet(t *testing.T, h impl.Heap) {
	t.Helper()
	list := impl.FreeIn(h.Row, 2*h.Half, int64(len(h.Row)))
	for i, at := range list {
		if i > 0 && list[i-1]+impl.ChunkAt(h.Row, list[i-1]) == at {
			t.Fatalf("%+v\nfree chunks meet at %d", h, at)
		}
	}
}

// checkGone: nothing upstairs is left that is not of Marks, those of Marks are as they were, and in the room the others say nothing.
func checkGone(t *testing.T, h, made impl.Heap) {
	t.Helper()
	marks := impl.Marks(h)
	for _, at := range impl.Garbage(made) {
		head, slots, _ := impl.ObjectAt(made.Row, at)
		was, _, _ := impl.ObjectAt(h.Row, at)
		if at >= 2*h.Half || head != (impl.Head{Slots: was.Slots}) || !slices.Equal(slots, slices.Repeat([]int64{impl.Nil}, int(was.Slots))) {
			t.Fatalf("%+v\nSwept, at %d is %+v, %v", h, at, head, slots)
		}
	}
	for _, at := range marks {
		end := at + impl.ChunkAt(h.Row, at)
		if !slices.Equal(h.Row[at:end], made.Row[at:end]) {
			t.Fatalf("%+v\nSwept, at %d is another one\n%+v", h, at, made)
		}
	}
	places := slices.DeleteFunc(impl.Objects(h), func(at int64) bool { return at >= 2*h.Half && !slices.Contains(marks, at) })
	if !slices.Equal(impl.Objects(made), places) {
		t.Fatalf("%+v\nSwept has Objects %v, want %v", h, impl.Objects(made), places)
	}
}

// checkSweeps: what is Swept is right, shows and marks the same, is as it is when it is Swept again; and where it may be, all that is not of Marks is gone.
func checkSweeps(t *testing.T, h impl.Heap) {
	t.Helper()
	made := impl.Swept(h)
	checkShowsSame(t, "Swept", h, made)
	if one, other := impl.Marks(h), impl.Marks(made); !slices.Equal(one, other) {
		t.Fatalf("%+v\nMarks %v, Swept %v", h, one, other)
	}
	if again := impl.Swept(made); !sameHeap(again, made) {
		t.Fatalf("%+v\nSwept\n%+v\nand again\n%+v", h, made, again)
	}
	if !slices.Equal(h.Roots, made.Roots) || !slices.Equal(h.Mourned, made.Mourned) {
		t.Fatalf("%+v\nSwept\n%+v", h, made)
	}
	if !isStraightByHand(h) || !isClosedByHand(h) {
		if !sameHeap(made, h) {
			t.Fatalf("%+v\nis not as it is when it is Swept\n%+v", h, made)
		}
		return
	}
	checkNoFreeMeet(t, made)
	checkGone(t, h, made)
}

// objectsUpstairs are the pieces that are not free, in order.
func objectsUpstairs(h impl.Heap) []piece { return slices.DeleteFunc(upstairsOf(h), piece.isFree) }

// checkOrder: upstairs are the same in the same order, the Pinned ones where they were, each other one right behind the one ahead.
func checkOrder(t *testing.T, h, made impl.Heap) {
	t.Helper()
	was, is := objectsUpstairs(h), objectsUpstairs(made)
	if len(was) != len(is) {
		t.Fatalf("%+v\nCompacted has %d upstairs\n%+v", h, len(is), made)
	}
	end := 2 * h.Half
	for i, p := range is {
		if p.head != was[i].head {
			t.Fatalf("%+v\nCompacted, at %d is another one\n%+v", h, p.at, made)
		}
		if p.head.Pinned {
			end = was[i].at
		}
		if p.at != end {
			t.Fatalf("%+v\nCompacted, one is at %d, not at %d\n%+v", h, p.at, end, made)
		}
		end += p.size
	}
}

// checkOneFree: where nothing is Pinned there is at most one free chunk, and it is the last.
func checkOneFree(t *testing.T, made impl.Heap) {
	t.Helper()
	list := impl.FreeIn(made.Row, 2*made.Half, int64(len(made.Row)))
	if slices.ContainsFunc(upstairsOf(made), func(p piece) bool { return p.head.Pinned }) {
		return
	}
	if len(list) > 1 || len(list) == 1 && list[0]+impl.ChunkAt(made.Row, list[0]) != int64(len(made.Row)) {
		t.Fatalf("Compacted, nothing is Pinned, and free are %v: %+v", list, made)
	}
}

func freeWordsOf(h impl.Heap) int64 {
	words := int64(0)
	for _, p := range upstairsOf(h) {
		if p.isFree() {
			words += p.size
		}
	}
	return words
}

// checkPushes: what is Compacted is right, shows the same, has as many free words, and is as it is when it is Compacted again; and where it may be, all is pushed together.
func checkPushes(t *testing.T, h impl.Heap) {
	t.Helper()
	made := impl.Compacted(h)
	checkShowsSame(t, "Compacted", h, made)
	if again := impl.Compacted(made); !sameHeap(again, made) {
		t.Fatalf("%+v\nCompacted\n%+v\nand again\n%+v", h, made, again)
	}
	if freeWordsOf(h) != freeWordsOf(made) || impl.LiveWords(h) != impl.LiveWords(made) {
		t.Fatalf("%+v\nCompacted has more or less room\n%+v", h, made)
	}
	if !canPush(h) {
		if !sameHeap(made, h) {
			t.Fatalf("%+v\nis not as it is when it is Compacted\n%+v", h, made)
		}
		return
	}
	checkNoFreeMeet(t, made)
	checkOrder(t, h, made)
	checkOneFree(t, made)
}

// checkPushing holds both functions, and one behind the other, against the chapter's words.
func checkPushing(t *testing.T, h impl.Heap) {
	t.Helper()
	if !wantHeapOk(h) {
		t.Fatalf("the test's own words say that it is wrong: %+v", h)
	}
	w := watchHeap(h)
	swept := wantSwept(h)
	checkSwept(t, w, swept)
	checkCompacted(t, w, wantCompacted(h))
	checkCompacted(t, watchHeap(swept), wantCompacted(swept))
	checkSweeps(t, h)
	checkPushes(t, h)
	checkPushes(t, swept)
}

// checkReady makes the heap one of which all may be Swept: it is checked, and Swept and Compacted it shows what is Collected.
func checkReady(t *testing.T, h impl.Heap) {
	t.Helper()
	ready := impl.Nilled(impl.Grieved(impl.Straightened(h)))
	if !isStraightByHand(ready) || !isClosedByHand(ready) {
		t.Fatalf("%+v\nStraightened, Grieved and Nilled may not be Swept\n%+v", h, ready)
	}
	checkPushing(t, ready)
	made := impl.Compacted(impl.Swept(ready))
	if !canPush(made) {
		t.Fatalf("%+v\nSwept and Compacted a note is upstairs\n%+v", ready, made)
	}
	was := impl.Shown(h)
	if !impl.GraphOk(was) {
		return
	}
	if got, want := impl.Canon(impl.Shown(made)), impl.Canon(impl.Collected(was)); got != want {
		t.Fatalf("%+v\nSwept and Compacted shows\n%s\nCollected is\n%s", ready, got, want)
	}
}

// checkNoPushing: of a wrong heap nothing is told.
func checkNoPushing(t *testing.T, h impl.Heap) {
	t.Helper()
	w := watchHeap(h)
	checkSwept(t, w, impl.Heap{})
	checkCompacted(t, w, impl.Heap{})
}

// pushCase is a heap as it is, and by hand as it is then, with what is Seen.
type pushCase struct {
	name      string
	was, then layout
	seen      []int64
}

func checkPushCases(t *testing.T, side int64, call func(impl.Heap) impl.Heap, list []pushCase) {
	t.Helper()
	for _, c := range list {
		h, want := c.was.heap(side), c.then.heap(side)
		want.Seen = c.seen
		checkBoth(t, c.name, h, true)
		checkBoth(t, c.name+", then", want, true)
		if got := call(h); !sameHeap(got, want) {
			t.Fatalf("%s: of\n%+v\nit became\n%+v\nwant\n%+v", c.name, h, got, want)
		}
		checkPushing(t, h)
	}
}

// sameCase is a heap that stays as it is.
type sameCase struct {
	name string
	was  layout
}

func checkSameCases(t *testing.T, side int64, call func(impl.Heap) impl.Heap, list []sameCase) {
	t.Helper()
	for _, c := range list {
		h := c.was.heap(side)
		checkPushCases(t, side, call, []pushCase{{c.name, c.was, c.was, h.Seen}})
	}
}

// nailed is an object that is Pinned.
func nailed(body []int64) []int64 {
	made := slices.Clone(body)
	made[0] += pinned
	return made
}

// withoutNotes makes a FoPlain one of each note upstairs; in all of its Slots stands what stood in the note.
func withoutNotes(h *impl.Heap) {
	for _, p := range upstairsOf(*h) {
		if p.isNote() {
			h.Row[p.at] -= 64 * 7
			for i := range p.head.Slots {
				h.Row[p.at+1+i] = p.words[0]
			}
		}
	}
	rightSeen(h)
}

// unnailed lets no head be Pinned.
func unnailed(h *impl.Heap) {
	for _, p := range upstairsOf(*h) {
		if p.head.Pinned {
			h.Row[p.at] -= pinned
		}
	}
}
