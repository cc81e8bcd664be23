package tests

import (
	"slices"
	"testing"

	"loop.example/g00337/impl"
)

// What the tests of several layers ask of what is Seen, Fetched, Stored and Tenured. All of it goes by the chapter's words; but for wantSeenOf it is asked only of right heaps.

// wantSeenOf is what makes the heap right, if anything does.
func wantSeenOf(h impl.Heap) []int64 {
	made := clonedHeap(h)
	made.Seen = nil
	if wantNumbers(made) {
		rightSeen(&made)
	}
	if !wantHeapOk(made) {
		return nil
	}
	return made.Seen
}

// objectByHand is the object there; a note and what is free are none.
func objectByHand(h impl.Heap, at int64) (piece, bool) {
	list, _ := piecesOf(h)
	for _, p := range list {
		if p.at == at {
			return p, !p.isNote() && !p.isFree()
		}
	}
	return piece{}, false
}

func slotByHand(h impl.Heap, at, slot int64) (int64, bool) {
	p, is := objectByHand(h, at)
	if !is || slot < 0 || slot >= p.head.Slots {
		return 0, false
	}
	return h.Row[at+1+slot], true
}

func wantFetched(h impl.Heap, at, slot int64) (int64, bool) {
	w, is := slotByHand(h, at, slot)
	if !is {
		return 0, false
	}
	list, _ := piecesOf(h)
	return wantFollow(list, w), true
}

func wantStored(h impl.Heap, at, slot, w int64) (impl.Heap, bool) {
	made := clonedHeap(h)
	list, _ := piecesOf(h)
	if _, is := slotByHand(h, at, slot); !is || !wantHeld(list, []int64{w}) {
		return made, false
	}
	made.Row[at+1+slot] = w
	rightSeen(&made)
	return made, true
}

// wantPlace holds each free chunk upstairs against the best one ahead of it; -1 where none will do.
func wantPlace(h impl.Heap, size int64) int64 {
	list, _ := piecesIn(h.Row, 2*h.Half, 2*h.Half+h.Old)
	best := piece{at: -1}
	for _, p := range list {
		if p.isFree() && p.size >= size && (best.at < 0 || p.size < best.size) {
			best = p
		}
	}
	return best.at
}

// leftNote is the note that an object with so many Slots leaves, and that leads there.
func leftNote(slots, place int64) []int64 {
	return zeros(int(slots/2*2+2), noteHead+slots, to(place))
}

func wantTenured(h impl.Heap, at int64) (impl.Heap, bool) {
	made := clonedHeap(h)
	p, is := objectByHand(h, at)
	if !is || at >= 2*h.Half {
		return made, false
	}
	place := wantPlace(h, p.size)
	if place < 0 {
		return made, false
	}
	takeByHand(&made, place, p.size)
	copy(made.Row[place:], h.Row[at:at+p.size])
	copy(made.Row[at:], leftNote(p.head.Slots, place))
	rightSeen(&made)
	return made, true
}

func checkSeenOf(t *testing.T, w watchedHeap, want []int64) {
	t.Helper()
	got, other := impl.SeenOf(w.heap), impl.SeenOf(w.heap)
	for _, list := range [][]int64{got, other} {
		if !slices.Equal(list, want) {
			t.Fatalf("%+v: SeenOf = %v, want %v", w.heap, list, want)
		}
		_ = append(list, 1)
		overwrite(list)
		w.check(t)
	}
}

func checkFetched(t *testing.T, w watchedHeap, at, slot, want int64, wantIs bool) {
	t.Helper()
	if got, is := impl.Fetched(w.heap, at, slot); got != want || is != wantIs {
		t.Fatalf("%+v: Fetched at %d of Slot %d = %d, %v, want %d, %v", w.heap, at, slot, got, is, want, wantIs)
	}
	w.check(t)
}

// checkMadeHeap: the answer is this one, and whoever has it writes over all of it.
func checkMadeHeap(t *testing.T, name string, w watchedHeap, got impl.Heap, is bool, want impl.Heap, wantIs bool) {
	t.Helper()
	if is != wantIs || !sameHeap(got, want) {
		t.Fatalf("%+v\n%s =\n%+v, %v\nwant\n%+v, %v", w.heap, name, got, is, want, wantIs)
	}
	for _, list := range [][]int64{got.Row, got.Roots, got.Mourned, got.Seen} {
		_ = append(list, 1)
	}
	checkHeapApart(t, got)
	w.check(t)
}

func checkStored(t *testing.T, w watchedHeap, at, slot, word int64, want impl.Heap, wantIs bool) {
	t.Helper()
	got, is := impl.Stored(w.heap, at, slot, word)
	other, otherIs := impl.Stored(w.heap, at, slot, word)
	checkMadeHeap(t, "Stored", w, got, is, want, wantIs)
	checkMadeHeap(t, "Stored", w, other, otherIs, want, wantIs)
}

func checkTenured(t *testing.T, w watchedHeap, at int64, want impl.Heap, wantIs bool) {
	t.Helper()
	got, is := impl.Tenured(w.heap, at)
	other, otherIs := impl.Tenured(w.heap, at)
	checkMadeHeap(t, "Tenured", w, got, is, want, wantIs)
	checkMadeHeap(t, "Tenured", w, other, otherIs, want, wantIs)
}

// checkSees: it is right, and Seen is what SeenOf tells, whatever Seen is.
func checkSees(t *testing.T, h impl.Heap) {
	t.Helper()
	if !impl.HeapOk(h) || !wantHeapOk(h) {
		t.Fatalf("it is not right: %+v", h)
	}
	if seen := impl.SeenOf(h); !slices.Equal(seen, h.Seen) {
		t.Fatalf("%+v\nSeenOf = %v", h, seen)
	}
	blank := clonedHeap(h)
	blank.Seen = nil
	if seen := impl.SeenOf(blank); !slices.Equal(seen, h.Seen) {
		t.Fatalf("%+v\nwithout Seen, SeenOf = %v", h, seen)
	}
}

// checkAsInGraph: Root 1 leads to the object and Root 2 is the word; what is Stored and Fetched of the heap shows what it is of the graph.
func checkAsInGraph(t *testing.T, h impl.Heap, at, slot, word int64) {
	t.Helper()
	h = clonedHeap(h)
	h.Roots[1], h.Roots[2] = to(at), word
	g := impl.Shown(h)
	if !impl.GraphOk(g) {
		return
	}
	stored, is := impl.Stored(h, at, slot, word)
	want, wantIs := impl.GStored(g, 1, slot, 2)
	if got := impl.Shown(stored); is != wantIs || impl.Canon(got) != impl.Canon(want) || got.Seed != want.Seed {
		t.Fatalf("%+v\nat %d, Slot %d, Stored %d, %v shows\n%v\nthe graph, %v\n%v", h, at, slot, word, is, got, wantIs, want)
	}
	fetched, is := impl.Fetched(h, at, slot)
	want, wantIs = impl.GFetched(g, 3, 1, slot)
	if is {
		h.Roots[3] = fetched
	}
	if got := impl.Shown(h); is != wantIs || impl.Canon(got) != impl.Canon(want) || got.Seed != want.Seed {
		t.Fatalf("%+v\nat %d, Slot %d, Fetched %d, %v shows\n%v\nthe graph, %v\n%v", h, at, slot, fetched, is, got, wantIs, want)
	}
}

// checkStoring holds Fetched and Stored of one Slot against the chapter's words, and against the graph.
func checkStoring(t *testing.T, h impl.Heap, at, slot, word int64) bool {
	t.Helper()
	w := watchHeap(h)
	was, is := wantFetched(h, at, slot)
	checkFetched(t, w, at, slot, was, is)
	want, stored := wantStored(h, at, slot, word)
	checkStored(t, w, at, slot, word, want, stored)
	if stored {
		made, _ := impl.Stored(h, at, slot, word)
		checkSees(t, made)
		list, _ := piecesOf(h)
		checkFetched(t, watchHeap(made), at, slot, wantFollow(list, word), true)
		checkFetched(t, watchHeap(made), at, slot, impl.Follow(made, word), true)
		// The word that was, Stored again: all is as it was.
		back, _ := slotByHand(h, at, slot)
		checkStored(t, watchHeap(made), at, slot, back, h, true)
		checkAsInGraph(t, h, at, slot, word)
	}
	return stored
}

// checkTenuring holds Tenured of one place against the chapter's words: it shows the same, and who led there is led on.
func checkTenuring(t *testing.T, h impl.Heap, at int64) bool {
	t.Helper()
	want, is := wantTenured(h, at)
	checkTenured(t, watchHeap(h), at, want, is)
	if !is {
		return false
	}
	made, _ := impl.Tenured(h, at)
	checkSees(t, made)
	if one, other := impl.Shown(h), impl.Shown(made); !sameGraph(one, other) || !sameGraph(other, wantShown(h)) {
		t.Fatalf("%+v\nshows\n%v\nTenured at %d it shows\n%v", h, one, at, other)
	}
	p, _ := objectByHand(h, at)
	place := wantPlace(h, p.size)
	if impl.Follow(made, to(at)) != to(place) || len(impl.Objects(made)) != len(impl.Objects(h))+1 {
		t.Fatalf("%+v\nTenured at %d: it leads to %d\n%+v", h, at, impl.Follow(made, to(at)), made)
	}
	// Once there it is no more of the room, and in its place is a note.
	checkTenured(t, watchHeap(made), at, made, false)
	checkTenured(t, watchHeap(made), place, made, false)
	return true
}

// checkSeeing holds all four functions against the chapter's words, at each place and of each Slot, with words by dice.
func checkSeeing(t *testing.T, d *dice, h impl.Heap) (stored, tenured int) {
	t.Helper()
	if !wantHeapOk(h) {
		t.Fatalf("the test's own words say that it is wrong: %+v", h)
	}
	checkSeenOf(t, watchHeap(h), h.Seen)
	checkSees(t, h)
	words := wordsFor(h)
	for at := int64(-1); at <= int64(len(h.Row)); at++ {
		p, is := objectByHand(h, at)
		if !is && d.roll(8) > 0 {
			continue
		}
		for _, slot := range []int64{-1, 0, p.head.Slots - 1, p.head.Slots, d.roll(p.head.Slots + 1)} {
			if checkStoring(t, h, at, slot, words[d.roll(int64(len(words)))]) {
				stored++
			}
		}
		if checkTenuring(t, h, at) {
			tenured++
		}
	}
	return stored, tenured
}

// checkNoSeeing: of a wrong heap nothing is told; what it must see is told all the same, where Seen alone is wrong.
func checkNoSeeing(t *testing.T, h impl.Heap) {
	t.Helper()
	w := watchHeap(h)
	checkSeenOf(t, w, wantSeenOf(h))
	for at := int64(-1); at <= int64(len(h.Row)); at++ {
		for _, slot := range []int64{-1, 0, 1} {
			checkFetched(t, w, at, slot, 0, false)
			checkStored(t, w, at, slot, 2, impl.Heap{}, false)
		}
		checkTenured(t, w, at, impl.Heap{}, false)
	}
}
