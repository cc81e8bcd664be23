package tests

import (
	"slices"
	"testing"

	"loop.example/g00337/impl"
)

// What the tests of several layers ask of what is carried over. All of it is asked only of right heaps, and goes by the chapter's words.

// wordsIn are those of Roots, of Mourned and of the chunks of Seen.
func wordsIn(h impl.Heap) []int64 {
	words := joined(h.Roots, h.Mourned)
	for _, at := range h.Seen {
		p, _ := pieceAt(h.Row, at)
		words = append(words, p.words...)
	}
	return words
}

// wantOrder are those of the room that are carried, in the order in which they are come to: behind all words stand those of who was carried.
func wantOrder(h impl.Heap) []piece {
	list, _ := piecesOf(h)
	words := wordsIn(h)
	order := []piece{}
	known := map[int64]int{}
	for i := 0; i < len(words); i++ {
		p, is := pieceLedTo(list, wantFollow(list, words[i]))
		if is && p.at < 2*h.Half && known[p.at] == 0 {
			order = append(order, p)
			known[p.at] = len(order)
			words = append(words, p.words...)
		}
	}
	return order
}

// wantScavenged puts those that are carried one behind the other first, and only then makes all words lead anew.
func wantScavenged(h impl.Heap) impl.Heap {
	list, _ := piecesOf(h)
	made := clonedHeap(h)
	made.Side, made.Top = 1-h.Side, 0
	copy(made.Row, zeros(int(2*h.Half)))
	became := map[int64]int64{}
	for _, p := range wantOrder(h) {
		at := made.Side*made.Half + made.Top
		copy(made.Row[at:], h.Row[p.at:p.at+p.size])
		became[to(p.at)] = to(at)
		made.Top += p.size
	}
	anew := func(words []int64) {
		for i, w := range words {
			words[i] = wantFollow(list, w)
			if w, was := became[words[i]]; was {
				words[i] = w
			}
		}
	}
	anew(made.Roots)
	anew(made.Mourned)
	then, _ := piecesOf(made)
	for _, p := range then {
		if p.at < 2*h.Half || slices.Contains(h.Seen, p.at) {
			anew(p.words)
		}
	}
	then, _ = piecesOf(made)
	made.Seen = wantSeen(made, then)
	return made
}

func checkScavenged(t *testing.T, w watchedHeap, want impl.Heap) {
	t.Helper()
	got, other := impl.Scavenged(w.heap), impl.Scavenged(w.heap)
	for _, h := range []impl.Heap{got, other} {
		if !sameHeap(h, want) {
			t.Fatalf("%+v\nScavenged =\n%+v\nwant\n%+v", w.heap, h, want)
		}
		for _, list := range [][]int64{h.Row, h.Roots, h.Mourned, h.Seen} {
			_ = append(list, 1)
		}
		checkHeapApart(t, h)
		w.check(t)
	}
}

func checkCarried(t *testing.T, w watchedHeap, want int64) {
	t.Helper()
	if got := impl.Carried(w.heap); got != want {
		t.Fatalf("%+v: Carried = %d, want %d", w.heap, got, want)
	}
	w.check(t)
}

// checkEmptied: the room that was and what lies behind the new Top are 0, and no note is in the room.
func checkEmptied(t *testing.T, s impl.Heap) {
	t.Helper()
	from := s.Side * s.Half
	for at, w := range s.Row[:2*s.Half] {
		if inside := int64(at) >= from && int64(at) < from+s.Top; !inside && w != 0 {
			t.Fatalf("at %d is %d: %+v", at, w, s)
		}
	}
	list, is := piecesIn(s.Row, from, from+s.Top)
	if !is || slices.ContainsFunc(list, piece.isNote) {
		t.Fatalf("a note, or no chunk, in the room: %+v", s)
	}
}

// checkCheney: what is Scavenged is right, in the other half, shows the same, and has no more words than it had.
func checkCheney(t *testing.T, h impl.Heap) impl.Heap {
	t.Helper()
	s := impl.Scavenged(h)
	if !impl.HeapOk(s) || !wantHeapOk(s) {
		t.Fatalf("%+v\nScavenged is not right: %+v", h, s)
	}
	if s.Side != 1-h.Side || s.Half != h.Half || s.Old != h.Old || s.Seed != h.Seed || !isWithin(s.Seen, h.Seen) {
		t.Fatalf("%+v\nScavenged: %+v", h, s)
	}
	if s.Top > h.Top || s.Top != impl.Carried(h) {
		t.Fatalf("%+v\nTop %d, Carried %d", h, s.Top, impl.Carried(h))
	}
	checkEmptied(t, s)
	one, other := impl.Shown(h), impl.Shown(s)
	if !sameGraph(one, other) || !sameGraph(other, wantShown(h)) {
		t.Fatalf("%+v\nshows\n%v\nScavenged it shows\n%v", h, one, other)
	}
	return s
}

// checkTwice: once more, all that was carried is carried again, in the same order; and so it is back where it was.
func checkTwice(t *testing.T, h impl.Heap) {
	t.Helper()
	once := checkCheney(t, h)
	twice := checkCheney(t, once)
	thrice := checkCheney(t, twice)
	if twice.Side != h.Side || twice.Top != once.Top || !slices.Equal(twice.Seen, once.Seen) || !sameHeap(thrice, once) {
		t.Fatalf("%+v\nonce\n%+v\ntwice\n%+v\nthrice\n%+v", h, once, twice, thrice)
	}
}

// checkScavenging holds both functions against the chapter's words.
func checkScavenging(t *testing.T, h impl.Heap) {
	t.Helper()
	if !wantHeapOk(h) {
		t.Fatalf("the test's own words say that it is wrong: %+v", h)
	}
	w := watchHeap(h)
	want := wantScavenged(h)
	checkScavenged(t, w, want)
	checkCarried(t, w, want.Top)
	checkTwice(t, h)
}

// checkNoScavenging: of a wrong heap nothing is told.
func checkNoScavenging(t *testing.T, h impl.Heap) {
	t.Helper()
	w := watchHeap(h)
	checkScavenged(t, w, impl.Heap{})
	checkCarried(t, w, -1)
}

// layout is what a heap has in its room and upstairs, and what leads into it.
type layout struct {
	below, above   []int64
	roots, mourned []int64
}

// heap has halves of 24 words, so that upstairs begins at 48.
func (l layout) heap(side int64) impl.Heap {
	h := heapOf(24, 60, side, l.below, l.above)
	copy(h.Roots, l.roots)
	h.Mourned = slices.Clone(l.mourned)
	rightSeen(&h)
	return h
}

// carryCase is a heap as it is, and as it is once it is Scavenged, where Seen is told by hand.
type carryCase struct {
	name      string
	was, then layout
	seen      []int64
}

func checkCarryCases(t *testing.T, side int64, list []carryCase) {
	t.Helper()
	for _, c := range list {
		h, want := c.was.heap(side), c.then.heap(1-side)
		want.Seen = c.seen
		checkBoth(t, c.name, h, true)
		checkBoth(t, c.name+", then", want, true)
		if got := impl.Scavenged(h); !sameHeap(got, want) {
			t.Fatalf("%s: of\n%+v\nScavenged =\n%+v\nwant\n%+v", c.name, h, got, want)
		}
		if got := impl.Carried(h); got != int64(len(c.then.below)) {
			t.Fatalf("%s: Carried = %d, want %d", c.name, got, len(c.then.below))
		}
		checkScavenging(t, h)
	}
}
