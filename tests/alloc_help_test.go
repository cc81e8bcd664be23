package tests

import (
	"slices"
	"testing"

	"loop.example/g00337/impl"
)

// What the tests of several layers ask of a new object, and of where there is room for it. All of it is asked only of right heaps, and goes by the chapter's words.

// newOne is what a new object is asked to be.
type newOne struct {
	root, class, format, slots int64
	pinned                     bool
}

func (n newOne) in(h impl.Heap) (impl.Heap, int64) {
	return impl.Allocated(h, n.root, n.class, n.format, n.slots, n.pinned)
}

func (n newOne) size() int64 { return n.slots/2*2 + 2 }

func (n newOne) isRight() bool {
	least := int64(0)
	if n.format == 2 {
		least = 1
	}
	return 0 <= n.root && n.root <= 5 && 0 <= n.class && n.class <= 99 && 0 <= n.format && n.format <= 2 && least <= n.slots && n.slots <= 20
}

// head is that of the object once it is made of a heap with this Seed.
func (n newOne) head(seed int64) impl.Head {
	return impl.Head{Slots: n.slots, Format: n.format, Class: n.class, Hash: (25173*seed + 13849) % 65536, Pinned: n.pinned}
}

// body is the object as it stands there, made of a heap whose Seed was 1.
func (n newOne) body() []int64 {
	return wantPut(zeros(int(n.size())), 0, n.head(1), twos(int(n.slots)))
}

// fitsBelow: it may be in the room, and there is so much.
func (n newOne) fitsBelow(h impl.Heap) bool { return !n.pinned && h.Top+n.size() <= h.Half }

func wantPlaceFor(h impl.Heap, size int64, pinned bool) int64 {
	if size < 2 || size > 22 || size%2 != 0 {
		return -1
	}
	if !pinned && h.Half-h.Top >= size {
		return h.Side*h.Half + h.Top
	}
	return wantPlace(h, size)
}

// takeByHand makes room for as many words there, in the room or of a free chunk upstairs.
func takeByHand(h *impl.Heap, at, size int64) {
	if at < 2*h.Half {
		h.Top += size
	} else if left := h.Row[at+1] - size; left > 0 {
		copy(h.Row[at+size:], []int64{freeHead, left})
	}
}

// wantWith has the new one at this place, where there is room for it.
func wantWith(h impl.Heap, n newOne, at int64) impl.Heap {
	made := clonedHeap(h)
	takeByHand(&made, at, n.size())
	made.Row = wantPut(made.Row, at, n.head(h.Seed), twos(int(n.slots)))
	made.Roots[n.root] = to(at)
	made.Seed = n.head(h.Seed).Hash
	return made
}

func wantAllocated(h impl.Heap, n newOne) (impl.Heap, int64) {
	if !n.isRight() {
		return h, 3
	}
	first := h
	if !n.pinned && !n.fitsBelow(h) {
		first = wantScavenged(h)
	}
	if at := wantPlaceFor(first, n.size(), n.pinned); at >= 0 {
		return wantWith(first, n, at), 0
	}
	full := wantFull(h)
	if at := wantPlaceFor(full, n.size(), n.pinned); at >= 0 {
		return wantWith(full, n, at), 2
	}
	return h, 1
}

func checkPlaceFor(t *testing.T, w watchedHeap, size int64, pinned bool, want int64) {
	t.Helper()
	if got := impl.PlaceFor(w.heap, size, pinned); got != want {
		t.Fatalf("%+v\nPlaceFor %d, pinned %v = %d, want %d", w.heap, size, pinned, got, want)
	}
	w.check(t)
}

// checkAllocated: the answer is this one, also where a former one was written into; and it shares nothing.
func checkAllocated(t *testing.T, w watchedHeap, n newOne, want impl.Heap, code int64) {
	t.Helper()
	got, gotCode := n.in(w.heap)
	other, otherCode := n.in(w.heap)
	if gotCode != code || otherCode != code {
		t.Fatalf("%+v\nAllocated %+v tells %d and %d, want %d", w.heap, n, gotCode, otherCode, code)
	}
	checkMadeHeap(t, "Allocated", w, got, true, want, true)
	checkMadeHeap(t, "Allocated", w, other, true, want, true)
}

// hasRoom is told by how many words are left in the room, and by the biggest free chunk upstairs.
func (n newOne) hasRoom(h impl.Heap) bool { return n.fitsBelow(h) || impl.Biggest(h) >= n.size() }

// checkCode: AlFull only where Full leaves no room, AlAfter only where there was none ahead of Full and there is one after it; and PlaceFor tells the same.
func checkCode(t *testing.T, h impl.Heap, n newOne, code int64) {
	t.Helper()
	full, over := impl.Full(h), impl.Scavenged(h)
	ahead := n.hasRoom(h) || !n.pinned && n.hasRoom(over)
	after := n.hasRoom(full)
	if ahead && !after {
		t.Fatalf("%+v\nthere is room for %+v, and none once through the house", h, n)
	}
	want := int64(impl.AlFull)
	switch {
	case ahead:
		want = impl.AlOk
	case after:
		want = impl.AlAfter
	}
	if code != want {
		t.Fatalf("%+v\nAllocated %+v tells %d; there is room ahead of Full: %v, after it: %v", h, n, code, ahead, after)
	}
	place := func(h impl.Heap) bool { return impl.PlaceFor(h, n.size(), n.pinned) >= 0 }
	if ahead != (place(h) || !n.pinned && place(over)) || after != place(full) {
		t.Fatalf("%+v\nPlaceFor tells of other room for %+v", h, n)
	}
}

// baseOf is the heap in which the new one is put.
func (n newOne) baseOf(h impl.Heap, code int64) impl.Heap {
	switch {
	case code == impl.AlAfter:
		return impl.Full(h)
	case n.pinned || n.fitsBelow(h):
		return h
	}
	return impl.Scavenged(h)
}

// checkStands: the new one is where its Root leads, as it was asked for, at PlaceFor it, and with the Seed for a Hash.
func checkStands(t *testing.T, base impl.Heap, n newOne, made impl.Heap) int64 {
	t.Helper()
	at, leads := impl.AddrOf(made.Roots[n.root])
	head, slots, is := impl.ObjectAt(made.Row, at)
	want := impl.Head{Slots: n.slots, Format: n.format, Class: n.class, Hash: impl.Draw(base.Seed), Pinned: n.pinned}
	if !leads || !is || head != want || !slices.Equal(slots, slices.Repeat([]int64{impl.Nil}, int(n.slots))) {
		t.Fatalf("%+v\nthe new one %+v is at %d, %+v, %v\n%+v", base, n, at, head, slots, made)
	}
	if made.Seed != head.Hash || impl.HashOf(made, n.root) != head.Hash || impl.ClassOf(made, n.root) != n.class {
		t.Fatalf("%+v\nwith the new one %+v\n%+v", base, n, made)
	}
	if place := impl.PlaceFor(base, n.size(), n.pinned); at != place || (at < 2*base.Half) != n.fitsBelow(base) {
		t.Fatalf("%+v\nthe new one %+v is at %d, PlaceFor is %d", base, n, at, place)
	}
	return at
}

// checkRestStays: all others are where they are in the base, word for word, and so much less is left as the new one takes.
func checkRestStays(t *testing.T, base impl.Heap, n newOne, made impl.Heap, at int64) {
	t.Helper()
	places := append(impl.Objects(base), at)
	slices.Sort(places)
	if !slices.Equal(impl.Objects(made), places) {
		t.Fatalf("%+v\nwith the new one %+v has Objects %v, want %v", base, n, impl.Objects(made), places)
	}
	for _, other := range impl.Objects(base) {
		end := other + impl.ChunkAt(base.Row, other)
		if !slices.Equal(base.Row[other:end], made.Row[other:end]) {
			t.Fatalf("%+v\nwith the new one %+v the one at %d is another one\n%+v", base, n, other, made)
		}
	}
	below, above := n.size(), int64(0)
	if at >= 2*base.Half {
		below, above = 0, n.size()
	}
	if made.Top != base.Top+below || impl.FreeWords(made) != impl.FreeWords(base)-above || made.Side != base.Side || made.Half != base.Half || made.Old != base.Old {
		t.Fatalf("%+v\nwith the new one %+v\n%+v", base, n, made)
	}
	roots := slices.Clone(base.Roots)
	roots[n.root] = to(at)
	if !slices.Equal(made.Roots, roots) || !slices.Equal(made.Mourned, base.Mourned) || !slices.Equal(made.Seen, base.Seen) {
		t.Fatalf("%+v\nwith the new one %+v\n%+v", base, n, made)
	}
}

// madeIn is the graph with the new one, however many there are already.
func (n newOne) madeIn(g impl.Graph) impl.Graph {
	made := cloned(g)
	hash := n.head(g.Seed).Hash
	made.Objs = append(made.Objs, obj(g.Next, n.class, n.format, hash, make([]impl.Ref, n.slots)...))
	made.Roots[n.root] = rObj(g.Next)
	made.Next, made.Seed = g.Next+1, hash
	return made
}

// checkShowsNew: all that was Shown is shown still, or what was Collected where it is AlAfter, and the new one at its Root; also where there are more than can be Shown.
func checkShowsNew(t *testing.T, h impl.Heap, n newOne, made impl.Heap, code int64) {
	t.Helper()
	bare := byCanon(bareGraph(h))
	if code == impl.AlAfter {
		bare = wantCollected(bare)
	}
	if got, want := byCanon(bareGraph(made)), byCanon(n.madeIn(bare)); !sameGraph(got, want) {
		t.Fatalf("%+v\nwith the new one %+v has\n%v\nwant\n%v", h, n, got, want)
	}
	g := impl.Shown(h)
	if code == impl.AlAfter {
		g = impl.Collected(g)
	}
	g, is := impl.GMade(g, n.root, n.class, n.format, n.slots)
	if !is {
		// More than can be Shown, or as many.
		return
	}
	if shown := impl.Shown(made); impl.Canon(shown) != impl.Canon(g) || shown.Seed != g.Seed || impl.Canon(g) == "" {
		t.Fatalf("%+v\nwith the new one %+v shows\n%v\nthe graph is\n%v", h, n, shown, g)
	}
}

// checkAllocates holds the promise.
func checkAllocates(t *testing.T, h impl.Heap, n newOne) int64 {
	t.Helper()
	made, code := n.in(h)
	checkSees(t, made)
	if !n.isRight() {
		if code != impl.AlBad || !sameHeap(made, h) {
			t.Fatalf("%+v\nAllocated %+v tells %d\n%+v", h, n, code, made)
		}
		return code
	}
	checkCode(t, h, n, code)
	if code == impl.AlFull {
		if !sameHeap(made, h) {
			t.Fatalf("%+v\nAllocated %+v is full, and not as it is\n%+v", h, n, made)
		}
		return code
	}
	base := n.baseOf(h, code)
	at := checkStands(t, base, n, made)
	checkRestStays(t, base, n, made, at)
	checkShowsNew(t, h, n, made, code)
	return code
}

// checkAllocating holds Allocated against the chapter's words, and the promise.
func checkAllocating(t *testing.T, h impl.Heap, n newOne) int64 {
	t.Helper()
	if !wantHeapOk(h) {
		t.Fatalf("the test's own words say that it is wrong: %+v", h)
	}
	want, code := wantAllocated(h, n)
	checkAllocated(t, watchHeap(h), n, want, code)
	return checkAllocates(t, h, n)
}

// checkPlacing holds PlaceFor of every size against the chapter's words.
func checkPlacing(t *testing.T, h impl.Heap) {
	t.Helper()
	w := watchHeap(h)
	for size := int64(-3); size <= 26; size++ {
		for _, pinned := range []bool{false, true} {
			checkPlaceFor(t, w, size, pinned, wantPlaceFor(h, size, pinned))
		}
	}
}

// checkNoAllocating: of a wrong heap nothing is told, whatever is asked for.
func checkNoAllocating(t *testing.T, h impl.Heap) {
	t.Helper()
	w := watchHeap(h)
	for _, pinned := range []bool{false, true} {
		for _, size := range []int64{0, 1, 2, 4, 22, 24} {
			checkPlaceFor(t, w, size, pinned, -1)
		}
		for _, n := range []newOne{{}, {root: 5, class: 99, format: 2, slots: 20}, {root: 6}, {slots: 21}} {
			n.pinned = pinned
			checkAllocated(t, w, n, impl.Heap{}, 3)
		}
	}
}

// allocCase is a heap as it is, what is asked for, and by hand the heap as it is then, with what is Seen and whether the room changed sides; where it is told AlFull or AlBad it is as it was.
type allocCase struct {
	name  string
	was   layout
	asked newOne
	then  layout
	seen  []int64
	moved bool
	code  int64
}

func (c allocCase) want(side int64) impl.Heap {
	if c.code == impl.AlFull || c.code == impl.AlBad {
		return c.was.heap(side)
	}
	if c.moved {
		side = 1 - side
	}
	want := c.then.heap(side)
	want.Seen = c.seen
	want.Seed = 39022
	return want
}

func checkAllocCases(t *testing.T, side int64, list []allocCase) {
	t.Helper()
	for _, c := range list {
		h, want := c.was.heap(side), c.want(side)
		checkBoth(t, c.name, h, true)
		checkBoth(t, c.name+", then", want, true)
		if got, code := c.asked.in(h); code != c.code || !sameHeap(got, want) {
			t.Fatalf("%s: of\n%+v\nAllocated %+v =\n%+v, %d\nwant\n%+v, %d", c.name, h, c.asked, got, code, want, c.code)
		}
		checkPlacing(t, h)
		checkAllocating(t, h, c.asked)
	}
}

// newOne is one that is right, with up to so many Slots.
func (d *dice) newOne(most int64) newOne {
	n := newOne{root: d.roll(6), class: d.roll(100), format: d.roll(3), slots: d.roll(most + 1), pinned: d.roll(3) == 0}
	if n.format == impl.FoEphem {
		n.slots = max(n.slots, 1)
	}
	return n
}
