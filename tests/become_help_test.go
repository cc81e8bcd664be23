package tests

import (
	"slices"
	"testing"

	"loop.example/g00337/impl"
)

// What the tests of several layers ask of who becomes another. But for what the graph is asked for, all of it is asked only of right heaps, and goes by the chapter's words.

// becomes is Swapped or Replaced, or the same by hand.
type becomes func(h impl.Heap, a, b int64) (impl.Heap, int64)

// gBecomes is GSwapped or GReplaced, or the same by hand.
type gBecomes func(g impl.Graph, a, b int64) (impl.Graph, bool)

// twoByHand are the objects of the two Roots, and why they can't become one another, if they are none or one.
func twoByHand(h impl.Heap, a, b int64) (one, other piece, code int64) {
	one, first := rootByHand(h, a)
	other, second := rootByHand(h, b)
	switch {
	case !first || !second:
		return piece{}, piece{}, 1
	case one.at == other.at:
		return one, other, 2
	}
	return one, other, 0
}

// copyByHand leaves Seen as it is; it tells -1 where there is no place.
func copyByHand(made *impl.Heap, h impl.Heap, p piece) int64 {
	at := wantPlaceFor(*made, p.size, false)
	if at >= 0 {
		takeByHand(made, at, p.size)
		copy(made.Row[at:], h.Row[p.at:p.at+p.size])
	}
	return at
}

func wantSwapped(h impl.Heap, a, b int64) (impl.Heap, int64) {
	one, other, code := twoByHand(h, a, b)
	if code != 0 {
		return h, code
	}
	if one.head.Pinned || other.head.Pinned {
		return h, 3
	}
	made := clonedHeap(h)
	first := copyByHand(&made, h, one)
	if first < 0 {
		return h, 4
	}
	second := copyByHand(&made, h, other)
	if second < 0 {
		return h, 4
	}
	copy(made.Row[one.at:], leftNote(one.head.Slots, second))
	copy(made.Row[other.at:], leftNote(other.head.Slots, first))
	rightSeen(&made)
	return made, 0
}

func wantReplaced(h impl.Heap, a, b int64) (impl.Heap, int64) {
	one, other, code := twoByHand(h, a, b)
	if code != 0 {
		return h, code
	}
	if one.head.Pinned {
		return h, 3
	}
	made := clonedHeap(h)
	copy(made.Row[one.at:], leftNote(one.head.Slots, other.at))
	rightSeen(&made)
	return made, 0
}

// led makes each Ref of the graph lead to what its Id became.
func led(g impl.Graph, became map[int64]int64) impl.Graph {
	made := cloned(g)
	rename(made.Roots, became)
	rename(made.Mourned, became)
	for _, o := range made.Objs {
		rename(o.Slots, became)
	}
	return made
}

// twoIds are the Ids of the Objs of the two Roots, and what all Ids are.
func twoIds(g impl.Graph, a, b int64) (one, other int64, ids map[int64]int64, are bool) {
	first, is := wantRootObj(g, a)
	second, also := wantRootObj(g, b)
	ids = map[int64]int64{}
	for _, o := range g.Objs {
		ids[o.Id] = o.Id
	}
	return first.Id, second.Id, ids, is && also && first.Id != second.Id
}

func wantGSwapped(g impl.Graph, a, b int64) (impl.Graph, bool) {
	one, other, ids, are := twoIds(g, a, b)
	if are {
		ids[one], ids[other] = other, one
	}
	return led(g, ids), are
}

func wantGReplaced(g impl.Graph, a, b int64) (impl.Graph, bool) {
	one, other, ids, are := twoIds(g, a, b)
	if are {
		ids[one] = other
	}
	return led(g, ids), are
}

// checkBecame: the answer is this one, also where a former one was written into; and it shares nothing.
func checkBecame(t *testing.T, name string, call becomes, w watchedHeap, a, b int64, want impl.Heap, code int64) {
	t.Helper()
	got, gotCode := call(w.heap, a, b)
	other, otherCode := call(w.heap, a, b)
	if gotCode != code || otherCode != code {
		t.Fatalf("%+v\n%s %d, %d tells %d and %d, want %d", w.heap, name, a, b, gotCode, otherCode, code)
	}
	checkMadeHeap(t, name, w, got, true, want, true)
	checkMadeHeap(t, name, w, other, true, want, true)
}

// checkShowsAs: it shows what the graph shows; also where there are more than can be Shown.
func checkShowsAs(t *testing.T, h, made impl.Heap, a, b int64, graph, byHand gBecomes) {
	t.Helper()
	if was := impl.Shown(h); impl.GraphOk(was) {
		want, is := graph(was, a, b)
		got := impl.Shown(made)
		if !is || impl.Canon(got) != impl.Canon(want) || got.Seed != want.Seed || impl.Canon(got) == "" {
			t.Fatalf("%+v\nof %d and %d became\n%+v\nwhich shows\n%v\nthe graph, %v\n%v", h, a, b, made, got, is, want)
		}
	}
	want, _ := byHand(bareGraph(h), a, b)
	if got, want := byCanon(bareGraph(made)), byCanon(want); !sameGraph(got, want) {
		t.Fatalf("%+v\nof %d and %d became\n%+v\nwhich has\n%v\nwant\n%v", h, a, b, made, got, want)
	}
}

// checkNoNoteMet: whatever is Followed, Fetched or Straightened leads to no note, and no Root tells one's Hash.
func checkNoNoteMet(t *testing.T, h impl.Heap) {
	t.Helper()
	meet := func(w int64) {
		t.Helper()
		at, leads := impl.AddrOf(w)
		if head, _, is := impl.ObjectAt(h.Row, at); leads && (!is || head.Format > impl.FoEphem) {
			t.Fatalf("%+v\nwho goes on comes to %+v at %d", h, head, at)
		}
	}
	for _, w := range joined(h.Roots, h.Mourned) {
		meet(impl.Follow(h, w))
	}
	for _, at := range impl.Objects(h) {
		_, words, _ := impl.ObjectAt(h.Row, at)
		for slot, was := range words {
			if !leadsByHand(was) {
				continue
			}
			if w, is := impl.Fetched(h, at, int64(slot)); is {
				meet(w)
			}
		}
	}
	s := impl.Straightened(h)
	for _, w := range joined(s.Roots, s.Mourned) {
		meet(w)
	}
}

// checkNoteLeft: nothing is left of who stood there but how many Slots it had.
func checkNoteLeft(t *testing.T, made impl.Heap, was piece, place int64) {
	t.Helper()
	head, words, is := impl.ObjectAt(made.Row, was.at)
	if !is || head != (impl.Head{Slots: was.head.Slots, Format: impl.FoForward}) || !slices.Equal(words, []int64{to(place)}) {
		t.Fatalf("at %d is %+v, %v, want a note to %d\n%+v", was.at, head, words, place, made)
	}
	behind := made.Row[was.at+2 : was.at+was.size]
	if !slices.Equal(behind, zeros(len(behind))) || impl.ChunkAt(made.Row, was.at) != was.size {
		t.Fatalf("behind the note at %d is %v\n%+v", was.at, behind, made)
	}
}

// checkCopy: it stands at PlaceFor it in the base, word for word. It tells the base with the copy, too.
func checkCopy(t *testing.T, base, h, made impl.Heap, p piece) (impl.Heap, int64) {
	t.Helper()
	at := impl.PlaceFor(base, p.size, false)
	if at < 0 || !slices.Equal(made.Row[at:at+p.size], h.Row[p.at:p.at+p.size]) {
		t.Fatalf("%+v\nhas a place for the one at %d at %d\n%+v", base, p.at, at, made)
	}
	base = clonedHeap(base)
	takeByHand(&base, at, p.size)
	copy(base.Row[at:], h.Row[p.at:p.at+p.size])
	rightSeen(&base)
	return base, at
}

// checkOthersStay: all but the two are where they were, word for word, and so are the Roots and Mourned.
func checkOthersStay(t *testing.T, h, made impl.Heap, gone []piece, copies ...int64) {
	t.Helper()
	places := append(impl.Objects(h), copies...)
	slices.Sort(places)
	if !slices.Equal(impl.Objects(made), places) {
		t.Fatalf("%+v\nbecame\n%+v\nwhich has Objects %v, want %v", h, made, impl.Objects(made), places)
	}
	below, above := int64(0), int64(0)
	for _, at := range copies {
		if at < 2*h.Half {
			below += impl.ChunkAt(made.Row, at)
		} else {
			above += impl.ChunkAt(made.Row, at)
		}
	}
	if made.Top != h.Top+below || impl.FreeWords(made) != impl.FreeWords(h)-above {
		t.Fatalf("%+v\nbecame\n%+v\nwith copies of %d words below and %d above", h, made, below, above)
	}
	for _, at := range impl.Objects(h) {
		end := at + impl.ChunkAt(h.Row, at)
		isGone := slices.ContainsFunc(gone, func(p piece) bool { return p.at == at })
		if !isGone && !slices.Equal(h.Row[at:end], made.Row[at:end]) {
			t.Fatalf("%+v\nbecame\n%+v\nwhere the one at %d is another one", h, made, at)
		}
	}
	back := clonedHeap(made)
	back.Row, back.Top, back.Seen = h.Row, h.Top, h.Seen
	if !sameHeap(back, h) {
		t.Fatalf("%+v\nbecame\n%+v", h, made)
	}
}

// checkRootsTell: of each Root the Hash and Class are those of what it leads to then.
func checkRootsTell(t *testing.T, h, made impl.Heap, became map[int64]piece) {
	t.Helper()
	for root := range int64(6) {
		p, leads := rootByHand(h, root)
		hash, class := int64(-1), int64(-1)
		if leads {
			hash, class = p.head.Hash, p.head.Class
		}
		if now, is := became[p.at]; leads && is {
			hash, class = now.head.Hash, now.head.Class
		}
		checkRoot(t, watchHeap(made), root, hash, class)
	}
}

// checkSwappedAgain: where there is room it shows what it showed, and where there is none all stays as it is.
func checkSwappedAgain(t *testing.T, h, made impl.Heap, a, b int64) {
	t.Helper()
	for _, order := range [][2]int64{{a, b}, {b, a}} {
		again, code := impl.Swapped(made, order[0], order[1])
		if code == impl.BeFull {
			if !sameHeap(again, made) {
				t.Fatalf("%+v\nSwapped %v is full, and not as it is\n%+v", made, order, again)
			}
			continue
		}
		if code != impl.BeOk || !sameGraph(impl.Shown(again), impl.Shown(h)) || !sameGraph(byCanon(bareGraph(again)), byCanon(bareGraph(h))) {
			t.Fatalf("%+v\nSwapped %v\n%+v\nand again tells %d\n%+v", h, order, made, code, again)
		}
	}
}

// checkSwaps holds the promise of Swapped.
func checkSwaps(t *testing.T, h impl.Heap, a, b int64) int64 {
	t.Helper()
	made, code := impl.Swapped(h, a, b)
	if code != impl.BeOk {
		if !sameHeap(made, h) {
			t.Fatalf("%+v\nSwapped %d, %d tells %d, and it is not as it is\n%+v", h, a, b, code, made)
		}
		return code
	}
	checkSees(t, made)
	one, other, _ := twoByHand(h, a, b)
	base, first := checkCopy(t, h, h, made, one)
	_, second := checkCopy(t, base, h, made, other)
	checkNoteLeft(t, made, one, second)
	checkNoteLeft(t, made, other, first)
	checkOthersStay(t, h, made, []piece{one, other}, first, second)
	checkRootsTell(t, h, made, map[int64]piece{one.at: other, other.at: one})
	checkShowsAs(t, h, made, a, b, impl.GSwapped, wantGSwapped)
	checkNoNoteMet(t, made)
	checkSwappedAgain(t, h, made, a, b)
	return code
}

// checkReplaces holds the promise of Replaced.
func checkReplaces(t *testing.T, h impl.Heap, a, b int64) int64 {
	t.Helper()
	made, code := impl.Replaced(h, a, b)
	if code != impl.BeOk {
		if !sameHeap(made, h) {
			t.Fatalf("%+v\nReplaced %d, %d tells %d, and it is not as it is\n%+v", h, a, b, code, made)
		}
		return code
	}
	checkSees(t, made)
	one, other, _ := twoByHand(h, a, b)
	checkNoteLeft(t, made, one, other.at)
	checkOthersStay(t, h, made, []piece{one})
	checkRootsTell(t, h, made, map[int64]piece{one.at: other})
	checkShowsAs(t, h, made, a, b, impl.GReplaced, wantGReplaced)
	checkNoNoteMet(t, made)
	if impl.Follow(made, to(one.at)) != to(other.at) || slices.Contains(impl.Marks(made), one.at) {
		t.Fatalf("%+v\nReplaced %d, %d\n%+v\nthe one at %d is there still", h, a, b, made, one.at)
	}
	for _, order := range [][2]int64{{a, b}, {b, a}} {
		checkBecame(t, "Replaced, Swapped", impl.Swapped, watchHeap(made), order[0], order[1], made, impl.BeSame)
		checkBecame(t, "Replaced, Replaced", impl.Replaced, watchHeap(made), order[0], order[1], made, impl.BeSame)
	}
	return code
}

// becameCodes are what both tell.
type becameCodes struct{ swapped, replaced int64 }

// checkBecoming holds both functions against the chapter's words, and the promise.
func checkBecoming(t *testing.T, h impl.Heap, a, b int64) becameCodes {
	t.Helper()
	if !wantHeapOk(h) {
		t.Fatalf("the test's own words say that it is wrong: %+v", h)
	}
	w := watchHeap(h)
	swapped, code := wantSwapped(h, a, b)
	checkBecame(t, "Swapped", impl.Swapped, w, a, b, swapped, code)
	replaced, code := wantReplaced(h, a, b)
	checkBecame(t, "Replaced", impl.Replaced, w, a, b, replaced, code)
	return becameCodes{checkSwaps(t, h, a, b), checkReplaces(t, h, a, b)}
}

// checkNoBecoming: of a wrong heap nothing is told, whichever Roots are named.
func checkNoBecoming(t *testing.T, h impl.Heap) {
	t.Helper()
	w := watchHeap(h)
	for _, roots := range [][2]int64{{0, 1}, {1, 0}, {0, 0}, {0, 5}, {5, 4}, {-1, 6}} {
		checkBecame(t, "Swapped", impl.Swapped, w, roots[0], roots[1], impl.Heap{}, 1)
		checkBecame(t, "Replaced", impl.Replaced, w, roots[0], roots[1], impl.Heap{}, 1)
	}
}

// becomeCase is a heap as it is, and by hand as it is then, with what is Seen; where a code is told it is as it was.
type becomeCase struct {
	name string
	was  layout
	a, b int64
	then layout
	seen []int64
	code int64
}

func checkBecomeCases(t *testing.T, side int64, call becomes, list []becomeCase) {
	t.Helper()
	for _, c := range list {
		h := c.was.heap(side)
		want := h
		if c.code == 0 {
			want = c.then.heap(side)
			want.Seen = c.seen
		}
		checkBoth(t, c.name, h, true)
		checkBoth(t, c.name+", then", want, true)
		if got, code := call(h, c.a, c.b); code != c.code || !sameHeap(got, want) {
			t.Fatalf("%s: of\n%+v\n%d and %d became\n%+v, %d\nwant\n%+v, %d", c.name, h, c.a, c.b, got, code, want, c.code)
		}
		checkBecoming(t, h, c.a, c.b)
		checkBecoming(t, h, c.b, c.a)
	}
}

// wantGBecome is what one call on a graph should answer.
func wantGBecome(name string, call, byHand gBecomes, g impl.Graph, a, b int64) gWant {
	w := gWant{name: name, call: func(g impl.Graph) (impl.Graph, bool) { return call(g, a, b) }}
	w.want, w.wants = byHand(g, a, b)
	return w
}

// checkGSwaps: once more, from either side, it is as it was.
func checkGSwaps(t *testing.T, g impl.Graph, a, b int64) {
	t.Helper()
	made, is := impl.GSwapped(g, a, b)
	other, also := impl.GSwapped(g, b, a)
	if is != also || !sameGraph(made, other) {
		t.Fatalf("%v\nGSwapped %d, %d, %v\n%v\nand the other way round, %v\n%v", g, a, b, is, made, also, other)
	}
	if again, _ := impl.GSwapped(made, a, b); !sameGraph(again, g) {
		t.Fatalf("%v\nGSwapped %d, %d and again\n%v", g, a, b, again)
	}
	if is && (impl.GHash(made, a) != impl.GHash(g, b) || impl.GHash(made, b) != impl.GHash(g, a)) {
		t.Fatalf("%v\nGSwapped %d, %d\n%v", g, a, b, made)
	}
}

// checkGReplaces: nothing leads to the one any more, and all that led to it leads to the other.
func checkGReplaces(t *testing.T, g impl.Graph, a, b int64) {
	t.Helper()
	made, is := impl.GReplaced(g, a, b)
	if !is {
		if !sameGraph(made, g) {
			t.Fatalf("%v\nGReplaced %d, %d is refused, and not as it is\n%v", g, a, b, made)
		}
		return
	}
	refs := slices.Concat(made.Roots, made.Mourned)
	for _, o := range made.Objs {
		refs = append(refs, o.Slots...)
	}
	if slices.Contains(refs, g.Roots[a]) || made.Roots[a] != g.Roots[b] || slices.Contains(impl.Reached(made), g.Roots[a].N) {
		t.Fatalf("%v\nGReplaced %d, %d\n%v", g, a, b, made)
	}
	if again, is := impl.GReplaced(made, a, b); is || !sameGraph(again, made) {
		t.Fatalf("%v\nGReplaced %d, %d and again, %v\n%v", g, a, b, is, again)
	}
}

// checkGBecoming holds both functions of the graph against the chapter's words.
func checkGBecoming(t *testing.T, g impl.Graph, a, b int64) bool {
	t.Helper()
	w := watchGraph(g)
	for range 2 {
		wantGBecome("GSwapped", impl.GSwapped, wantGSwapped, g, a, b).check(t, w)
		wantGBecome("GReplaced", impl.GReplaced, wantGReplaced, g, a, b).check(t, w)
	}
	checkGSwaps(t, g, a, b)
	checkGReplaces(t, g, a, b)
	_, are := impl.GSwapped(g, a, b)
	return are
}

// checkNoGBecoming: of a wrong graph nothing is told.
func checkNoGBecoming(t *testing.T, g impl.Graph) {
	t.Helper()
	w := watchGraph(g)
	for _, roots := range [][2]int64{{0, 1}, {1, 3}, {3, 1}, {0, 0}, {-1, 6}} {
		gWant{name: "GSwapped", call: func(g impl.Graph) (impl.Graph, bool) { return impl.GSwapped(g, roots[0], roots[1]) }}.check(t, w)
		gWant{name: "GReplaced", call: func(g impl.Graph) (impl.Graph, bool) { return impl.GReplaced(g, roots[0], roots[1]) }}.check(t, w)
	}
}
