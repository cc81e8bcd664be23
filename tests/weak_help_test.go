package tests

import (
	"cmp"
	"slices"
	"testing"

	"loop.example/g00337/impl"
)

// What the tests of several layers ask of who is Grieved and what is Nilled. All of it is asked only of right heaps, and goes by the chapter's words.

// isLost: it leads, Followed, to one that is not of these.
func isLost(list []piece, marks []int64, w int64) bool {
	p, leads := pieceLedTo(list, wantFollow(list, w))
	return leads && !slices.Contains(marks, p.at)
}

// grievingIn are the FoEphem ones of Marks whose first Slot leads to one that is not, as they lie.
func grievingIn(h impl.Heap) []piece {
	list, _ := piecesOf(h)
	marks := wantMarks(h)
	return slices.DeleteFunc(slices.Clone(list), func(p piece) bool {
		return p.head.Format != 2 || !slices.Contains(marks, p.at) || !isLost(list, marks, p.words[0])
	})
}

// grieve makes a FoPlain one of the FoEphem one there, and lets it come to Mourned where there is room.
func grieve(h *impl.Heap, at int64) {
	h.Row[at] -= 64 * 2
	if len(h.Mourned) < 40 {
		h.Mourned = append(h.Mourned, to(at))
	}
}

// wantGrieved goes by the words of the heap, round by round; the Ids of what is Shown are those that it had ahead of all rounds.
func wantGrieved(h impl.Heap) impl.Heap {
	came := cameTo(bareGraph(h))
	made := clonedHeap(h)
	for {
		list := grievingIn(made)
		if len(list) == 0 {
			return made
		}
		slices.SortFunc(list, func(a, b piece) int {
			one, other := slices.Index(came, a.at+1), slices.Index(came, b.at+1)
			return cmp.Or(cmp.Compare(a.head.Hash, b.head.Hash), cmp.Compare(one, other))
		})
		for _, p := range list {
			grieve(&made, p.at)
		}
	}
}

func wantNilled(h impl.Heap) impl.Heap {
	list, _ := piecesOf(h)
	marks := wantMarks(h)
	made := clonedHeap(h)
	for _, p := range list {
		for i, w := range p.words {
			if p.head.Format == 1 && slices.Contains(marks, p.at) && isLost(list, marks, w) {
				made.Row[p.at+1+int64(i)] = 2
			}
		}
	}
	rightSeen(&made)
	return made
}

// checkMakesHeap: the answer is this one, also where a former one was written into; and it shares nothing.
func checkMakesHeap(t *testing.T, name string, call func(impl.Heap) impl.Heap, w watchedHeap, want impl.Heap) {
	t.Helper()
	got, other := call(w.heap), call(w.heap)
	checkMadeHeap(t, name, w, got, true, want, true)
	checkMadeHeap(t, name, w, other, true, want, true)
}

func checkGrieved(t *testing.T, w watchedHeap, want impl.Heap) {
	t.Helper()
	checkMakesHeap(t, "Grieved", impl.Grieved, w, want)
}

func checkNilled(t *testing.T, w watchedHeap, want impl.Heap) {
	t.Helper()
	checkMakesHeap(t, "Nilled", impl.Nilled, w, want)
}

// becamePlain are the places where a FoEphem one was and the same is FoPlain; all else of the Row is as it was.
func becamePlain(t *testing.T, h, made impl.Heap) []int64 {
	t.Helper()
	places := []int64{}
	for at, w := range h.Row {
		if made.Row[at] == w {
			continue
		}
		head, slots, _ := impl.ObjectAt(h.Row, int64(at))
		now, same, _ := impl.ObjectAt(made.Row, int64(at))
		was := head.Format
		head.Format = impl.FoPlain
		if was != impl.FoEphem || now != head || !slices.Equal(slots, same) {
			t.Fatalf("%+v\nat %d became %+v", h, at, made)
		}
		places = append(places, int64(at))
	}
	return places
}

// checkOnlyGrief: nothing is changed but who became FoPlain, and these come to Mourned, each once, behind all that was there.
func checkOnlyGrief(t *testing.T, h, made impl.Heap) {
	t.Helper()
	places := becamePlain(t, h, made)
	back := clonedHeap(made)
	back.Row, back.Mourned = h.Row, h.Mourned
	was := len(h.Mourned)
	if !sameHeap(back, h) || !slices.Equal(made.Mourned[:was], h.Mourned) || len(made.Mourned) != min(40, was+len(places)) {
		t.Fatalf("%+v\nGrieved became\n%+v", h, made)
	}
	come := []int64{}
	for _, w := range made.Mourned[was:] {
		at, _ := impl.AddrOf(w)
		come = append(come, at)
	}
	slices.Sort(come)
	if !rises(come) || !isWithin(come, places) || !isWithin(places, impl.Marks(made)) {
		t.Fatalf("%+v\nFoPlain became %v, to Mourned came %v", h, places, come)
	}
}

// checkAsMourning: what is Shown is Mourning of what was Shown, where that can be Shown.
func checkAsMourning(t *testing.T, h, made impl.Heap) {
	t.Helper()
	was := impl.Shown(h)
	if !impl.GraphOk(was) {
		return
	}
	got, want := impl.Shown(made), impl.Mourning(was)
	if impl.Canon(got) != impl.Canon(want) || !sameGraph(got, byCanon(want)) {
		t.Fatalf("%+v\nGrieved shows\n%v\nMourning of what was Shown\n%v", h, got, want)
	}
	if slices.IsSorted(cameTo(want)) && !sameGraph(got, want) {
		t.Fatalf("%+v\nGrieved shows\n%v\nMourning, in the same order,\n%v", h, got, want)
	}
	if left := impl.Grieving(got); len(left) > 0 {
		t.Fatalf("%+v\nGrieved, there grieve still %v", h, left)
	}
}

// checkMournedOnce: who is Grieved is right, is Mourning of what was Shown, and is as it is when it is Grieved again.
func checkMournedOnce(t *testing.T, h impl.Heap) {
	t.Helper()
	made := impl.Grieved(h)
	checkSees(t, made)
	checkOnlyGrief(t, h, made)
	checkAsMourning(t, h, made)
	if again := impl.Grieved(made); !sameHeap(again, made) {
		t.Fatalf("%+v\nGrieved\n%+v\nand again\n%+v", h, made, again)
	}
}

// checkHolds: each Slot of a FoWeak one of Marks holds just what is marked, and nothing else is changed but Seen.
func checkHolds(t *testing.T, h impl.Heap) {
	t.Helper()
	made := impl.Nilled(h)
	checkSees(t, made)
	marks := impl.Marks(h)
	if !slices.Equal(impl.Marks(made), marks) {
		t.Fatalf("%+v\nMarks %v, Nilled %v", h, marks, impl.Marks(made))
	}
	isMarked := func(h impl.Heap, w int64) bool {
		at, leads := impl.AddrOf(impl.Follow(h, w))
		return !leads || slices.Contains(marks, at)
	}
	back := clonedHeap(made)
	back.Seen = h.Seen
	for _, at := range marks {
		head, slots, _ := impl.ObjectAt(h.Row, at)
		for i, was := range slots {
			place := at + 1 + int64(i)
			now := made.Row[place]
			if head.Format != impl.FoWeak {
				continue
			}
			if !isMarked(made, now) || now != was && (now != impl.Nil || isMarked(h, was)) {
				t.Fatalf("%+v\nthe word at %d became %d", h, place, now)
			}
			back.Row[place] = was
		}
	}
	if !sameHeap(back, h) {
		t.Fatalf("%+v\nNilled became\n%+v", h, made)
	}
	if again := impl.Nilled(made); !sameHeap(again, made) {
		t.Fatalf("%+v\nNilled\n%+v\nand again\n%+v", h, made, again)
	}
}

// checkAsCollected: Grieved and then Nilled it shows what is Collected, and all that it shows is marked.
func checkAsCollected(t *testing.T, h impl.Heap) {
	t.Helper()
	was := impl.Shown(h)
	if !impl.GraphOk(was) {
		return
	}
	made := impl.Nilled(impl.Grieved(h))
	shown, want := impl.Shown(made), impl.Collected(was)
	if impl.Canon(shown) != impl.Canon(want) || shown.Seed != want.Seed {
		t.Fatalf("%+v\nGrieved and Nilled shows\n%v\nCollected is\n%v", h, shown, want)
	}
	if marks := impl.Marks(made); len(marks) != len(shown.Objs) {
		t.Fatalf("%+v\nGrieved and Nilled shows\n%v\nMarks %v", h, shown, marks)
	}
}

// checkGrieving holds both functions against the chapter's words, against the graph, and against the heap under other hands.
func checkGrieving(t *testing.T, h impl.Heap) {
	t.Helper()
	if !wantHeapOk(h) {
		t.Fatalf("the test's own words say that it is wrong: %+v", h)
	}
	w := watchHeap(h)
	checkGrieved(t, w, wantGrieved(h))
	checkNilled(t, w, wantNilled(h))
	checkMournedOnce(t, h)
	checkHolds(t, h)
	checkAsCollected(t, h)
	// Straight, or carried over, the same are told in the same order.
	for _, other := range []impl.Heap{impl.Straightened(h), impl.Scavenged(h)} {
		if !sameGraph(impl.Shown(impl.Grieved(other)), impl.Shown(impl.Grieved(h))) || !sameGraph(impl.Shown(impl.Nilled(other)), impl.Shown(impl.Nilled(h))) {
			t.Fatalf("%+v\nand the same Straightened or Scavenged do not show the same\n%+v", h, other)
		}
	}
}

// checkNoGrieving: of a wrong heap nothing is told.
func checkNoGrieving(t *testing.T, h impl.Heap) {
	t.Helper()
	w := watchHeap(h)
	checkGrieved(t, w, impl.Heap{})
	checkNilled(t, w, impl.Heap{})
}

// grieveCase is a heap, and by hand the places of those that grieve in it, in the order in which they come to Mourned.
type grieveCase struct {
	name string
	was  layout
	come []int64
}

func checkGrieveCases(t *testing.T, side int64, list []grieveCase) {
	t.Helper()
	for _, c := range list {
		h := c.was.heap(side)
		checkBoth(t, c.name, h, true)
		want := clonedHeap(h)
		for _, at := range c.come {
			grieve(&want, at)
		}
		if got := impl.Grieved(h); !sameHeap(got, want) {
			t.Fatalf("%s: of\n%+v\nGrieved =\n%+v\nwant\n%+v", c.name, h, got, want)
		}
		checkGrieving(t, h)
	}
}

// nilCase is a heap, and by hand the places of the words that become Nil, and Seen as it is then.
type nilCase struct {
	name string
	was  layout
	gone []int64
	seen []int64
}

func checkNilCases(t *testing.T, side int64, list []nilCase) {
	t.Helper()
	for _, c := range list {
		h := c.was.heap(side)
		checkBoth(t, c.name, h, true)
		want := clonedHeap(h)
		for _, at := range c.gone {
			want.Row[at] = 2
		}
		want.Seen = c.seen
		if got := impl.Nilled(h); !sameHeap(got, want) {
			t.Fatalf("%s: of\n%+v\nNilled =\n%+v\nwant\n%+v", c.name, h, got, want)
		}
		checkGrieving(t, h)
	}
}

// checkLaidGrieving lays the graph out, and holds it against the chapter's words and the graph.
func (l laying) checkLaidGrieving(t *testing.T, g impl.Graph) impl.Heap {
	t.Helper()
	h, _ := l.laid(g)
	w := watchHeap(h)
	checkGrieved(t, w, wantGrieved(h))
	checkNilled(t, w, wantNilled(h))
	checkAsMourning(t, h, impl.Grieved(h))
	checkAsCollected(t, h)
	return h
}
