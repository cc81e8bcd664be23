package tests

import (
	"slices"
	"testing"

	"loop.example/g00337/impl"
)

// What the tests of several layers ask of notes. All of it is asked only of right heaps, and goes by the chapter's words.

// wantFollow goes on for as long as it comes to a note.
func wantFollow(list []piece, w int64) int64 {
	if !wantHeld(list, []int64{w}) {
		return 2
	}
	for {
		p, is := pieceLedTo(list, w)
		if !is || !p.isNote() {
			return w
		}
		w = p.words[0]
	}
}

// bareRefs are what the words say, where an object's Id is its place and 1.
func bareRefs(list []piece, words []int64) []impl.Ref {
	refs := []impl.Ref{}
	for _, w := range words {
		r := rNil
		if p, is := pieceLedTo(list, wantFollow(list, w)); is {
			r = rObj(p.at + 1)
		} else if w != 2 {
			r = rInt((w - 1) / 4)
		}
		refs = append(refs, r)
	}
	return refs
}

// bareGraph has all objects that are no notes, also those that nobody leads to: more than a right graph may have.
func bareGraph(h impl.Heap) impl.Graph {
	list, _ := piecesOf(h)
	g := impl.Graph{Roots: bareRefs(list, h.Roots), Mourned: bareRefs(list, h.Mourned), Seed: h.Seed}
	for _, p := range list {
		if !p.isFree() && !p.isNote() {
			g.Objs = append(g.Objs, obj(p.at+1, p.head.Class, p.head.Format, p.head.Hash, bareRefs(list, p.words)...))
		}
	}
	g.Next = int64(len(h.Row)) + 1
	return g
}

// byCanon is the graph, where those that are come to have their numbers as Ids and all others are gone.
func byCanon(g impl.Graph) impl.Graph {
	ids := cameTo(g)
	became := map[int64]int64{}
	for i, id := range ids {
		became[id] = int64(i + 1)
	}
	made := cloned(g)
	made.Objs, made.Next = nil, int64(len(ids)+1)
	rename(made.Roots, became)
	rename(made.Mourned, became)
	for _, id := range ids {
		o, _ := findObj(g, id)
		o.Id, o.Slots = became[id], slices.Clone(o.Slots)
		rename(o.Slots, became)
		made.Objs = append(made.Objs, o)
	}
	return made
}

func wantShown(h impl.Heap) impl.Graph {
	g := byCanon(bareGraph(h))
	if len(g.Objs) > 200 {
		return impl.Graph{}
	}
	return g
}

func wantStraightened(h impl.Heap) impl.Heap {
	made := clonedHeap(h)
	list, _ := piecesOf(h)
	for at, w := range h.Roots {
		made.Roots[at] = wantFollow(list, w)
	}
	for at, w := range h.Mourned {
		made.Mourned[at] = wantFollow(list, w)
	}
	for _, p := range list {
		for i, w := range p.words {
			if !p.isNote() {
				made.Row[p.at+1+int64(i)] = wantFollow(list, w)
			}
		}
	}
	list, _ = piecesOf(made)
	made.Seen = wantSeen(made, list)
	return made
}

// rootByHand is the object to which the Root leads.
func rootByHand(h impl.Heap, root int64) (piece, bool) {
	if root < 0 || root > 5 {
		return piece{}, false
	}
	list, _ := piecesOf(h)
	return pieceLedTo(list, wantFollow(list, h.Roots[root]))
}

// wantRoot is its head.
func wantRoot(h impl.Heap, root int64) (impl.Head, bool) {
	p, is := rootByHand(h, root)
	return p.head, is
}

func checkFollow(t *testing.T, w watchedHeap, word, want int64) {
	t.Helper()
	if got := impl.Follow(w.heap, word); got != want {
		t.Fatalf("%+v: Follow of %d = %d, want %d", w.heap, word, got, want)
	}
	w.check(t)
}

// checkRoot wants both told, or -1 of both.
func checkRoot(t *testing.T, w watchedHeap, root, hash, class int64) {
	t.Helper()
	if got := impl.HashOf(w.heap, root); got != hash {
		t.Fatalf("%+v: HashOf %d = %d, want %d", w.heap, root, got, hash)
	}
	if got := impl.ClassOf(w.heap, root); got != class {
		t.Fatalf("%+v: ClassOf %d = %d, want %d", w.heap, root, got, class)
	}
	w.check(t)
}

// checkShown: the answer is this one, also where a former one was written into; and it shares nothing.
func checkShown(t *testing.T, w watchedHeap, want impl.Graph) {
	t.Helper()
	got, other := impl.Shown(w.heap), impl.Shown(w.heap)
	for _, g := range []impl.Graph{got, other} {
		if !sameGraph(g, want) {
			t.Fatalf("%+v\nShown =\n%v\nwant\n%v", w.heap, g, want)
		}
		growAll(g)
		checkApart(t, g)
		w.check(t)
	}
}

func checkStraightened(t *testing.T, w watchedHeap, want impl.Heap) {
	t.Helper()
	got, other := impl.Straightened(w.heap), impl.Straightened(w.heap)
	for _, h := range []impl.Heap{got, other} {
		if !sameHeap(h, want) {
			t.Fatalf("%+v\nStraightened =\n%+v\nwant\n%+v", w.heap, h, want)
		}
		for _, list := range [][]int64{h.Row, h.Roots, h.Mourned, h.Seen} {
			_ = append(list, 1)
		}
		checkHeapApart(t, h)
		w.check(t)
	}
}

// checkPromise: what is Straightened is right, straight, and shows the same; what is shown is a right graph.
func checkPromise(t *testing.T, h impl.Heap) {
	t.Helper()
	straight := impl.Straightened(h)
	if !impl.HeapOk(straight) || !wantHeapOk(straight) {
		t.Fatalf("%+v\nStraightened is not right: %+v", h, straight)
	}
	if again := impl.Straightened(straight); !sameHeap(again, straight) {
		t.Fatalf("%+v\nStraightened again becomes\n%+v", straight, again)
	}
	one, other := impl.Shown(h), impl.Shown(straight)
	if !sameGraph(one, other) {
		t.Fatalf("%+v\nshows\n%v\nStraightened it shows\n%v", h, one, other)
	}
	if zero := sameGraph(one, impl.Graph{}); impl.GraphOk(one) == zero || wantGraphOk(one) == zero {
		t.Fatalf("%+v\nshows no right graph: %v", h, one)
	}
}

// checkFollowing holds all five functions against the chapter's words.
func checkFollowing(t *testing.T, h impl.Heap) {
	t.Helper()
	w := watchHeap(h)
	if !wantHeapOk(h) {
		t.Fatalf("the test's own words say that it is wrong: %+v", h)
	}
	list, _ := piecesOf(h)
	for _, word := range wordsFor(h) {
		want := wantFollow(list, word)
		checkFollow(t, w, word, want)
		checkFollow(t, w, want, want)
	}
	for root := int64(-2); root <= 7; root++ {
		hash, class := int64(-1), int64(-1)
		if head, is := wantRoot(h, root); is {
			hash, class = head.Hash, head.Class
		}
		checkRoot(t, w, root, hash, class)
	}
	checkShown(t, w, wantShown(h))
	checkStraightened(t, w, wantStraightened(h))
	checkPromise(t, h)
}

// wordsFor are all addresses of the heap, those next to them, and words that lead nowhere.
func wordsFor(h impl.Heap) []int64 {
	words := slices.Clone(someWords)
	for at := range int64(len(h.Row)) + 2 {
		words = append(words, to(at))
	}
	return words
}

// checkNoFollowing: of a wrong heap nothing is told.
func checkNoFollowing(t *testing.T, h impl.Heap) {
	t.Helper()
	w := watchHeap(h)
	for _, word := range wordsFor(h) {
		checkFollow(t, w, word, 2)
	}
	for root := int64(-1); root <= 6; root++ {
		checkRoot(t, w, root, -1, -1)
	}
	checkShown(t, w, impl.Graph{})
	checkStraightened(t, w, impl.Heap{})
}

// noted makes notes of half of what stands in the heap; each leads on to one that lies ahead of it in some order, the first of which is an object.
func (d *dice) noted(h *impl.Heap) {
	list, _ := piecesOf(*h)
	held := slices.DeleteFunc(list, piece.isFree)
	shuffle(d, held)
	last := slices.IndexFunc(held, func(p piece) bool { return !p.isNote() })
	if last < 0 {
		return
	}
	held[0], held[last] = held[last], held[0]
	for i, p := range held[1:] {
		if p.isNote() || d.roll(2) == 0 {
			h.Row[p.at] += 64 * (7 - p.head.Format)
			h.Row[p.at+1] = to(held[d.roll(int64(i)+1)].at)
		}
	}
	rightSeen(h)
}
