package tests

import (
	"slices"
	"testing"

	"loop.example/g00337/impl"
)

// What the tests of several layers ask of what happens, to a heap and to a graph. What is asked by hand is asked only of right heaps and of right graphs, and goes by the chapter's words.

func isRoot(n int64) bool { return 0 <= n && n <= 5 }

// wantRooted is the heap where this word, if it is one, is put into Root A, if there is one.
func wantRooted(h impl.Heap, a impl.Act, w int64, is bool) (impl.Heap, int64) {
	if !is || !isRoot(a.A) {
		return h, -1
	}
	made := clonedHeap(h)
	made.Roots[a.A] = w
	return made, 0
}

// orAsItIs: what could not be is as it was.
func orAsItIs(h, made impl.Heap, is bool) (impl.Heap, int64) {
	if !is {
		return h, -1
	}
	return made, 0
}

func wantSameTold(a impl.Act, one, other int64, are bool) int64 {
	switch {
	case !isRoot(a.A) || !isRoot(a.B):
		return -1
	case are && one == other:
		return 1
	}
	return 0
}

// wantRootActs are the acts that put a word into Root A.
func wantRootActs(h impl.Heap, a impl.Act) (impl.Heap, int64) {
	switch a.Kind {
	case 2:
		return wantRooted(h, a, num(a.N), -100000 <= a.N && a.N <= 100000)
	case 3:
		return wantRooted(h, a, 2, true)
	case 4:
		if isRoot(a.B) {
			return wantRooted(h, a, h.Roots[a.B], true)
		}
	case 5:
		if p, leads := rootByHand(h, a.B); leads {
			w, is := wantFetched(h, p.at, a.N)
			return wantRooted(h, a, w, is)
		}
	case 11:
		if len(h.Mourned) > 0 && isRoot(a.A) {
			made, _ := wantRooted(h, a, h.Mourned[0], true)
			made.Mourned = made.Mourned[1:]
			return made, 0
		}
	}
	return h, -1
}

func wantHappen(h impl.Heap, a impl.Act) (impl.Heap, int64) {
	one, first := rootByHand(h, a.A)
	other, second := rootByHand(h, a.B)
	switch a.Kind {
	case 1:
		return wantAllocated(h, newOne{a.A, a.B, a.C, a.N, a.Flag})
	case 6:
		if first && isRoot(a.B) {
			made, is := wantStored(h, one.at, a.N, h.Roots[a.B])
			return orAsItIs(h, made, is)
		}
		return h, -1
	case 7:
		return wantScavenged(h), 0
	case 8:
		return wantFull(h), 0
	case 9:
		return wantSwapped(h, a.A, a.B)
	case 10:
		return wantReplaced(h, a.A, a.B)
	case 12:
		if first {
			made, is := wantTenured(h, one.at)
			return orAsItIs(h, made, is)
		}
		return h, -1
	case 13:
		if first {
			return h, one.head.Hash
		}
		return h, -1
	case 14:
		return h, wantSameTold(a, one.at, other.at, first && second)
	}
	return wantRootActs(h, a)
}

// wantMournedIn is the graph where the first of Mourned goes to the Root.
func wantMournedIn(g impl.Graph, root int64) (impl.Graph, int64) {
	if !isRoot(root) || len(g.Mourned) == 0 {
		return g, -1
	}
	made := cloned(g)
	made.Roots[root] = g.Mourned[0]
	made.Mourned = made.Mourned[1:]
	return made, 0
}

// wantHeeded is the graph that does what the heap told that it did, or as it is.
func wantHeeded(g impl.Graph, a impl.Act, told int64) impl.Graph {
	made, is := g, false
	switch {
	case a.Kind == 1 && told == 0:
		w := wantMade(g, a.A, a.B, a.C, a.N)
		made, is = w.want, w.wants
	case a.Kind == 1 && told == 2:
		w := wantMade(wantCollected(g), a.A, a.B, a.C, a.N)
		made, is = w.want, w.wants
	case a.Kind == 9 && told == 0:
		made, is = wantGSwapped(g, a.A, a.B)
	case a.Kind == 10 && told == 0:
		made, is = wantGReplaced(g, a.A, a.B)
	}
	if !is {
		return g
	}
	return made
}

func wantGHappen(g impl.Graph, a impl.Act, told int64) (impl.Graph, int64) {
	moved := func(w gWant) (impl.Graph, int64) {
		if !w.wants {
			return g, -1
		}
		return w.want, 0
	}
	switch a.Kind {
	case 1, 9, 10, 12:
		return wantHeeded(g, a, told), told
	case 2:
		return moved(wantGPut(g, a.A, rInt(a.N)))
	case 3:
		return moved(wantGPut(g, a.A, rNil))
	case 4:
		return moved(wantGCopied(g, a.A, a.B))
	case 5:
		return moved(wantGFetched(g, a.A, a.B, a.N))
	case 6:
		return moved(wantGStored(g, a.A, a.N, a.B))
	case 7:
		return g, 0
	case 8:
		return wantCollected(g), 0
	case 11:
		return wantMournedIn(g, a.A)
	case 13:
		return g, wantGHash(g, a.A)
	case 14:
		one, first := wantRootObj(g, a.A)
		other, second := wantRootObj(g, a.B)
		return g, wantSameTold(a, one.Id, other.Id, first && second)
	}
	return g, -1
}

// wantSame holds the graph against all that is led to, by hand.
func wantSame(h impl.Heap, g impl.Graph) bool {
	if !wantHeapOk(h) || !wantGraphOk(g) || h.Seed != g.Seed {
		return false
	}
	shown := byCanon(bareGraph(h))
	return len(shown.Objs) <= 200 && sameGraph(shown, byCanon(g))
}

// checkHappen: the answer is this one, also where a former one was written into; and it shares nothing.
func checkHappen(t *testing.T, w watchedHeap, a impl.Act, want impl.Heap, told int64) {
	t.Helper()
	got, gotTold := impl.Happen(w.heap, a)
	other, otherTold := impl.Happen(w.heap, a)
	if gotTold != told || otherTold != told {
		t.Fatalf("%+v\n%+v tells %d and %d, want %d", w.heap, a, gotTold, otherTold, told)
	}
	checkMadeHeap(t, "Happen", w, got, true, want, true)
	checkMadeHeap(t, "Happen", w, other, true, want, true)
}

func checkGHappen(t *testing.T, w watchedGraph, a impl.Act, told int64, want impl.Graph, tells int64) {
	t.Helper()
	for range 2 {
		got, gotTells := impl.GHappen(w.graph, a, told)
		if gotTells != tells || !sameGraph(got, want) {
			t.Fatalf("%v\n%+v, where %d was told, tells %d\n%v\nwant %d\n%v", w.was, a, told, gotTells, got, tells, want)
		}
		growAll(got)
		checkApart(t, got)
		w.check(t)
	}
}

// checkGAct holds GHappen against the chapter's words, whatever was told.
func checkGAct(t *testing.T, g impl.Graph, a impl.Act, told int64) int64 {
	t.Helper()
	want, tells := wantGHappen(g, a, told)
	checkGHappen(t, watchGraph(g), a, told, want, tells)
	return tells
}

func checkSame(t *testing.T, h impl.Heap, g impl.Graph, want bool) {
	t.Helper()
	w, v := watchHeap(h), watchGraph(g)
	if got := impl.Same(w.heap, v.graph); got != want {
		t.Fatalf("%+v\nand\n%v\nSame %v, want %v", h, g, got, want)
	}
	w.check(t)
	v.check(t)
}

// checkInGraph: where as many are led to as can be Shown, and one more, the graph that is Shown becomes what is shown then, and tells the same.
func checkInGraph(t *testing.T, h impl.Heap, a impl.Act) {
	t.Helper()
	g := impl.Shown(h)
	if !impl.GraphOk(g) || len(g.Objs) == 200 {
		return
	}
	checkSame(t, h, g, true)
	made, told := impl.Happen(h, a)
	became, tells := impl.GHappen(g, a, told)
	if tells != told {
		t.Fatalf("%+v\n%+v tells %d, the graph %d", h, a, told, tells)
	}
	checkSame(t, made, became, true)
	if told == -1 && (!sameHeap(made, h) || !sameGraph(became, g)) {
		t.Fatalf("%+v\n%+v can't be, and it is not as it is\n%+v\n%v\n%v", h, a, made, g, became)
	}
}

// checkAct holds Happen against the chapter's words, and against the graph.
func checkAct(t *testing.T, h impl.Heap, a impl.Act) int64 {
	t.Helper()
	if !wantHeapOk(h) {
		t.Fatalf("the test's own words say that it is wrong: %+v", h)
	}
	want, told := wantHappen(h, a)
	checkHappen(t, watchHeap(h), a, want, told)
	made, _ := impl.Happen(h, a)
	checkSees(t, made)
	checkInGraph(t, h, a)
	return told
}

func second[A, B any](_ A, b B) B { return b }

// watchedActs are acts with marked room behind them, and a picture of them as they were handed in.
type watchedActs struct{ list, was []impl.Act }

func watchActs(list []impl.Act) watchedActs {
	all := slices.Repeat([]impl.Act{{Kind: spare, A: spare, B: spare, C: spare, N: spare, Flag: true}}, len(list)+3)
	copy(all, list)
	return watchedActs{list: all[:len(list)], was: slices.Clone(all)}
}

func (w watchedActs) check(t *testing.T) {
	t.Helper()
	if all := w.list[:len(w.was)]; !slices.Equal(all, w.was) {
		t.Fatalf("the acts, with the room behind them, became %+v, were %+v", all, w.was)
	}
}

// checkPlay: the answer is this one, also where a former one was written into; and it shares nothing.
func checkPlay(t *testing.T, w watchedHeap, list []impl.Act, want impl.Heap, tells []int64) {
	t.Helper()
	acts := watchActs(list)
	got, told := impl.Play(w.heap, acts.list)
	other, otherTold := impl.Play(w.heap, acts.list)
	for _, told := range [][]int64{told, otherTold} {
		if !slices.Equal(told, tells) {
			t.Fatalf("%+v\n%+v\ntold %v, want %v", w.heap, list, told, tells)
		}
		_ = append(told, 1)
		overwrite(told)
	}
	checkMadeHeap(t, "Play", w, got, true, want, true)
	checkMadeHeap(t, "Play", w, other, true, want, true)
	acts.check(t)
}

// checkPlays: it is as if the acts happened one after the other.
func checkPlays(t *testing.T, h impl.Heap, list []impl.Act) []int64 {
	t.Helper()
	made, all := h, []int64{}
	for _, a := range list {
		var told int64
		made, told = impl.Happen(made, a)
		all = append(all, told)
	}
	checkPlay(t, watchHeap(h), list, made, all)
	return all
}

// eachKind goes through all Kinds that there are, those next to them and some far from them.
func eachKind(look func(kind int64)) {
	for kind := int64(-2); kind <= 17; kind++ {
		look(kind)
	}
	for _, kind := range someEnds {
		look(kind)
	}
}

// checkNoHappening: of a wrong heap nothing is told, whatever happens.
func checkNoHappening(t *testing.T, h impl.Heap) {
	t.Helper()
	w := watchHeap(h)
	for kind := int64(-1); kind <= 16; kind++ {
		for _, a := range []impl.Act{{Kind: kind}, {Kind: kind, B: 1, N: 1}, {Kind: kind, A: 5, Flag: true}, {Kind: kind, A: -1, B: 6}} {
			checkHappen(t, w, a, impl.Heap{}, -2)
		}
	}
	for _, n := range []int{0, 1, 200, 201} {
		checkPlay(t, w, slices.Repeat([]impl.Act{{Kind: impl.AcNil}}, n), impl.Heap{}, nil)
	}
	for _, g := range []impl.Graph{{}, graphOf(nil, sixRoots()), plainGraph()} {
		checkSame(t, h, g, false)
	}
}

// checkNoGHappening: of a wrong graph likewise.
func checkNoGHappening(t *testing.T, g impl.Graph) {
	t.Helper()
	w := watchGraph(g)
	for kind := int64(-1); kind <= 16; kind++ {
		for told := int64(-2); told <= 4; told++ {
			checkGHappen(t, w, impl.Act{Kind: kind, A: 1, B: 3, N: 1}, told, impl.Graph{}, -2)
		}
	}
	checkSame(t, impl.Heap{}, g, false)
	checkSame(t, furnished(0), g, false)
	checkSame(t, heapOf(8, 8, 1, nil, nil), g, false)
}

// actCase is a heap as it is, what happens, and by hand the heap as it is then, with what is Seen and whether the room changed sides; where -1 is told it is as it was.
type actCase struct {
	name  string
	was   layout
	act   impl.Act
	then  layout
	seen  []int64
	moved bool
	told  int64
}

func checkActCases(t *testing.T, side int64, list []actCase) {
	t.Helper()
	for _, c := range list {
		h, then := c.was.heap(side), side
		if c.moved {
			then = 1 - side
		}
		want := c.then.heap(then)
		want.Seen = c.seen
		if c.act.Kind == impl.AcNew && c.told%2 == 0 {
			want.Seed = 39022
		}
		if c.told == -1 {
			want = h
		}
		checkBoth(t, c.name, h, true)
		checkBoth(t, c.name+", then", want, true)
		if got, told := impl.Happen(h, c.act); told != c.told || !sameHeap(got, want) {
			t.Fatalf("%s: of\n%+v\n%+v made\n%+v, %d\nwant\n%+v, %d", c.name, h, c.act, got, told, want, c.told)
		}
		checkAct(t, h, c.act)
	}
}

// act is one of this Kind that may well be, with objects of few Slots; now and then a Root is out of range.
func (d *dice) act(kind int64) impl.Act {
	root := func() int64 {
		if d.roll(40) == 0 {
			return d.roll(2)*7 - 1
		}
		return d.roll(6)
	}
	a := impl.Act{Kind: kind, A: root(), B: root(), N: d.roll(3)}
	switch kind {
	case impl.AcNew:
		n := d.newOne(4)
		a.B, a.C, a.N, a.Flag = n.class, n.format, n.slots, d.roll(10) == 0
		if d.roll(40) == 0 {
			a.B, a.C, a.N = d.roll(102)-1, d.roll(5)-1, d.roll(23)-1
		}
	case impl.AcInt:
		a.N = d.roll(200001) - 100000
		if d.roll(30) == 0 {
			a.N *= 100001
		}
	}
	return a
}

// tally counts what was told of each Kind: what could be, what could not, and each number by itself.
type tally struct {
	could, not map[int64]int
	told       map[[2]int64]int
}

func newTally() tally {
	return tally{could: map[int64]int{}, not: map[int64]int{}, told: map[[2]int64]int{}}
}

func (c tally) add(kind, told int64) {
	c.told[[2]int64{kind, told}]++
	if told < 0 {
		c.not[kind]++
	} else {
		c.could[kind]++
	}
}

// check wants so much of each Kind that could be, and that could not; and of each code, but that Replaced is never full.
func (c tally) check(t *testing.T, could, not, codes int) {
	t.Helper()
	for kind := int64(2); kind <= 14; kind++ {
		if c.could[kind] < could {
			t.Fatalf("only %d of Kind %d could be", c.could[kind], kind)
		}
	}
	for _, kind := range []int64{0, 2, 3, 4, 5, 6, 11, 12, 13, 14, 15} {
		if c.not[kind] < not {
			t.Fatalf("only %d of Kind %d could not be", c.not[kind], kind)
		}
	}
	for _, list := range [][]int64{{impl.AcNew, 0, 1, 2, 3}, {impl.AcSwap, 0, 1, 2, 3, 4}, {impl.AcReplace, 0, 1, 2, 3}, {impl.AcSame, 0, 1}} {
		for _, told := range list[1:] {
			if n := c.told[[2]int64{list[0], told}]; n < codes {
				t.Fatalf("only %d of Kind %d tell %d", n, list[0], told)
			}
		}
	}
}

// anyAct is one of every Kind, and some that are none; some more often, so that much comes to be led to.
func (d *dice) anyAct() impl.Act {
	kinds := []int64{1, 1, 1, 1, 1, 6, 6, 6, 6, 6, 6, 3, 3, 2, 4, 4, 5, 5, 7, 8, 9, 9, 10, 11, 11, 12, 12, 13, 14, d.roll(17) - 1}
	return d.act(kinds[d.roll(int64(len(kinds)))])
}

// acts are so many; now and then some of them let one wait in vain.
func (d *dice) acts(n int) []impl.Act {
	list := []impl.Act{}
	for len(list) < n {
		if d.roll(15) > 0 {
			list = append(list, d.anyAct())
			continue
		}
		a, b := d.roll(6), d.roll(6)
		list = append(list,
			impl.Act{Kind: impl.AcNew, A: a, B: d.roll(100), C: impl.FoEphem, N: 1 + d.roll(3)},
			impl.Act{Kind: impl.AcNew, A: b, B: d.roll(100), C: d.roll(2), N: d.roll(3)},
			impl.Act{Kind: impl.AcStore, A: a, B: b},
			impl.Act{Kind: impl.AcNil, A: b})
		if d.roll(2) == 0 {
			list = append(list, impl.Act{Kind: impl.AcFull})
		}
	}
	return list[:n]
}

// actRun is a heap and a graph, both new, to which the same happens.
type actRun struct {
	t    *testing.T
	new  impl.Heap
	h    impl.Heap
	g    impl.Graph
	acts []impl.Act
	all  []int64
}

func newRun(t *testing.T, half, old, seed int64) *actRun {
	h, one := impl.NewHeap(half, old, seed)
	g, other := impl.NewGraph(seed)
	if !one || !other {
		t.Fatalf("there is no heap of %d, %d and %d", half, old, seed)
	}
	r := &actRun{t: t, new: h, h: h, g: g}
	checkSame(t, h, g, true)
	return r
}

// happen is the promise, at one act.
func (r *actRun) happen(a impl.Act) int64 {
	r.t.Helper()
	h, told := impl.Happen(r.h, a)
	g, tells := impl.GHappen(r.g, a, told)
	r.acts, r.all = append(r.acts, a), append(r.all, told)
	if told != tells || !impl.Same(h, g) {
		r.t.Fatalf("%+v\n%v\nafter %+v\nit tells %d\n%+v\nand the graph %d\n%v", r.h, r.g, r.acts, told, h, tells, g)
	}
	if told == -1 && (!sameHeap(h, r.h) || !sameGraph(g, r.g)) {
		r.t.Fatalf("%+v\n%+v can't be, and it is not as it is\n%+v\n%v\n%v", r.h, a, h, r.g, g)
	}
	r.h, r.g = h, g
	return told
}

// happenByHand is likewise, and both are held against the chapter's words, too.
func (r *actRun) happenByHand(a impl.Act) int64 {
	r.t.Helper()
	h, told := wantHappen(r.h, a)
	g, tells := wantGHappen(r.g, a, told)
	if got := r.happen(a); got != told || told != tells || !sameHeap(r.h, h) || !sameGraph(r.g, g) {
		r.t.Fatalf("after %+v\nit tells %d\n%+v\n%v\nwant %d and %d\n%+v\n%v", r.acts, got, r.h, r.g, told, tells, h, g)
	}
	if !wantSame(h, g) {
		r.t.Fatalf("after %+v\nthe test's own words say that it is not the Same\n%+v\n%v", r.acts, h, g)
	}
	return told
}

// checkPlayed: Play of all that happened comes to the same.
func (r *actRun) checkPlayed() {
	r.t.Helper()
	checkPlay(r.t, watchHeap(r.new), r.acts, r.h, r.all)
}
