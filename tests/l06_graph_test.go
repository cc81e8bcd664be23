package tests

import (
	"math"
	"slices"
	"strconv"
	"testing"

	"loop.example/g00337/impl"
)

// someNumbers are in and out of every range that the chapter has.
var someNumbers = []int64{
	math.MinInt64, math.MinInt64 + 1, -1 << 32, -100001, -100000, -2, -1, 0, 1, 2, 3, 5, 6, 7, 19, 20, 21, 40, 41, 99, 100, 199, 200,
	65535, 65536, 99999, 100000, 100001, 1 << 32, math.MaxInt64 - 1, math.MaxInt64,
}

// gWant is what one call on a graph should answer.
type gWant struct {
	name  string
	call  func(impl.Graph) (impl.Graph, bool)
	want  impl.Graph
	wants bool
}

func (w gWant) check(t *testing.T, g watchedGraph) {
	t.Helper()
	got, is := w.call(g.graph)
	if is != w.wants || !sameGraph(got, w.want) {
		t.Fatalf("%v\n%s = %v\n%v\nwant %v\n%v", g.was, w.name, is, got, w.wants, w.want)
	}
	g.check(t)
	if is && !wantGraphOk(got) {
		t.Fatalf("%v\n%s makes what is not right: %v", g.was, w.name, got)
	}
	checkApart(t, got)
	g.check(t)
}

func wantRootObj(g impl.Graph, root int64) (impl.Obj, bool) {
	if root < 0 || root > 5 || g.Roots[root].Kind != 2 {
		return impl.Obj{}, false
	}
	return findObj(g, g.Roots[root].N)
}

func wantMade(g impl.Graph, root, class, format, slots int64) gWant {
	w := gWant{name: "GMade", want: cloned(g)}
	w.call = func(g impl.Graph) (impl.Graph, bool) { return impl.GMade(g, root, class, format, slots) }
	least := int64(0)
	if format == 2 {
		least = 1
	}
	if root < 0 || root > 5 || class < 0 || class > 99 || format < 0 || format > 2 || slots < least || slots > 20 || len(g.Objs) == 200 || g.Next == 100000 {
		return w
	}
	hash := (25173*g.Seed + 13849) % 65536
	w.want.Objs = append(w.want.Objs, obj(g.Next, class, format, hash, make([]impl.Ref, slots)...))
	w.want.Roots[root] = rObj(g.Next)
	w.want.Next = g.Next + 1
	w.want.Seed = hash
	w.wants = true
	return w
}

func wantGFetched(g impl.Graph, to, from, slot int64) gWant {
	w := gWant{name: "GFetched", want: cloned(g)}
	w.call = func(g impl.Graph) (impl.Graph, bool) { return impl.GFetched(g, to, from, slot) }
	o, is := wantRootObj(g, from)
	if !is || to < 0 || to > 5 || slot < 0 || slot >= int64(len(o.Slots)) {
		return w
	}
	w.want.Roots[to] = o.Slots[slot]
	w.wants = true
	return w
}

func wantGStored(g impl.Graph, to, slot, from int64) gWant {
	w := gWant{name: "GStored", want: cloned(g)}
	w.call = func(g impl.Graph) (impl.Graph, bool) { return impl.GStored(g, to, slot, from) }
	o, is := wantRootObj(w.want, to)
	if !is || from < 0 || from > 5 || slot < 0 || slot >= int64(len(o.Slots)) {
		return w
	}
	o.Slots[slot] = g.Roots[from]
	w.wants = true
	return w
}

func wantGPut(g impl.Graph, root int64, r impl.Ref) gWant {
	w := gWant{name: "GPut", want: cloned(g)}
	w.call = func(g impl.Graph) (impl.Graph, bool) { return impl.GPut(g, root, r) }
	if root < 0 || root > 5 || r.Kind == 2 || !wantRef(g, r) {
		return w
	}
	w.want.Roots[root] = r
	w.wants = true
	return w
}

func wantGCopied(g impl.Graph, to, from int64) gWant {
	w := gWant{name: "GCopied", want: cloned(g)}
	w.call = func(g impl.Graph) (impl.Graph, bool) { return impl.GCopied(g, to, from) }
	if to < 0 || to > 5 || from < 0 || from > 5 {
		return w
	}
	w.want.Roots[to] = g.Roots[from]
	w.wants = true
	return w
}

func wantGHash(g impl.Graph, root int64) int64 {
	if o, is := wantRootObj(g, root); is {
		return o.Hash
	}
	return -1
}

func checkGHash(t *testing.T, w watchedGraph, root, want int64) {
	t.Helper()
	if got := impl.GHash(w.graph, root); got != want {
		t.Fatalf("%v\nGHash %d = %d, want %d", w.was, root, got, want)
	}
	w.check(t)
}

func checkCanon(t *testing.T, g impl.Graph, want string) {
	t.Helper()
	w := watchGraph(g)
	if got := impl.Canon(w.graph); got != want {
		t.Fatalf("%v\nCanon = %q\n want = %q", g, got, want)
	}
	w.check(t)
}

func checkGraphOk(t *testing.T, g impl.Graph, want bool) {
	t.Helper()
	w := watchGraph(g)
	if got := impl.GraphOk(w.graph); got != want {
		t.Fatalf("%v\nGraphOk = %v, want %v", g, got, want)
	}
	w.check(t)
}

// checkNoGraph: a graph that is not right is answered by the zero Graph and false, by -1 or by the empty text, whatever else is asked.
func checkNoGraph(t *testing.T, g impl.Graph) {
	t.Helper()
	checkGraphOk(t, g, false)
	checkCanon(t, g, "")
	w := watchGraph(g)
	for _, root := range []int64{-1, 0, 1, 5, 6, math.MinInt64, math.MaxInt64} {
		checkGHash(t, w, root, -1)
		for name, call := range map[string]func(impl.Graph) (impl.Graph, bool){
			"GMade":    func(g impl.Graph) (impl.Graph, bool) { return impl.GMade(g, root, 1, 0, 1) },
			"GFetched": func(g impl.Graph) (impl.Graph, bool) { return impl.GFetched(g, root, 0, 0) },
			"GStored":  func(g impl.Graph) (impl.Graph, bool) { return impl.GStored(g, root, 0, 0) },
			"GPut":     func(g impl.Graph) (impl.Graph, bool) { return impl.GPut(g, root, rNil) },
			"GCopied":  func(g impl.Graph) (impl.Graph, bool) { return impl.GCopied(g, root, 0) },
		} {
			gWant{name: name, call: call}.check(t, w)
		}
	}
}

// plainGraph has one of each: a cycle, an Obj that is come to twice, one that only Mourned lead to, one that nobody comes to.
func plainGraph() impl.Graph {
	return graphOf([]impl.Obj{
		obj(1, 5, impl.FoPlain, 11, rObj(4), rInt(-3), rNil),
		obj(2, 0, impl.FoWeak, 0, rObj(4)),
		obj(4, 99, impl.FoEphem, 65535, rObj(1), rObj(1)),
		obj(7, 3, impl.FoPlain, 77),
		obj(9, 8, impl.FoPlain, 99, rObj(9), rObj(1)),
	}, sixRoots(rInt(7), rObj(4), rNil, rObj(2)), rObj(7), rObj(1))
}

func TestGraphConstants(t *testing.T) {
	if impl.RfNil != 0 || impl.RfInt != 1 || impl.RfObj != 2 || impl.MaxId != 100000 {
		t.Error(impl.RfNil, impl.RfInt, impl.RfObj, impl.MaxId)
	}
}

func TestGraphByHand(t *testing.T) {
	g, is := impl.NewGraph(5)
	if !is || !impl.GraphOk(g) || len(g.Objs) != 0 || len(g.Mourned) != 0 || g.Next != 1 || g.Seed != 5 || !slices.Equal(g.Roots, sixRoots()) {
		t.Fatal(g, is)
	}
	a, is := impl.GMade(g, 5, 12, impl.FoEphem, 2)
	hash := impl.Draw(5)
	want := graphOf([]impl.Obj{obj(1, 12, 2, hash, rNil, rNil)}, sixRoots(rNil, rNil, rNil, rNil, rNil, rObj(1)))
	want.Seed = hash
	if !is || !sameGraph(a, want) || impl.GHash(a, 5) != hash {
		t.Fatal(a, is, want)
	}
	b, is := impl.GMade(a, 0, 13, impl.FoWeak, 0)
	if !is || b.Seed != impl.Draw(hash) || b.Next != 3 || b.Roots[0] != rObj(2) || impl.GHash(b, 0) != impl.Draw(hash) || impl.GHash(b, 5) != hash {
		t.Fatal(b, is)
	}
	c, is := impl.GStored(b, 5, 1, 0)
	if !is || c.Objs[0].Slots[1] != rObj(2) || b.Objs[0].Slots[1] != rNil {
		t.Fatal(c, is)
	}
	d, is := impl.GFetched(c, 5, 5, 1)
	if !is || d.Roots[5] != rObj(2) || c.Roots[5] != rObj(1) {
		t.Fatal(d, is)
	}
	e, is := impl.GPut(d, 0, rInt(-100000))
	if !is || e.Roots[0] != rInt(-100000) {
		t.Fatal(e, is)
	}
	f, is := impl.GCopied(e, 3, 0)
	if !is || f.Roots[3] != rInt(-100000) || impl.GHash(f, 3) != -1 {
		t.Fatal(f, is)
	}
	// The first Obj is led to by nobody now, and stays.
	if len(f.Objs) != 2 || impl.Canon(f) != "-100000i n n -100000i n 1o\n13 1 "+strconv.FormatInt(impl.Draw(hash), 10)+"\n" {
		t.Fatalf("%q", impl.Canon(f))
	}
}

func TestNewGraphOfSeeds(t *testing.T) {
	for seed := range int64(65536) {
		g, is := impl.NewGraph(seed)
		if !is || !sameGraph(g, impl.Graph{Roots: sixRoots(), Next: 1, Seed: seed}) || !impl.GraphOk(g) {
			t.Fatal(seed, g, is)
		}
	}
	for _, seed := range []int64{math.MinInt64, -1 << 32, -65536, -1, 65536, 65537, 1 << 32, math.MaxInt64} {
		if g, is := impl.NewGraph(seed); is || !sameGraph(g, impl.Graph{}) {
			t.Fatal(seed, g, is)
		}
	}
	a, _ := impl.NewGraph(3)
	b, _ := impl.NewGraph(3)
	checkApart(t, a)
	if !sameGraph(b, impl.Graph{Roots: sixRoots(), Next: 1, Seed: 3}) {
		t.Fatal("two new graphs share their room", b)
	}
}

func TestCanonByHand(t *testing.T) {
	for _, c := range []struct {
		g    impl.Graph
		want string
	}{
		{graphOf(nil, sixRoots()), "n n n n n n\n"},
		{graphOf(nil, sixRoots(rInt(0), rInt(100000), rInt(-100000), rInt(7), rNil, rInt(-1))), "0i 100000i -100000i 7i n -1i\n"},
		{graphOf([]impl.Obj{obj(1, 2, 0, 3)}, sixRoots()), "n n n n n n\n"},
		{graphOf([]impl.Obj{obj(1, 2, 0, 3)}, sixRoots(rNil, rObj(1))), "n 1o n n n n\n2 0 3\n"},
		{graphOf([]impl.Obj{obj(5, 99, 2, 65535, rObj(5))}, sixRoots(rObj(5), rObj(5))), "1o 1o n n n n\n99 2 65535 1o\n"},
		{graphOf([]impl.Obj{obj(5, 0, 1, 0, rNil, rInt(-8))}, sixRoots(), rObj(5)), "n n n n n n 1o\n0 1 0 n -8i\n"},
		{graphOf([]impl.Obj{obj(5, 0, 1, 0)}, sixRoots(), rObj(5), rObj(5)), "n n n n n n 1o 1o\n0 1 0\n"},
		// A cycle of two, from either side.
		{graphOf([]impl.Obj{obj(1, 1, 0, 1, rObj(2)), obj(2, 2, 0, 2, rObj(1))}, sixRoots(rObj(1))), "1o n n n n n\n1 0 1 2o\n2 0 2 1o\n"},
		{graphOf([]impl.Obj{obj(1, 1, 0, 1, rObj(2)), obj(2, 2, 0, 2, rObj(1))}, sixRoots(rObj(2))), "1o n n n n n\n2 0 2 2o\n1 0 1 1o\n"},
		// Roots come ahead of Mourned, Mourned ahead of Slots, and Slots Obj by Obj: the fourth is a Slot of the first, the fifth of the second.
		{graphOf([]impl.Obj{obj(1, 1, 0, 1), obj(2, 2, 0, 2), obj(3, 3, 0, 3, rObj(1)), obj(4, 4, 0, 4, rObj(2)), obj(5, 5, 0, 5)}, sixRoots(rNil, rObj(4), rNil, rNil, rNil, rObj(3)), rObj(5)),
			"n 1o n n n 2o 3o\n4 0 4 4o\n3 0 3 5o\n5 0 5\n2 0 2\n1 0 1\n"},
		// By the breadth, not by the depth: 2 leads to 4, and 3 is come to ahead of it.
		{graphOf([]impl.Obj{obj(1, 1, 0, 1, rObj(2), rObj(3)), obj(2, 2, 0, 2, rObj(4)), obj(3, 3, 0, 3), obj(4, 4, 0, 4, rObj(1))}, sixRoots(rObj(1))),
			"1o n n n n n\n1 0 1 2o 3o\n2 0 2 4o\n3 0 3\n4 0 4 1o\n"},
		// Weak ones and those of FoEphem are gone through as all others.
		{graphOf([]impl.Obj{obj(1, 1, 1, 1, rObj(2)), obj(2, 2, 2, 2, rObj(3), rObj(4)), obj(3, 3, 0, 3), obj(4, 4, 0, 4)}, sixRoots(rObj(1))),
			"1o n n n n n\n1 1 1 2o\n2 2 2 3o 4o\n3 0 3\n4 0 4\n"},
		{plainGraph(), "7i 1o n 2o n n 3o 4o\n99 2 65535 4o 4o\n0 1 0 1o\n3 0 77\n5 0 11 1o -3i n\n"},
	} {
		if got := wantCanon(c.g); got != c.want {
			t.Fatalf("by hand %q, but by the chapter's words %q", c.want, got)
		}
		checkCanon(t, c.g, c.want)
	}
}

// gChange makes one thing of a graph other than it was.
type gChange struct {
	name   string
	change func(*impl.Graph)
	want   bool
}

func edgesOfGraphs() []gChange {
	list := []gChange{
		{"as it is", func(g *impl.Graph) {}, true},
		{"no Roots", func(g *impl.Graph) { g.Roots = nil }, false},
		{"5 Roots", func(g *impl.Graph) { g.Roots = g.Roots[:5] }, false},
		{"7 Roots", func(g *impl.Graph) { g.Roots = append(g.Roots, rNil) }, false},
		{"no Mourned", func(g *impl.Graph) { g.Mourned = nil }, true},
		{"40 Mourned", func(g *impl.Graph) { g.Mourned = slices.Repeat([]impl.Ref{rObj(9)}, 40) }, true},
		{"41 Mourned", func(g *impl.Graph) { g.Mourned = slices.Repeat([]impl.Ref{rObj(9)}, 41) }, false},
		{"41 Mourned that are nothing", func(g *impl.Graph) { g.Mourned = make([]impl.Ref, 41) }, false},
		{"Ids that fall", func(g *impl.Graph) { g.Objs[0], g.Objs[1] = g.Objs[1], g.Objs[0] }, false},
		{"Ids that fall at the end", func(g *impl.Graph) { g.Objs[3], g.Objs[4] = g.Objs[4], g.Objs[3] }, false},
		{"two Ids alike", func(g *impl.Graph) { g.Objs[1].Id = 1 }, false},
		{"two Ids alike at the end", func(g *impl.Graph) { g.Objs[3].Id = 9; g.Mourned = nil }, false},
		{"an Obj less", func(g *impl.Graph) { g.Objs = g.Objs[:4] }, true},
		{"an Obj less that is led to", func(g *impl.Graph) { g.Objs = g.Objs[1:] }, false},
		{"no Objs", func(g *impl.Graph) { g.Objs = nil }, false},
		{"all Objs less", func(g *impl.Graph) { *g = graphOf(nil, sixRoots()) }, true},
		{"the zero Graph", func(g *impl.Graph) { *g = impl.Graph{} }, false},
	}
	for _, n := range someNumbers {
		list = append(list,
			gChange{"Next", func(g *impl.Graph) { g.Next = n }, 10 <= n && n <= 100000},
			gChange{"Next of none", func(g *impl.Graph) { *g = graphOf(nil, sixRoots()); g.Next = n }, 1 <= n && n <= 100000},
			gChange{"Seed", func(g *impl.Graph) { g.Seed = n }, 0 <= n && n <= 65535},
			gChange{"the first Id", func(g *impl.Graph) { *g = graphOf([]impl.Obj{obj(n, 1, 0, 1)}, sixRoots()); g.Next = 100000 }, 1 <= n && n < 100000},
			gChange{"the last Id", func(g *impl.Graph) { g.Objs[4] = obj(n, 1, 0, 1); g.Next = 100000 }, 7 < n && n < 100000},
			gChange{"Class", func(g *impl.Graph) { g.Objs[2].Class = n }, 0 <= n && n <= 99},
			gChange{"Format", func(g *impl.Graph) { g.Objs[2].Format = n }, 0 <= n && n <= 2},
			gChange{"Format of none", func(g *impl.Graph) { g.Objs[3].Format = n }, 0 <= n && n <= 1},
			gChange{"Hash", func(g *impl.Graph) { g.Objs[2].Hash = n }, 0 <= n && n <= 65535},
		)
		if 0 <= n && n <= 200 {
			for format := range int64(3) {
				list = append(list, gChange{"Slots", func(g *impl.Graph) { g.Objs[4].Format = format; g.Objs[4].Slots = make([]impl.Ref, n) }, n <= 20 && (format < 2 || n > 0)})
			}
		}
		for kind := int64(-1); kind <= 4; kind++ {
			r := impl.Ref{Kind: kind, N: n}
			led := n == 1 || n == 2 || n == 7
			is := r == rNil || kind == 1 && -100000 <= n && n <= 100000 || kind == 2 && led
			list = append(list,
				gChange{"the first Root", func(g *impl.Graph) { g.Roots[0] = r }, is},
				gChange{"the last Root", func(g *impl.Graph) { g.Roots[5] = r }, is},
				gChange{"a Slot", func(g *impl.Graph) { g.Objs[0].Slots[0] = r }, is},
				gChange{"the last Slot", func(g *impl.Graph) { g.Objs[4].Slots[1] = r }, is},
				gChange{"the first Mourned", func(g *impl.Graph) { g.Mourned[0] = r }, is && kind == 2},
				gChange{"the last Mourned", func(g *impl.Graph) { g.Mourned[1] = r }, is && kind == 2},
			)
		}
	}
	return list
}

func TestGraphOkAtItsEdges(t *testing.T) {
	for _, c := range edgesOfGraphs() {
		g := plainGraph()
		c.change(&g)
		if wantGraphOk(g) != c.want {
			t.Fatalf("%s: %v is told otherwise by the chapter's words", c.name, g)
		}
		checkGraphOk(t, g, c.want)
		if c.want {
			checkCanon(t, g, wantCanon(g))
		} else {
			checkNoGraph(t, g)
		}
	}
}

func TestGraphOkByTheCountOfObjs(t *testing.T) {
	for _, n := range []int64{0, 1, 2, 199, 200, 201, 202, 1000} {
		objs := []impl.Obj{}
		for id := int64(1); id <= n; id++ {
			objs = append(objs, obj(id, id%100, 0, id, rObj(id%n+1)))
		}
		roots := sixRoots()
		if n > 0 {
			roots = sixRoots(rObj(n), rObj(1))
		}
		g := graphOf(objs, roots)
		if n > 200 {
			checkNoGraph(t, g)
			continue
		}
		checkGraphOk(t, g, true)
		checkCanon(t, g, wantCanon(g))
		checkMade(t, g, []int64{0, 5}, []int64{3}, []int64{0, 2}, []int64{1, 20})
	}
}

func checkMade(t *testing.T, g impl.Graph, roots, classes, formats, slots []int64) {
	t.Helper()
	w := watchGraph(g)
	for _, root := range roots {
		for _, class := range classes {
			for _, format := range formats {
				for _, n := range slots {
					wantMade(g, root, class, format, n).check(t, w)
				}
			}
		}
	}
}

func TestGMadeAtItsEdges(t *testing.T) {
	g := plainGraph()
	formats := []int64{math.MinInt64, -1, 0, 1, 2, 3, 4, 5, 6, 7, 8, math.MaxInt64}
	checkMade(t, g, fromTo(-1, 6), []int64{0}, fromTo(-1, 3), fromTo(-1, 21))
	checkMade(t, g, []int64{1}, someNumbers, formats, []int64{0, 1, 20})
	checkMade(t, g, someNumbers, []int64{99}, []int64{0}, someNumbers)
	for _, seed := range []int64{0, 1, 65535, 32768} {
		g.Seed = seed
		checkMade(t, g, []int64{0}, []int64{4}, []int64{1}, []int64{3})
	}
}

// The last Id that there is, is one below MaxId: then there is no room, however few Objs there are.
func TestGMadeUpToMaxId(t *testing.T) {
	for _, g := range []impl.Graph{plainGraph(), graphOf(nil, sixRoots())} {
		g.Next = 99998
		ids := []int64{}
		for {
			w := wantMade(g, 2, 1, 0, 1)
			w.check(t, watchGraph(g))
			if !w.wants {
				break
			}
			g, _ = impl.GMade(g, 2, 1, 0, 1)
			ids = append(ids, g.Roots[2].N)
		}
		if !slices.Equal(ids, []int64{99998, 99999}) || g.Next != 100000 || !impl.GraphOk(g) {
			t.Fatal(ids, g)
		}
	}
}

// From an empty graph on, 200 Objs are made, each of them new, and no more.
func TestGMadeUpToItsRoom(t *testing.T) {
	g, _ := impl.NewGraph(9)
	for n := range int64(200) {
		hash := impl.Draw(g.Seed)
		made, is := impl.GMade(g, n%6, n%100, n%3, 1+n%20)
		if !is || int64(len(made.Objs)) != n+1 || made.Roots[n%6] != rObj(n+1) || made.Seed != hash || impl.GHash(made, n%6) != hash || !impl.GraphOk(made) {
			t.Fatal(n, made, is)
		}
		if !slices.EqualFunc(made.Objs[:n], g.Objs, sameObj) {
			t.Fatalf("made the %d. Obj: others changed", n)
		}
		g = made
	}
	w := wantMade(g, 0, 0, 0, 0)
	if w.wants {
		t.Fatal("there is room for 201")
	}
	w.check(t, watchGraph(g))
}

// checkMoves asks all that can be fetched, stored, put, copied and hashed at these roots and slots.
func checkMoves(t *testing.T, g impl.Graph, roots, slots []int64) {
	t.Helper()
	w := watchGraph(g)
	for _, a := range roots {
		checkGHash(t, w, a, wantGHash(g, a))
		for _, r := range []impl.Ref{rNil, rInt(0), rInt(-100000), rInt(100001), rObj(1), {Kind: 0, N: 1}, {Kind: 3, N: 0}, {Kind: -1, N: 0}} {
			wantGPut(g, a, r).check(t, w)
		}
		for _, b := range roots {
			wantGCopied(g, a, b).check(t, w)
			for _, slot := range slots {
				wantGFetched(g, a, b, slot).check(t, w)
				wantGStored(g, a, slot, b).check(t, w)
			}
		}
	}
}

func TestGraphMovesAtTheirEdges(t *testing.T) {
	g := plainGraph()
	far := []int64{math.MinInt64, math.MinInt64 + 1, -1 << 32, 1 << 32, math.MaxInt64 - 1, math.MaxInt64}
	checkMoves(t, g, fromTo(-1, 6), fromTo(-1, 4))
	checkMoves(t, g, append(far, 1, 3), append(far, 0))
	g.Objs[4].Slots = slices.Repeat([]impl.Ref{rObj(9), rInt(4)}, 10)
	g.Roots = sixRoots(rObj(9), rInt(9), rNil, rObj(1), rObj(2), rObj(7))
	checkMoves(t, g, fromTo(-1, 6), []int64{-1, 0, 1, 2, 3, 18, 19, 20, 21})
	checkMoves(t, graphOf(nil, sixRoots(rInt(1))), fromTo(-1, 6), []int64{-1, 0, 1})
	d := dice{3}
	for _, n := range []int64{1, 2, 30, 200} {
		checkMoves(t, d.graph(n, 5, 40), fromTo(-1, 6), fromTo(-1, 5))
	}
}

func TestGPutOfEveryKind(t *testing.T) {
	g := plainGraph()
	w := watchGraph(g)
	for _, root := range []int64{-1, 0, 1, 5, 6} {
		for kind := int64(-2); kind <= 4; kind++ {
			for _, n := range someNumbers {
				wantGPut(g, root, impl.Ref{Kind: kind, N: n}).check(t, w)
			}
		}
		for _, kind := range someNumbers {
			wantGPut(g, root, impl.Ref{Kind: kind}).check(t, w)
		}
	}
	wantGPut(g, 0, rObj(4)).check(t, w)
}

// An Obj that leads to itself, stored by itself, and a Root that becomes what its own Obj leads to.
func TestGraphMovesOnOneself(t *testing.T) {
	g, _ := impl.NewGraph(0)
	g, _ = impl.GMade(g, 2, 1, 0, 1)
	w := wantGStored(g, 2, 0, 2)
	w.check(t, watchGraph(g))
	if !w.wants || w.want.Objs[0].Slots[0] != rObj(1) {
		t.Fatal(w.want)
	}
	g, _ = impl.GStored(g, 2, 0, 2)
	wantGFetched(g, 2, 2, 0).check(t, watchGraph(g))
	g, is := impl.GFetched(g, 2, 2, 0)
	if !is || g.Roots[2] != rObj(1) || impl.GHash(g, 2) != impl.Draw(0) {
		t.Fatal(g, is)
	}
}

// Whatever is made, fetched, stored, put and copied: the answers are the chapter's, and a right graph stays right.
func TestGraphsInTurn(t *testing.T) {
	d := dice{7}
	for seed := range int64(8) {
		g, _ := impl.NewGraph(seed * 9000)
		for range 900 {
			a, b, c := d.roll(8)-1, d.roll(8)-1, d.roll(5)-1
			var w gWant
			switch d.roll(6) {
			case 0:
				w = wantMade(g, a, d.roll(102)-1, d.roll(5)-1, c)
			case 1:
				w = wantGFetched(g, a, b, c)
			case 2, 3:
				w = wantGStored(g, a, c, b)
			case 4:
				w = wantGPut(g, a, impl.Ref{Kind: d.roll(4), N: d.roll(3) * (d.roll(100002) - 1)})
			case 5:
				w = wantGCopied(g, a, b)
			}
			w.check(t, watchGraph(g))
			g, _ = w.call(g)
			checkGraphOk(t, g, true)
			checkCanon(t, g, wantCanon(g))
		}
	}
}

func TestCanonOfManyGraphs(t *testing.T) {
	d := dice{1}
	for i := range int64(300) {
		g := d.graph(i%40, i%7, i%5)
		checkGraphOk(t, g, true)
		checkCanon(t, g, wantCanon(g))
	}
	for _, n := range []int64{199, 200} {
		g := d.graph(n, 20, 40)
		checkGraphOk(t, g, true)
		checkCanon(t, g, wantCanon(g))
	}
}

// Under other Ids, and with more Objs that nobody comes to, a graph has one Canon, and no call tells the two apart.
func TestOneCanonCannotBeToldApart(t *testing.T) {
	d := dice{2}
	for i := range int64(60) {
		g := d.graph(1+i%12, 3, i%4)
		for more := range int64(3) {
			other := d.otherIds(g, more*more)
			checkGraphOk(t, other, true)
			if impl.Canon(g) != impl.Canon(other) {
				t.Fatalf("%v\n%v\n%q\n%q", g, other, impl.Canon(g), impl.Canon(other))
			}
			checkAlike(t, g, other)
		}
	}
}

func checkAlike(t *testing.T, g, other impl.Graph) {
	t.Helper()
	alike := func(a impl.Graph, is bool) func(impl.Graph, bool) {
		return func(b impl.Graph, too bool) {
			t.Helper()
			if is != too || impl.Canon(a) != impl.Canon(b) || a.Seed != b.Seed {
				t.Fatalf("told apart: %v\n%v\nbecame %v, %v\n%v, %v", g, other, is, a, too, b)
			}
		}
	}
	for a := int64(-1); a <= 6; a++ {
		if impl.GHash(g, a) != impl.GHash(other, a) {
			t.Fatalf("told apart by GHash %d: %v\n%v", a, g, other)
		}
		alike(impl.GMade(g, a, 1, 0, 2))(impl.GMade(other, a, 1, 0, 2))
		alike(impl.GPut(g, a, rInt(8)))(impl.GPut(other, a, rInt(8)))
		for b := int64(-1); b <= 6; b++ {
			alike(impl.GCopied(g, a, b))(impl.GCopied(other, a, b))
			for slot := int64(-1); slot <= 3; slot++ {
				alike(impl.GFetched(g, a, b, slot))(impl.GFetched(other, a, b, slot))
				alike(impl.GStored(g, a, slot, b))(impl.GStored(other, a, slot, b))
			}
		}
	}
}

// otherRefs are some that this one is not.
func otherRefs(g impl.Graph, r impl.Ref) []impl.Ref {
	list := []impl.Ref{rNil, rInt(0), rInt(1), rInt(-1), rInt(100000), rInt(r.N + 1), rInt(r.N - 1)}
	for _, o := range g.Objs {
		list = append(list, rObj(o.Id), rInt(o.Id))
	}
	return slices.DeleteFunc(list, func(o impl.Ref) bool { return o == r || !wantRef(g, o) })
}

// One thing changed of what is come to, and the Canon is another one; of what is not, and it is the same.
func TestCanonChangesWithAllThatIsComeTo(t *testing.T) {
	d := dice{5}
	for i := range int64(40) {
		g := d.graph(1+i%9, 3, i%3)
		checkChanges(t, g, g.Roots, impl.Canon(g), true)
		checkChanges(t, g, g.Mourned, impl.Canon(g), true)
		for place, o := range g.Objs {
			come := slices.Contains(cameTo(g), o.Id)
			checkChanges(t, g, o.Slots, impl.Canon(g), come)
			for _, change := range []func(*impl.Obj){
				func(o *impl.Obj) { o.Class = (o.Class + 1) % 100 },
				func(o *impl.Obj) { o.Hash = 65535 },
				func(o *impl.Obj) { o.Hash = 65534 },
				func(o *impl.Obj) { o.Format = 1 - o.Format%2 },
				func(o *impl.Obj) { o.Slots = append(o.Slots, rNil) },
				func(o *impl.Obj) { o.Slots = append(o.Slots, rInt(o.Hash)) },
			} {
				other := cloned(g)
				change(&other.Objs[place])
				checkGraphOk(t, other, true)
				if (impl.Canon(other) != impl.Canon(g)) != come {
					t.Fatalf("%v\n%v: Canon %q", g, other, impl.Canon(other))
				}
			}
		}
		more := cloned(g)
		more.Mourned = append(more.Mourned, rObj(g.Objs[0].Id))
		if impl.Canon(more) == impl.Canon(g) {
			t.Fatalf("%v\n%v: Canon %q", g, more, impl.Canon(more))
		}
		// Next and Seed are not in it.
		more = cloned(g)
		more.Next, more.Seed = 99999, 65535-g.Seed
		checkCanon(t, more, impl.Canon(g))
	}
}

// checkChanges changes a list of the graph in its place, Ref by Ref, and back.
func checkChanges(t *testing.T, g impl.Graph, list []impl.Ref, was string, come bool) {
	t.Helper()
	for i, r := range list {
		for _, o := range otherRefs(g, r) {
			list[i] = o
			if !impl.GraphOk(g) {
				continue
			}
			if got := impl.Canon(g); (got != was) != come {
				t.Fatalf("%v became %v: %v has the Canon %q, as it had, or it should have stayed so: %q", r, o, g, got, was)
			}
		}
		list[i] = r
	}
}

// Right graphs with one or more things set to some number: the chapter's words tell which of them are right still.
func TestGraphsThatAreSpoilt(t *testing.T) {
	d := dice{11}
	right := 0
	for range 4000 {
		g := d.graph(1+d.roll(5), 3, d.roll(3))
		for range 1 + d.roll(2) {
			spoil(&d, &g)
		}
		if wantGraphOk(g) {
			right++
			checkGraphOk(t, g, true)
			checkCanon(t, g, wantCanon(g))
			continue
		}
		checkNoGraph(t, g)
	}
	if right < 200 || right > 3800 {
		t.Fatalf("%d of 4000 are right", right)
	}
}

func spoil(d *dice, g *impl.Graph) {
	n := someNumbers[d.roll(int64(len(someNumbers)))]
	o := &g.Objs[d.roll(int64(len(g.Objs)))]
	places := []*int64{&g.Next, &g.Seed, &o.Id, &o.Class, &o.Format, &o.Hash}
	for _, list := range [][]impl.Ref{g.Roots, g.Mourned, o.Slots} {
		for i := range list {
			places = append(places, &list[i].Kind, &list[i].N)
		}
	}
	*places[d.roll(int64(len(places)))] = n
}

// An answer that is grown or written into, and a graph that is, changes nothing that was answered ahead.
func TestGraphAnswersShareNothing(t *testing.T) {
	w := watchGraph(plainGraph())
	g := w.graph
	answers := []impl.Graph{
		first(impl.GMade(g, 0, 1, 0, 3)), first(impl.GMade(g, -1, 1, 0, 3)), first(impl.GFetched(g, 0, 1, 0)), first(impl.GFetched(g, 0, 0, 0)),
		first(impl.GStored(g, 1, 1, 0)), first(impl.GStored(g, 0, 1, 0)), first(impl.GPut(g, 0, rNil)), first(impl.GPut(g, 0, rObj(1))),
		first(impl.GCopied(g, 0, 1)), first(impl.GCopied(g, 0, 6)),
	}
	checkAnswersApart(t, w, answers)
	again := first(impl.GCopied(g, 0, 1))
	was := cloned(again)
	checkApart(t, g)
	if !sameGraph(again, was) {
		t.Fatalf("the graph, written into, changes an answer: %v", again)
	}
}
