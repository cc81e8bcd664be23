package tests

import (
	"slices"
	"testing"

	"loop.example/g00337/impl"
)

func checkIds(t *testing.T, name string, call func(impl.Graph) []int64, g impl.Graph, want []int64) {
	t.Helper()
	w := watchGraph(g)
	got := call(w.graph)
	if !slices.Equal(got, want) {
		t.Fatalf("%v\n%s = %v, want %v", g, name, got, want)
	}
	// Whoever writes into an answer changes neither the graph nor the next answer.
	for i := range got[:cap(got)] {
		got[:cap(got)][i] = spare
	}
	w.check(t)
	if again := call(w.graph); !slices.Equal(again, want) {
		t.Fatalf("%v\n%s, asked again = %v, want %v", g, name, again, want)
	}
}

// checkMakes: the answer is this one, also where a former one was written into; and it shares nothing.
func checkMakes(t *testing.T, name string, call func(impl.Graph) impl.Graph, g, want impl.Graph) {
	t.Helper()
	w := watchGraph(g)
	got, other := call(w.graph), call(w.graph)
	for _, made := range []impl.Graph{got, other} {
		if !sameGraph(made, want) {
			t.Fatalf("%v\n%s =\n%v\nwant\n%v", g, name, made, want)
		}
		w.check(t)
		checkApart(t, made)
		w.check(t)
	}
}

// checkReach holds all four functions against the chapter's words.
func checkReach(t *testing.T, g impl.Graph) {
	t.Helper()
	checkIds(t, "Reached", impl.Reached, g, wantReached(g))
	checkIds(t, "Grieving", impl.Grieving, g, wantGrieving(g))
	checkMakes(t, "Mourning", impl.Mourning, g, wantMourning(g))
	checkMakes(t, "Collected", impl.Collected, g, wantCollected(g))
}

func checkNoReach(t *testing.T, g impl.Graph) {
	t.Helper()
	checkIds(t, "Reached", impl.Reached, g, nil)
	checkIds(t, "Grieving", impl.Grieving, g, nil)
	checkMakes(t, "Mourning", impl.Mourning, g, impl.Graph{})
	checkMakes(t, "Collected", impl.Collected, g, impl.Graph{})
}

// setsOf are all sets of the graph's Ids.
func setsOf(g impl.Graph) [][]int64 {
	sets := [][]int64{{}}
	for _, o := range g.Objs {
		for _, set := range slices.Clone(sets) {
			sets = append(sets, append(slices.Clone(set), o.Id))
		}
	}
	return sets
}

// checkLeast: what is Reached is closed, and within each set that is.
func checkLeast(t *testing.T, g impl.Graph) {
	t.Helper()
	reached := impl.Reached(g)
	if !isClosed(g, reached) {
		t.Fatalf("%v\nis not closed: %v", g, reached)
	}
	for _, set := range setsOf(g) {
		if isClosed(g, set) && !isWithin(reached, set) {
			t.Fatalf("%v\nReached = %v, and less is closed: %v", g, reached, set)
		}
	}
}

// checkLedTo: each that is Reached is led to by Roots, by Mourned or by another one of these.
func checkLedTo(t *testing.T, g impl.Graph) {
	t.Helper()
	reached := impl.Reached(g)
	for _, id := range reached {
		ids := append(idsLedTo(g.Roots), idsLedTo(g.Mourned)...)
		for _, o := range g.Objs {
			if o.Id != id && slices.Contains(reached, o.Id) {
				ids = append(ids, onwardFrom(o, reached)...)
			}
		}
		if !slices.Contains(ids, id) {
			t.Fatalf("%v\nReached = %v, but nobody leads to %d", g, reached, id)
		}
	}
}

// checkCollected tells what is Collected by the other three.
func checkCollected(t *testing.T, g impl.Graph) {
	t.Helper()
	mourning, got := impl.Mourning(g), impl.Collected(g)
	if len(impl.Grieving(mourning)) != 0 || len(impl.Grieving(got)) != 0 || !impl.GraphOk(mourning) || !impl.GraphOk(got) {
		t.Fatalf("%v\nMourning\n%v\nCollected\n%v\nsomebody grieves still, or it is not right", g, mourning, got)
	}
	ids := []int64{}
	for _, o := range got.Objs {
		was, is := findObj(g, o.Id)
		if !is || o.Class != was.Class || o.Hash != was.Hash || len(o.Slots) != len(was.Slots) {
			t.Fatalf("%v became %v", was, o)
		}
		ids = append(ids, o.Id)
	}
	if !slices.Equal(ids, impl.Reached(mourning)) || !slices.Equal(ids, impl.Reached(got)) {
		t.Fatalf("%v\nCollected has %v, Reached are %v, then %v", g, ids, impl.Reached(mourning), impl.Reached(got))
	}
	if got.Next != g.Next || got.Seed != g.Seed || !slices.Equal(got.Roots, g.Roots) || !slices.Equal(got.Mourned, mourning.Mourned) {
		t.Fatalf("%v\nCollected\n%v", g, got)
	}
	checkMakes(t, "Collected", impl.Collected, got, got)
	checkMakes(t, "Mourning", impl.Mourning, got, got)
}

// reachCase: what the four functions tell of a graph; what is mourned is what comes to its Mourned, and what is kept the Ids that are Collected.
type reachCase struct {
	name     string
	g        impl.Graph
	reached  []int64
	grieving []int64
	mourned  []int64
	kept     []int64
}

func (c reachCase) check(t *testing.T) {
	t.Helper()
	checkIds(t, c.name+": Reached", impl.Reached, c.g, c.reached)
	checkIds(t, c.name+": Grieving", impl.Grieving, c.g, c.grieving)
	mourned := slices.Clone(c.g.Mourned)
	for _, id := range c.mourned {
		mourned = append(mourned, rObj(id))
	}
	if got := impl.Mourning(c.g); !slices.Equal(got.Mourned, mourned) || len(got.Objs) != len(c.g.Objs) {
		t.Fatalf("%s: %v\nMourning\n%v\nwant to be mourned %v", c.name, c.g, got, mourned)
	}
	ids := []int64{}
	for _, o := range impl.Collected(c.g).Objs {
		ids = append(ids, o.Id)
	}
	if !slices.Equal(ids, c.kept) {
		t.Fatalf("%s: %v\nCollected has %v, want %v", c.name, c.g, ids, c.kept)
	}
	checkReach(t, c.g)
	checkCollected(t, c.g)
	checkLedTo(t, c.g)
	if len(c.g.Objs) < 9 {
		checkLeast(t, c.g)
	}
}

// plain, weak and ephem are Objs of class 3, with ten times their Id as a Hash.
func plain(id int64, slots ...impl.Ref) impl.Obj { return obj(id, 3, impl.FoPlain, 10*id, slots...) }

func weak(id int64, slots ...impl.Ref) impl.Obj { return obj(id, 3, impl.FoWeak, 10*id, slots...) }

func ephem(id int64, slots ...impl.Ref) impl.Obj { return obj(id, 3, impl.FoEphem, 10*id, slots...) }

func hashed(hash int64, o impl.Obj) impl.Obj {
	o.Hash = hash
	return o
}

// fromFirst has the first Root lead to the first Obj.
func fromFirst(objs ...impl.Obj) impl.Graph { return graphOf(objs, sixRoots(rObj(objs[0].Id))) }

func TestReachedOfEachFormat(t *testing.T) {
	twenty := slices.Repeat([]impl.Ref{rInt(2)}, 20)
	twenty[0], twenty[19] = rObj(2), rObj(4)
	for _, c := range []reachCase{
		{"no Objs", graphOf(nil, sixRoots(rInt(1))), nil, nil, nil, nil},
		{"nobody comes to one", graphOf([]impl.Obj{plain(1, rObj(1))}, sixRoots(rInt(1), rNil)), nil, nil, nil, nil},
		{"nobody comes to a FoEphem", graphOf([]impl.Obj{ephem(1, rObj(2)), plain(2)}, sixRoots(rInt(2))), nil, nil, nil, nil},
		{"the last Root", graphOf([]impl.Obj{plain(4), plain(7)}, sixRoots(rNil, rNil, rNil, rNil, rNil, rObj(7))), []int64{7}, nil, nil, []int64{7}},
		{"all Roots lead to one", graphOf([]impl.Obj{plain(4), plain(7)}, slices.Repeat([]impl.Ref{rObj(4)}, 6)), []int64{4}, nil, nil, []int64{4}},
		{"Mourned alone", graphOf([]impl.Obj{plain(1), plain(2, rObj(4)), plain(3), plain(4)}, sixRoots(), rObj(3), rObj(2), rObj(3)), []int64{2, 3, 4}, nil, nil, []int64{2, 3, 4}},
		{"a FoEphem that Mourned lead to", graphOf([]impl.Obj{ephem(1, rObj(2), rObj(3)), plain(2), plain(3)}, sixRoots(), rObj(1)), []int64{1}, []int64{1}, []int64{1}, []int64{1, 2, 3}},
		{"a FoEphem that awaits one of Mourned", graphOf([]impl.Obj{ephem(1, rObj(2), rObj(3)), plain(2), plain(3)}, sixRoots(rObj(1)), rObj(2)), []int64{1, 2, 3}, nil, nil, []int64{1, 2, 3}},
		{"FoPlain, by all Slots", fromFirst(plain(1, twenty...), plain(2), plain(3), plain(4, rObj(5), rNil), plain(5)), []int64{1, 2, 4, 5}, nil, nil, []int64{1, 2, 4, 5}},
		{"FoPlain without Slots", fromFirst(plain(1), plain(2)), []int64{1}, nil, nil, []int64{1}},
		{"FoWeak, by none", fromFirst(weak(1, twenty...), plain(2), plain(3), plain(4)), []int64{1}, nil, nil, []int64{1}},
		{"FoEphem, all but the first", fromFirst(ephem(1, append([]impl.Ref{rNil}, twenty[1:]...)...), plain(2), plain(4)), []int64{1, 4}, nil, nil, []int64{1, 4}},
		{"the first leads to a number", fromFirst(ephem(1, rInt(2), rObj(3)), plain(2), plain(3)), []int64{1, 3}, nil, nil, []int64{1, 3}},
		{"the first leads to none, and nothing is behind it", fromFirst(ephem(1, rNil), plain(2)), []int64{1}, nil, nil, []int64{1}},
		{"one Slot, to one that is not", fromFirst(ephem(1, rObj(2)), plain(2)), []int64{1}, []int64{1}, []int64{1}, []int64{1, 2}},
		{"one Slot, to one that is", graphOf([]impl.Obj{ephem(1, rObj(2)), plain(2)}, sixRoots(rObj(1), rObj(2))), []int64{1, 2}, nil, nil, []int64{1, 2}},
		{"to one that a later Root leads to", graphOf([]impl.Obj{ephem(1, rObj(2), rObj(3), rObj(4)), plain(2), plain(3), plain(4)}, sixRoots(rObj(1), rNil, rObj(2))), []int64{1, 2, 3, 4}, nil, nil, []int64{1, 2, 3, 4}},
		{"to one that an earlier Root leads to", graphOf([]impl.Obj{ephem(1, rObj(2), rObj(3)), plain(2), plain(3)}, sixRoots(rObj(2), rObj(1))), []int64{1, 2, 3}, nil, nil, []int64{1, 2, 3}},
		{"to one that is held by a FoWeak alone", graphOf([]impl.Obj{ephem(1, rObj(3), rObj(4)), weak(2, rObj(3)), plain(3), plain(4)}, sixRoots(rObj(1), rObj(2))), []int64{1, 2}, []int64{1}, []int64{1}, []int64{1, 2, 3, 4}},
	} {
		c.check(t)
	}
}

func TestReachedRoundAndRound(t *testing.T) {
	for _, c := range []reachCase{
		{"one that leads to itself", fromFirst(plain(1, rObj(1)), plain(2, rObj(2))), []int64{1}, nil, nil, []int64{1}},
		{"a cycle of three", graphOf([]impl.Obj{plain(1, rObj(2)), plain(2, rObj(3)), plain(3, rObj(1)), plain(4, rObj(5)), plain(5, rObj(4), rObj(1))}, sixRoots(rObj(3))), []int64{1, 2, 3}, nil, nil, []int64{1, 2, 3}},
		{"a cycle that a FoWeak cuts", fromFirst(plain(1, rObj(2)), weak(2, rObj(3)), plain(3, rObj(1))), []int64{1, 2}, nil, nil, []int64{1, 2}},
		{"a cycle through FoEphem", fromFirst(plain(1, rObj(2)), ephem(2, rNil, rObj(3)), plain(3, rObj(1))), []int64{1, 2, 3}, nil, nil, []int64{1, 2, 3}},
		{"a FoEphem that awaits itself", fromFirst(ephem(1, rObj(1), rObj(2)), plain(2)), []int64{1, 2}, nil, nil, []int64{1, 2}},
		{"a FoEphem that awaits itself, and nobody comes", graphOf([]impl.Obj{ephem(1, rObj(1), rObj(1))}, sixRoots()), nil, nil, nil, nil},
		{"one that only its own Slots lead to", fromFirst(ephem(1, rObj(2), rObj(2)), plain(2)), []int64{1}, []int64{1}, []int64{1}, []int64{1, 2}},
		{"one that only those behind its own Slots lead to", fromFirst(ephem(1, rObj(3), rObj(2)), plain(2, rObj(3)), plain(3)), []int64{1}, []int64{1}, []int64{1}, []int64{1, 2, 3}},
		{"one that its first Slot's alone leads back to", fromFirst(ephem(1, rObj(2), rObj(3)), plain(2, rObj(1)), plain(3)), []int64{1}, []int64{1}, []int64{1}, []int64{1, 2, 3}},
		{"two that await each other, one come to", fromFirst(ephem(1, rObj(2), rObj(3)), ephem(2, rObj(1), rObj(4)), plain(3), plain(4)), []int64{1}, []int64{1}, []int64{1}, []int64{1, 2, 3, 4}},
		{"two that await each other, both come to", graphOf([]impl.Obj{ephem(1, rObj(2), rObj(3)), ephem(2, rObj(1), rObj(4)), plain(3), plain(4)}, sixRoots(rObj(1), rObj(2))), []int64{1, 2, 3, 4}, nil, nil, []int64{1, 2, 3, 4}},
		{"two, each with what the other awaits", graphOf([]impl.Obj{ephem(1, rObj(3), rObj(4)), ephem(2, rObj(4), rObj(3)), plain(3), plain(4)}, sixRoots(rObj(1), rObj(2))), []int64{1, 2}, []int64{1, 2}, []int64{1, 2}, []int64{1, 2, 3, 4}},
		{"two that await one", graphOf([]impl.Obj{ephem(1, rObj(5), rObj(3)), ephem(2, rObj(5), rObj(4)), plain(3), plain(4), plain(5)}, sixRoots(rObj(1), rObj(2), rObj(5))), []int64{1, 2, 3, 4, 5}, nil, nil, []int64{1, 2, 3, 4, 5}},
		{"a FoEphem come to only by one that waited", graphOf([]impl.Obj{ephem(1, rObj(4), rObj(2)), ephem(2, rObj(4), rObj(3)), plain(3), plain(4)}, sixRoots(rObj(1), rObj(4))), []int64{1, 2, 3, 4}, nil, nil, []int64{1, 2, 3, 4}},
	} {
		c.check(t)
	}
}

// chain has n of FoEphem, all of them come to by way of FoPlain ones: each opens what the next one awaits. What the first one awaits is come to only where open holds. at tells the Ids.
func chain(n int64, at func(i int64) int64, open bool) impl.Graph {
	g := impl.Graph{Roots: sixRoots(), Next: 100000, Seed: 4}
	holders := []impl.Obj{}
	for i := range n {
		g.Objs = append(g.Objs, plain(at(2*i)), ephem(at(2*i+1), rObj(at(2*i)), rObj(at(2*i+2))))
		if i%20 == 0 {
			g.Roots[i/20] = rObj(99999 - i)
			holders = append(holders, plain(99999-i))
		}
		last := &holders[i/20]
		last.Slots = append(last.Slots, rObj(at(2*i+1)))
	}
	g.Objs = append(g.Objs, plain(at(2*n)))
	g.Objs = append(g.Objs, holders...)
	slices.SortFunc(g.Objs, func(a, b impl.Obj) int { return int(a.Id - b.Id) })
	for i := range g.Objs {
		g.Objs[i].Hash = int64(i)
	}
	if open {
		g.Roots[5] = rObj(at(0))
	}
	return g
}

func TestReachedByChainsOfEphems(t *testing.T) {
	// 2 n + 1 is a prime each time, so that none of the Ids are alike, in whatever steps they go.
	for _, n := range []int64{1, 2, 3, 21, 95} {
		for name, at := range map[string]func(int64) int64{
			"in order":   func(i int64) int64 { return 1 + 3*i },
			"against it": func(i int64) int64 { return 1 + 3*(2*n-i) },
			"in steps":   func(i int64) int64 { return 1 + 3*(i*101%(2*n+1)) },
		} {
			g := chain(n, at, true)
			if !wantGraphOk(g) {
				t.Fatalf("%d %s is not right: %v", n, name, g)
			}
			if got := impl.Reached(g); len(got) != len(g.Objs) {
				t.Fatalf("%d %s: %d of %d are Reached", n, name, len(got), len(g.Objs))
			}
			checkReach(t, g)
			checkCollected(t, g)
			checkLedTo(t, g)
			// Where nobody comes to what the first one awaits, nothing opens, and all of them grieve at once.
			g = chain(n, at, false)
			if got := impl.Grieving(g); len(got) != int(n) {
				t.Fatalf("%d %s: Grieving %v", n, name, got)
			}
			checkReach(t, g)
			checkCollected(t, g)
			checkLedTo(t, g)
		}
	}
}

// A row of FoEphem that is come to one behind the other, each opened by one that is come to last of all.
func TestReachedByEphemsThatAwaitTheLast(t *testing.T) {
	objs := []impl.Obj{}
	for id := int64(1); id < 200; id++ {
		objs = append(objs, ephem(id, rObj(200), rObj(id+1)))
	}
	g := graphOf(append(objs, plain(200)), sixRoots(rObj(1)))
	if got := impl.Reached(g); !slices.Equal(got, []int64{1}) {
		t.Fatal(got)
	}
	checkReach(t, g)
	g.Roots[5] = rObj(200)
	if got := impl.Reached(g); len(got) != 200 {
		t.Fatal(got)
	}
	checkReach(t, g)
}

// Each in turn becomes FoPlain in a round of its own, and 40 of them find room.
func TestMourningInManyRounds(t *testing.T) {
	objs := []impl.Obj{}
	for id := int64(1); id < 200; id += 2 {
		next := rNil
		if id < 199 {
			next = rObj(id + 2)
		}
		// Hashes that fall: the rounds tell the order, not the Hashes of different rounds.
		objs = append(objs, hashed(200-id, ephem(id, rObj(id+1), next)), plain(id+1))
	}
	g := graphOf(objs, sixRoots(rObj(1)))
	made := impl.Mourning(g)
	for i, r := range made.Mourned {
		if r != rObj(int64(2*i+1)) {
			t.Fatal(made.Mourned)
		}
	}
	if len(made.Mourned) != 40 || slices.ContainsFunc(made.Objs, func(o impl.Obj) bool { return o.Format != impl.FoPlain }) {
		t.Fatal(made)
	}
	checkReach(t, g)
	checkCollected(t, g)
	if got := impl.Collected(g); len(got.Objs) != 200 {
		t.Fatal(got)
	}
}

func TestGrievingInOrder(t *testing.T) {
	roots := sixRoots(rObj(1), rObj(2), rObj(3), rObj(4))
	four := func(a, b, c, d int64) impl.Graph {
		return graphOf([]impl.Obj{hashed(a, ephem(1, rObj(9))), hashed(b, ephem(2, rObj(9))), hashed(c, ephem(3, rObj(9))), hashed(d, ephem(4, rObj(9))), plain(9)}, roots)
	}
	for _, c := range []struct {
		g    impl.Graph
		want []int64
	}{
		{four(1, 2, 3, 4), []int64{1, 2, 3, 4}},
		{four(4, 3, 2, 1), []int64{4, 3, 2, 1}},
		{four(7, 7, 7, 7), []int64{1, 2, 3, 4}},
		{four(65535, 0, 65535, 0), []int64{2, 4, 1, 3}},
		{four(10, 9, 10, 9), []int64{2, 4, 1, 3}},
		{four(9, 100, 10, 99), []int64{1, 3, 4, 2}},
	} {
		all := []int64{1, 2, 3, 4, 9}
		reachCase{"four", c.g, all[:4], c.want, c.want, all}.check(t)
	}
}

func TestMourningInTurn(t *testing.T) {
	for _, c := range []reachCase{
		{"one that makes another grieve, whose Hash is less", fromFirst(hashed(9, ephem(1, rObj(2), rObj(3))), plain(2), hashed(1, ephem(3, rObj(4), rObj(5))), plain(4), plain(5)),
			[]int64{1}, []int64{1}, []int64{1, 3}, []int64{1, 2, 3, 4, 5}},
		{"one that opens another one", fromFirst(ephem(1, rObj(2), rObj(3)), plain(2), ephem(3, rObj(2), rObj(4)), plain(4)),
			[]int64{1}, []int64{1}, []int64{1}, []int64{1, 2, 3, 4}},
		{"two at once, though the first one leads to what the other awaits", graphOf([]impl.Obj{ephem(1, rObj(3), rObj(4)), ephem(2, rObj(4)), plain(3), plain(4)}, sixRoots(rObj(1), rObj(2))),
			[]int64{1, 2}, []int64{1, 2}, []int64{1, 2}, []int64{1, 2, 3, 4}},
		{"two at once that await one", graphOf([]impl.Obj{hashed(8, ephem(1, rObj(3))), hashed(7, ephem(2, rObj(3))), plain(3)}, sixRoots(rObj(1), rObj(2))),
			[]int64{1, 2}, []int64{2, 1}, []int64{2, 1}, []int64{1, 2, 3}},
		{"one that awaits a FoEphem, which grieves then", fromFirst(ephem(1, rObj(2)), ephem(2, rObj(3)), plain(3)),
			[]int64{1}, []int64{1}, []int64{1, 2}, []int64{1, 2, 3}},
		{"what was mourned ahead stays ahead", graphOf([]impl.Obj{ephem(1, rObj(3)), plain(2), plain(3), plain(4)}, sixRoots(rObj(1)), rObj(4), rObj(2), rObj(4)),
			[]int64{1, 2, 4}, []int64{1}, []int64{1}, []int64{1, 2, 3, 4}},
		{"nobody comes to one that would grieve", graphOf([]impl.Obj{plain(1), ephem(2, rObj(3), rObj(1)), plain(3)}, sixRoots(rObj(1))),
			[]int64{1}, nil, nil, []int64{1}},
	} {
		c.check(t)
	}
}

// As far as there is room: the first ones in order come to Mourned, and all become FoPlain.
func TestMourningWithoutRoom(t *testing.T) {
	for _, had := range []int64{0, 1, 36, 37, 38, 39, 40} {
		for n := int64(0); n <= 3; n++ {
			for _, hashes := range [][]int64{{5, 6, 7}, {7, 6, 5}, {5, 5, 5}, {6, 5, 6}} {
				objs := []impl.Obj{}
				roots := sixRoots()
				for i := range n {
					objs = append(objs, hashed(hashes[i], ephem(i+1, rObj(8), rInt(4))))
					roots[i] = rObj(i + 1)
				}
				objs = append(objs, plain(8), plain(9))
				g := graphOf(objs, roots, slices.Repeat([]impl.Ref{rObj(9)}, int(had))...)
				made := impl.Mourning(g)
				grieving := impl.Grieving(g)
				if len(grieving) != int(n) || int64(len(made.Mourned)) != min(40, had+n) {
					t.Fatalf("%v\nGrieving %v\nMourning %v", g, grieving, made)
				}
				for i, r := range made.Mourned[had:] {
					if r != rObj(grieving[i]) {
						t.Fatalf("%v\nGrieving %v\nMourning %v", g, grieving, made)
					}
				}
				for i := range n {
					if made.Objs[i].Format != impl.FoPlain || !slices.Equal(made.Objs[i].Slots, []impl.Ref{rObj(8), rInt(4)}) {
						t.Fatalf("%v\nMourning %v", g, made)
					}
				}
				checkReach(t, g)
				checkCollected(t, g)
			}
		}
	}
}

// In a second round there is less room than in the first, or none.
func TestMourningWithoutRoomInTurn(t *testing.T) {
	for had := 35; had <= 40; had++ {
		g := graphOf([]impl.Obj{
			hashed(3, ephem(1, rObj(7), rObj(3))), hashed(2, ephem(2, rObj(7), rObj(4))),
			hashed(1, ephem(3, rObj(8))), hashed(0, ephem(4, rObj(8))), plain(7), plain(8), plain(9),
		}, sixRoots(rObj(1), rObj(2)), slices.Repeat([]impl.Ref{rObj(9)}, had)...)
		want := append(slices.Clone(g.Mourned), rObj(2), rObj(1), rObj(4), rObj(3))
		made := impl.Mourning(g)
		if !slices.Equal(made.Mourned, want[:min(40, len(want))]) {
			t.Fatal(had, made.Mourned)
		}
		for _, o := range made.Objs {
			if o.Format != impl.FoPlain {
				t.Fatal(had, o)
			}
		}
		checkReach(t, g)
		checkCollected(t, g)
	}
}

func TestCollectedOfWeakOnes(t *testing.T) {
	g := graphOf([]impl.Obj{
		weak(1, rObj(2), rObj(3), rObj(1), rNil, rInt(3), rObj(5), rObj(3)),
		plain(2, rInt(3)), plain(3, rObj(2)), weak(4, rObj(2), rObj(3)), weak(5, rObj(4), rObj(6)), plain(6, rObj(1)),
	}, sixRoots(rObj(1), rObj(2), rObj(5), rInt(3)), rObj(6))
	want := cloned(g)
	want.Objs = []impl.Obj{
		weak(1, rObj(2), rNil, rObj(1), rNil, rInt(3), rObj(5), rNil),
		plain(2, rInt(3)), weak(5, rNil, rObj(6)), plain(6, rObj(1)),
	}
	checkMakes(t, "Collected", impl.Collected, g, want)
	checkMakes(t, "Mourning", impl.Mourning, g, g)
	checkReach(t, g)
	checkCollected(t, g)
}

// What is come to only by those that are mourned stays, in the Slots of FoWeak ones, too; and a FoEphem that is open keeps its first Slot.
func TestCollectedBehindMourning(t *testing.T) {
	g := graphOf([]impl.Obj{
		weak(1, rObj(3), rObj(4), rObj(5), rObj(2)), ephem(2, rObj(3), rObj(4)), plain(3), weak(4, rObj(5), rObj(3)), plain(5), ephem(6, rObj(1), rObj(2)),
	}, sixRoots(rObj(1), rObj(6)))
	want := cloned(g)
	want.Objs = []impl.Obj{
		weak(1, rObj(3), rObj(4), rNil, rObj(2)), plain(2, rObj(3), rObj(4)), plain(3), weak(4, rNil, rObj(3)), ephem(6, rObj(1), rObj(2)),
	}
	want.Mourned = []impl.Ref{rObj(2)}
	checkMakes(t, "Collected", impl.Collected, g, want)
	checkReach(t, g)
	checkCollected(t, g)
}

// Collected and with nobody that grieves, a graph is answered as it is, and as a new one.
func TestCollectedAsItIs(t *testing.T) {
	for _, g := range []impl.Graph{
		graphOf(nil, sixRoots()),
		graphOf(nil, sixRoots(rInt(5), rInt(-100000))),
		fromFirst(plain(1, rObj(1))),
		fromFirst(ephem(1, rObj(1), rObj(2)), weak(2, rObj(1), rInt(7))),
		graphOf([]impl.Obj{plain(3, rObj(5), rNil), weak(5, rObj(3))}, sixRoots(), rObj(3), rObj(3)),
	} {
		checkMakes(t, "Mourning", impl.Mourning, g, g)
		checkMakes(t, "Collected", impl.Collected, g, g)
		g.Next, g.Seed = 100000, 65535
		checkMakes(t, "Mourning", impl.Mourning, g, g)
		checkMakes(t, "Collected", impl.Collected, g, g)
	}
}

// What is made behind Collected has an Id that none ever had.
func TestCollectedKeepsNext(t *testing.T) {
	g, _ := impl.NewGraph(3)
	for range 5 {
		g, _ = impl.GMade(g, 0, 1, impl.FoPlain, 1)
	}
	got := impl.Collected(g)
	if len(got.Objs) != 1 || got.Objs[0].Id != 5 || got.Next != 6 || got.Seed != g.Seed {
		t.Fatal(got)
	}
	made, is := impl.GMade(got, 1, 1, impl.FoPlain, 0)
	if !is || made.Roots[1] != rObj(6) {
		t.Fatal(made, is)
	}
	full := impl.Graph{Roots: sixRoots(rObj(7)), Next: 201}
	for id := int64(1); id <= 200; id++ {
		full.Objs = append(full.Objs, obj(id, 1, impl.FoPlain, id))
	}
	if _, is := impl.GMade(full, 0, 1, 0, 0); is {
		t.Fatal("there is room for 201")
	}
	if made, is := impl.GMade(impl.Collected(full), 0, 1, 0, 0); !is || len(made.Objs) != 2 || made.Roots[0] != rObj(201) {
		t.Fatal(made, is)
	}
}

// objsOver are all that an Obj with this Id may be, with up to most Slots over these Refs.
func objsOver(id int64, refs []impl.Ref, most int) []impl.Obj {
	objs := []impl.Obj{}
	lists := [][]impl.Ref{{}}
	for n := 0; n <= most; n++ {
		longer := [][]impl.Ref{}
		for _, list := range lists {
			for format := range int64(3) {
				if format != impl.FoEphem || n > 0 {
					objs = append(objs, obj(id, 1, format, 5, list...))
				}
			}
			for _, r := range refs {
				longer = append(longer, append(slices.Clone(list), r))
			}
		}
		lists = longer
	}
	return objs
}

// All graphs of two Objs with up to two Slots.
func TestReachOfAllSmallGraphs(t *testing.T) {
	refs := []impl.Ref{rNil, rInt(1), rObj(1), rObj(2)}
	for _, a := range objsOver(1, refs, 2) {
		for _, b := range objsOver(2, refs, 2) {
			for _, r := range refs {
				for _, mourned := range [][]impl.Ref{nil, {rObj(1)}, {rObj(2)}} {
					g := graphOf([]impl.Obj{a, b}, sixRoots(rNil, r), mourned...)
					checkLeast(t, g)
					checkReach(t, g)
				}
			}
		}
	}
}

// All graphs of three FoEphem ones with two Slots, some of which are come to.
func TestReachOfThreeEphems(t *testing.T) {
	refs := []impl.Ref{rNil, rObj(1), rObj(2), rObj(3)}
	for _, roots := range [][]impl.Ref{{rObj(1)}, {rObj(2)}, {rObj(3)}, {rObj(3), rObj(1)}} {
		for n := range 1 << 12 {
			at := func(i int) impl.Ref { return refs[n>>(2*i)&3] }
			g := graphOf([]impl.Obj{hashed(4, ephem(1, at(0), at(1))), hashed(2, ephem(2, at(2), at(3))), hashed(4, ephem(3, at(4), at(5)))}, sixRoots(roots...))
			checkLeast(t, g)
			checkReach(t, g)
		}
	}
}

func TestReachOfManyGraphs(t *testing.T) {
	d := dice{13}
	grieve, open, gone := 0, 0, 0
	for i := range int64(2000) {
		g := d.sparse(i%9, 1+i%4, i%3)
		checkLeast(t, g)
		checkLedTo(t, g)
		checkReach(t, g)
		checkCollected(t, g)
		grieve += len(impl.Grieving(g))
		made := impl.Collected(g)
		gone += len(g.Objs) - len(made.Objs)
		for _, o := range made.Objs {
			if o.Format == impl.FoEphem && o.Slots[0].Kind == impl.RfObj {
				open++
			}
		}
	}
	if grieve < 500 || open < 500 || gone < 500 {
		t.Fatalf("these graphs tell too little: %d grieve, %d are open, %d are gone", grieve, open, gone)
	}
}

func TestReachOfGreatGraphs(t *testing.T) {
	d := dice{17}
	for i := range int64(60) {
		g := d.sparse(20+i*3, 1+i%5, i%41)
		checkLedTo(t, g)
		checkReach(t, g)
		checkCollected(t, g)
	}
	for _, n := range []int64{199, 200} {
		for _, most := range []int64{1, 2, 3, 20} {
			for _, mourned := range []int64{0, 39, 40} {
				g := d.sparse(n, most, mourned)
				checkLedTo(t, g)
				checkReach(t, g)
				checkCollected(t, g)
			}
		}
	}
}

// Under other Ids, and with more Objs that nobody comes to, what is Collected has one Canon, where no two that grieve have one Hash.
func TestCollectedHasOneCanon(t *testing.T) {
	d := dice{19}
	for i := range int64(300) {
		g := d.sparse(1+i%12, 3, i%4)
		for j := range g.Objs {
			g.Objs[j].Hash = int64(j*j+int(i)) % 65536
		}
		want := impl.Canon(impl.Collected(g))
		for more := range int64(3) {
			other := d.otherIds(g, more)
			if got := impl.Canon(impl.Collected(other)); got != want {
				t.Fatalf("%v\n%v\n%q\n%q", g, other, want, got)
			}
		}
	}
}

func TestReachOfWrongGraphs(t *testing.T) {
	checkNoReach(t, impl.Graph{})
	for _, c := range edgesOfGraphs() {
		g := plainGraph()
		c.change(&g)
		if c.want {
			checkReach(t, g)
		} else {
			checkNoReach(t, g)
		}
	}
	d := dice{23}
	for range 4000 {
		g := d.sparse(1+d.roll(6), 3, d.roll(3))
		spoil(&d, &g)
		if wantGraphOk(g) {
			checkReach(t, g)
		} else {
			checkNoReach(t, g)
		}
	}
	for _, n := range []int64{201, 1000} {
		g := graphOf(nil, sixRoots(rObj(1)))
		for id := int64(1); id <= n; id++ {
			g.Objs = append(g.Objs, obj(id, 1, 0, 1, rObj(id%n+1)))
		}
		g.Next = n + 1
		checkNoReach(t, g)
	}
	g := fromFirst(plain(1))
	g.Mourned = slices.Repeat([]impl.Ref{rObj(1)}, 41)
	checkNoReach(t, g)
}

// Answers written into and grown change neither the graph nor one another; the graph, written into, changes no answer.
func TestReachAnswersShareNothing(t *testing.T) {
	for _, g := range []impl.Graph{
		graphOf([]impl.Obj{ephem(1, rObj(2), rObj(3)), plain(2, rNil), weak(3, rObj(4), rObj(1)), plain(4, rObj(1))}, sixRoots(rObj(1)), rObj(3)),
		fromFirst(plain(1, rObj(2), rNil), weak(2, rObj(1)), plain(3, rObj(3))),
		fromFirst(plain(1, rObj(2)), plain(2, rObj(1))),
	} {
		w := watchGraph(g)
		answers := []impl.Graph{impl.Mourning(w.graph), impl.Collected(w.graph), impl.Mourning(w.graph), impl.Collected(w.graph)}
		ids := [][]int64{impl.Reached(w.graph), impl.Grieving(w.graph)}
		wants := []impl.Graph{wantMourning(g), wantCollected(g), wantMourning(g), wantCollected(g)}
		for i, a := range answers {
			for j := i; j < len(answers); j++ {
				if !sameGraph(answers[j], wants[j]) {
					t.Fatalf("an answer, written into, changes answer %d: %v", j, answers[j])
				}
			}
			growAll(a)
			checkApart(t, a)
			w.check(t)
		}
		last := []impl.Graph{impl.Mourning(w.graph), impl.Collected(w.graph)}
		checkApart(t, w.graph)
		for j, a := range last {
			if !sameGraph(a, wants[j]) {
				t.Fatalf("the graph, written into, changes answer %d: %v", j, a)
			}
		}
		if !slices.Equal(ids[0], wantReached(g)) || !slices.Equal(ids[1], wantGrieving(g)) {
			t.Fatalf("the graph, written into, changes %v", ids)
		}
	}
}
