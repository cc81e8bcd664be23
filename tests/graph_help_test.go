package tests

import (
	"math"
	"slices"
	"strconv"
	"strings"
	"testing"

	"loop.example/g00337/impl"
)

// What the tests of several layers ask of graphs.

var rNil = impl.Ref{Kind: impl.RfNil}

func rInt(n int64) impl.Ref { return impl.Ref{Kind: impl.RfInt, N: n} }

func rObj(id int64) impl.Ref { return impl.Ref{Kind: impl.RfObj, N: id} }

func obj(id, class, format, hash int64, slots ...impl.Ref) impl.Obj {
	return impl.Obj{Id: id, Class: class, Format: format, Hash: hash, Slots: slots}
}

// sixRoots are these, and RfNil for those that are left.
func sixRoots(first ...impl.Ref) []impl.Ref {
	made := make([]impl.Ref, 6)
	copy(made, first)
	return made
}

// graphOf has Next right behind the last Id, and the Seed 1.
func graphOf(objs []impl.Obj, roots []impl.Ref, mourned ...impl.Ref) impl.Graph {
	g := impl.Graph{Objs: objs, Roots: roots, Mourned: mourned, Next: 1, Seed: 1}
	if len(objs) > 0 {
		g.Next = objs[len(objs)-1].Id + 1
	}
	return g
}

func cloned(g impl.Graph) impl.Graph {
	made := g
	made.Objs = slices.Clone(g.Objs)
	for i := range made.Objs {
		made.Objs[i].Slots = slices.Clone(g.Objs[i].Slots)
	}
	made.Roots = slices.Clone(g.Roots)
	made.Mourned = slices.Clone(g.Mourned)
	return made
}

func sameObj(a, b impl.Obj) bool {
	return a.Id == b.Id && a.Class == b.Class && a.Format == b.Format && a.Hash == b.Hash && slices.Equal(a.Slots, b.Slots)
}

func sameGraph(a, b impl.Graph) bool {
	return slices.EqualFunc(a.Objs, b.Objs, sameObj) && slices.Equal(a.Roots, b.Roots) && slices.Equal(a.Mourned, b.Mourned) && a.Next == b.Next && a.Seed == b.Seed
}

// spareRef and spareObj mark the room behind lists.
var spareRef = impl.Ref{Kind: spare, N: spare}

func spareObj() impl.Obj { return obj(spare, spare, spare, spare, spareRef) }

func roomy(list []impl.Ref) []impl.Ref {
	all := slices.Repeat([]impl.Ref{spareRef}, len(list)+3)
	copy(all, list)
	return all[:len(list)]
}

// watchedGraph is a graph with marked room behind each of its lists, and a picture of all of it as it was handed in.
type watchedGraph struct {
	graph impl.Graph
	was   impl.Graph
}

func watchGraph(g impl.Graph) watchedGraph {
	made := cloned(g)
	objs := []impl.Obj{}
	for _, o := range made.Objs {
		o.Slots = roomy(o.Slots)
		objs = append(objs, o)
	}
	n := len(objs)
	made.Objs = append(objs, spareObj(), spareObj())[:n]
	made.Roots = roomy(made.Roots)
	made.Mourned = roomy(made.Mourned)
	return watchedGraph{graph: made, was: cloned(g)}
}

func checkRoom(t *testing.T, list []impl.Ref) {
	t.Helper()
	for _, r := range list[len(list) : len(list)+3] {
		if r != spareRef {
			t.Fatalf("the room behind %v became %v", list, r)
		}
	}
}

func (w watchedGraph) check(t *testing.T) {
	t.Helper()
	g := w.graph
	if !sameGraph(g, w.was) {
		t.Fatalf("an argument became %v, was %v", g, w.was)
	}
	checkRoom(t, g.Roots)
	checkRoom(t, g.Mourned)
	for _, o := range g.Objs {
		checkRoom(t, o.Slots)
	}
	for _, o := range g.Objs[len(g.Objs) : len(g.Objs)+2] {
		if !sameObj(o, spareObj()) {
			t.Fatalf("the room behind the Objs became %v", o)
		}
	}
}

// checkApart writes something of its own all over each list of the graph: where two share any room, one of them has lost its own.
func checkApart(t *testing.T, g impl.Graph) {
	t.Helper()
	lists := [][]impl.Ref{g.Roots[:cap(g.Roots)], g.Mourned[:cap(g.Mourned)]}
	for _, o := range g.Objs {
		lists = append(lists, o.Slots[:cap(o.Slots)])
	}
	for i, list := range lists {
		for j := range list {
			list[j] = rInt(int64(4444444 + i))
		}
	}
	for i, list := range lists {
		for _, r := range list {
			if r != rInt(int64(4444444+i)) {
				t.Fatalf("two lists of one answer share their room: list %d of %v", i, g)
			}
		}
	}
	all := g.Objs[:cap(g.Objs)]
	for i := range all {
		all[i] = obj(4444444, 4444444, 4444444, 4444444, rNil)
	}
}

// growAll writes into the room behind each list of the graph, if there is any.
func growAll(g impl.Graph) {
	_ = append(g.Roots, rInt(1))
	_ = append(g.Mourned, rInt(1))
	_ = append(g.Objs, obj(1, 1, 1, 1))
	for _, o := range g.Objs {
		_ = append(o.Slots, rInt(1))
	}
}

// checkAnswersApart grows each answer and writes into it, and asks whether another one, or the graph that was handed in, shows it.
func checkAnswersApart(t *testing.T, w watchedGraph, answers []impl.Graph) {
	t.Helper()
	were := []impl.Graph{}
	for _, a := range answers {
		were = append(were, cloned(a))
	}
	for i, a := range answers {
		growAll(a)
		checkApart(t, a)
		w.check(t)
		for j := i + 1; j < len(answers); j++ {
			if !sameGraph(answers[j], were[j]) {
				t.Fatalf("answer %d, written into, changes answer %d: %v", i, j, answers[j])
			}
		}
	}
}

// dice roll the same at each run.
type dice struct{ n int64 }

func (d *dice) roll(below int64) int64 {
	d.n = (d.n*6364136223846793005 + 1442695040888963407) & math.MaxInt64
	return (d.n >> 20) % below
}

func (d *dice) ref(objs []impl.Obj) impl.Ref {
	switch d.roll(6) {
	case 0:
		return rNil
	case 1:
		return rInt(d.roll(200001) - 100000)
	}
	if len(objs) == 0 {
		return rNil
	}
	return rObj(objs[d.roll(int64(len(objs)))].Id)
}

// graph is a right one of n Objs with gaps between their Ids, no two Hashes alike, and up to most Slots each.
func (d *dice) graph(n, most, mourned int64) impl.Graph {
	objs := []impl.Obj{}
	id := int64(0)
	for i := range n {
		id += 1 + d.roll(3)
		o := obj(id, d.roll(100), d.roll(3), (i*300+d.roll(300))%65536)
		slots := d.roll(most + 1)
		if o.Format == impl.FoEphem {
			slots = max(slots, 1)
		}
		o.Slots = make([]impl.Ref, slots)
		objs = append(objs, o)
	}
	for _, o := range objs {
		for i := range o.Slots {
			o.Slots[i] = d.ref(objs)
		}
	}
	g := graphOf(objs, sixRoots())
	for i := range g.Roots {
		g.Roots[i] = d.ref(objs)
	}
	for range mourned {
		if n > 0 {
			g.Mourned = append(g.Mourned, rObj(objs[d.roll(n)].Id))
		}
	}
	g.Next += d.roll(3)
	g.Seed = d.roll(65536)
	return g
}

func findObj(g impl.Graph, id int64) (impl.Obj, bool) {
	for _, o := range g.Objs {
		if o.Id == id {
			return o, true
		}
	}
	return impl.Obj{}, false
}

func wantRef(g impl.Graph, r impl.Ref) bool {
	switch r.Kind {
	case 0:
		return r.N == 0
	case 1:
		return -100000 <= r.N && r.N <= 100000
	case 2:
		_, is := findObj(g, r.N)
		return is
	}
	return false
}

func wantObj(g impl.Graph, o impl.Obj) bool {
	if o.Id < 1 || o.Id >= g.Next || o.Class < 0 || o.Class > 99 || o.Format < 0 || o.Format > 2 || o.Hash < 0 || o.Hash > 65535 {
		return false
	}
	if len(o.Slots) > 20 || o.Format == 2 && len(o.Slots) == 0 {
		return false
	}
	return !slices.ContainsFunc(o.Slots, func(r impl.Ref) bool { return !wantRef(g, r) })
}

// wantGraphOk is the chapter's words, one after the other.
func wantGraphOk(g impl.Graph) bool {
	if len(g.Objs) > 200 || g.Next < 1 || g.Next > 100000 || len(g.Roots) != 6 || len(g.Mourned) > 40 || g.Seed < 0 || g.Seed > 65535 {
		return false
	}
	for i, o := range g.Objs {
		if i > 0 && o.Id <= g.Objs[i-1].Id || !wantObj(g, o) {
			return false
		}
	}
	for _, r := range g.Roots {
		if !wantRef(g, r) {
			return false
		}
	}
	for _, r := range g.Mourned {
		if r.Kind != 2 || !wantRef(g, r) {
			return false
		}
	}
	return true
}

// cameTo are the Ids that are come to, in the order of their numbers.
func cameTo(g impl.Graph) []int64 {
	ids := []int64{}
	list := append(slices.Clone(g.Roots), g.Mourned...)
	for next := 0; ; next++ {
		for _, r := range list {
			if r.Kind == 2 && !slices.Contains(ids, r.N) {
				ids = append(ids, r.N)
			}
		}
		if next == len(ids) {
			return ids
		}
		o, _ := findObj(g, ids[next])
		list = o.Slots
	}
}

// wantCanon is asked only of right graphs.
func wantCanon(g impl.Graph) string {
	ids := cameTo(g)
	told := func(r impl.Ref) string {
		switch r.Kind {
		case 1:
			return strconv.FormatInt(r.N, 10) + "i"
		case 2:
			return strconv.Itoa(slices.Index(ids, r.N)+1) + "o"
		}
		return "n"
	}
	lines := ""
	for _, r := range append(slices.Clone(g.Roots), g.Mourned...) {
		lines += " " + told(r)
	}
	lines += "\n"
	for _, id := range ids {
		o, _ := findObj(g, id)
		for _, n := range []int64{o.Class, o.Format, o.Hash} {
			lines += " " + strconv.FormatInt(n, 10)
		}
		for _, r := range o.Slots {
			lines += " " + told(r)
		}
		lines += "\n"
	}
	return strings.ReplaceAll(lines, "\n ", "\n")[1:]
}

// otherIds is the same graph under other Ids, in another order, with some Objs that nobody comes to.
func (d *dice) otherIds(g impl.Graph, more int64) impl.Graph {
	n := int64(len(g.Objs))
	fresh := []int64{}
	id := int64(0)
	for range n + more {
		id += 1 + d.roll(4)
		fresh = append(fresh, id)
	}
	for i := range fresh {
		j := d.roll(int64(i) + 1)
		fresh[i], fresh[j] = fresh[j], fresh[i]
	}
	became := map[int64]int64{}
	for i, o := range g.Objs {
		became[o.Id] = fresh[i]
	}
	made := cloned(g)
	for i := range made.Objs {
		made.Objs[i].Id = became[made.Objs[i].Id]
		rename(made.Objs[i].Slots, became)
	}
	rename(made.Roots, became)
	rename(made.Mourned, became)
	for i := range more {
		o := obj(fresh[n+i], d.roll(100), impl.FoPlain, d.roll(65536), rNil, rNil)
		made.Objs = append(made.Objs, o)
	}
	slices.SortFunc(made.Objs, func(a, b impl.Obj) int { return int(a.Id - b.Id) })
	for i := n; i < n+more; i++ {
		o, _ := findObj(made, fresh[i])
		o.Slots[0] = d.ref(made.Objs)
	}
	made.Next = id + 1 + d.roll(5)
	return made
}

func rename(list []impl.Ref, became map[int64]int64) {
	for i, r := range list {
		if r.Kind == impl.RfObj {
			list[i].N = became[r.N]
		}
	}
}
