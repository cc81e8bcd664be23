package tests

import (
	"math"
	"reflect"
	"slices"
	"strings"
	"testing"

	"loop.example/g00337/impl"
)

// What the tests ask of every function of the twenty layers at once: whatever its arguments are, and whatever it answers.

// everyFunction is each one under its name.
var everyFunction = map[string]any{
	"WordOk": impl.WordOk, "OfInt": impl.OfInt, "OfAddr": impl.OfAddr, "IntOf": impl.IntOf, "AddrOf": impl.AddrOf,
	"HeadOk": impl.HeadOk, "Packed": impl.Packed, "Unpacked": impl.Unpacked, "SizeOf": impl.SizeOf, "StrongFrom": impl.StrongFrom,
	"ReadAt": impl.ReadAt, "WriteAt": impl.WriteAt, "Filled": impl.Filled, "Moved": impl.Moved,
	"ChunkAt": impl.ChunkAt, "Walk": impl.Walk, "ObjectAt": impl.ObjectAt, "PutObject": impl.PutObject,
	"ClassesOk": impl.ClassesOk, "Claimed": impl.Claimed, "Released": impl.Released, "Draw": impl.Draw,
	"GraphOk": impl.GraphOk, "NewGraph": impl.NewGraph, "GMade": impl.GMade, "GFetched": impl.GFetched, "GStored": impl.GStored, "GPut": impl.GPut, "GCopied": impl.GCopied, "GHash": impl.GHash, "Canon": impl.Canon,
	"Reached": impl.Reached, "Grieving": impl.Grieving, "Mourning": impl.Mourning, "Collected": impl.Collected,
	"FreeIn": impl.FreeIn, "BestFit": impl.BestFit, "Freed": impl.Freed, "Cut": impl.Cut, "Coalesced": impl.Coalesced,
	"HeapOk": impl.HeapOk, "NewHeap": impl.NewHeap, "Young": impl.Young, "Objects": impl.Objects,
	"Follow": impl.Follow, "Shown": impl.Shown, "HashOf": impl.HashOf, "ClassOf": impl.ClassOf, "Straightened": impl.Straightened,
	"Scavenged": impl.Scavenged, "Carried": impl.Carried,
	"SeenOf": impl.SeenOf, "Fetched": impl.Fetched, "Stored": impl.Stored, "Tenured": impl.Tenured,
	"Marks": impl.Marks, "Garbage": impl.Garbage, "LiveWords": impl.LiveWords,
	"Grieved": impl.Grieved, "Nilled": impl.Nilled,
	"Swept": impl.Swept, "Compacted": impl.Compacted,
	"Full": impl.Full, "FreeWords": impl.FreeWords, "Biggest": impl.Biggest,
	"PlaceFor": impl.PlaceFor, "Allocated": impl.Allocated,
	"Swapped": impl.Swapped, "Replaced": impl.Replaced, "GSwapped": impl.GSwapped, "GReplaced": impl.GReplaced,
	"Happen": impl.Happen, "GHappen": impl.GHappen, "Play": impl.Play, "Same": impl.Same,
	"Bench": impl.Bench,
}

// mark writes one number all over a value, but for the lists that it has.
func mark(v reflect.Value, n int64) {
	switch v.Kind() {
	case reflect.Int64:
		v.SetInt(n)
	case reflect.Bool:
		v.SetBool(n%2 != 0)
	case reflect.String:
		v.SetString(inDigits(n))
	case reflect.Struct:
		for i := range v.NumField() {
			mark(v.Field(i), n)
		}
	}
}

// deep copies a value with all its lists: each is made by grow of the one that is there.
func deep(v reflect.Value, grow func(list reflect.Value) reflect.Value) reflect.Value {
	made := reflect.New(v.Type()).Elem()
	made.Set(v)
	switch v.Kind() {
	case reflect.Slice:
		made = grow(v)
		for i := range made.Len() {
			made.Index(i).Set(deep(made.Index(i), grow))
		}
	case reflect.Struct:
		for i := range v.NumField() {
			made.Field(i).Set(deep(v.Field(i), grow))
		}
	}
	return made
}

// withRoom lets marked room be behind each list, but behind nil.
func withRoom(v reflect.Value) reflect.Value {
	return deep(v, func(list reflect.Value) reflect.Value {
		if list.IsNil() {
			return list
		}
		n := list.Len()
		made := reflect.MakeSlice(list.Type(), n+3, n+3)
		reflect.Copy(made, list)
		for i := n; i < n+3; i++ {
			mark(made.Index(i), spare)
		}
		return made.Slice(0, n)
	})
}

// withItsRoom has all that is behind each list in the list itself.
func withItsRoom(v reflect.Value) reflect.Value {
	return deep(v, func(list reflect.Value) reflect.Value {
		made := reflect.MakeSlice(list.Type(), list.Cap(), list.Cap())
		reflect.Copy(made, list.Slice(0, list.Cap()))
		return made
	})
}

// bare has nothing behind its lists, and nil for what is empty.
func bare(v reflect.Value) reflect.Value {
	return deep(v, func(list reflect.Value) reflect.Value {
		if list.Len() == 0 {
			return reflect.Zero(list.Type())
		}
		made := reflect.MakeSlice(list.Type(), list.Len(), list.Len())
		reflect.Copy(made, list)
		return made
	})
}

func eachValue(list []reflect.Value, made func(v reflect.Value) reflect.Value) []reflect.Value {
	all := []reflect.Value{}
	for _, v := range list {
		all = append(all, made(v))
	}
	return all
}

func values(list []reflect.Value) []any {
	all := []any{}
	for _, v := range list {
		all = append(all, v.Interface())
	}
	return all
}

func alike(a, b []reflect.Value) bool { return reflect.DeepEqual(values(a), values(b)) }

// listsIn are all lists of a value, with the room behind them; those of what is in a list, too.
func listsIn(v reflect.Value) []reflect.Value {
	all := []reflect.Value{}
	switch v.Kind() {
	case reflect.Slice:
		all = append(all, v.Slice(0, v.Cap()))
		for i := range v.Len() {
			all = append(all, listsIn(v.Index(i))...)
		}
	case reflect.Struct:
		for i := range v.NumField() {
			all = append(all, listsIn(v.Field(i))...)
		}
	}
	return all
}

// isMarked is false where something else stands in a value than the number that was written all over it.
func isMarked(v reflect.Value, n int64) bool {
	switch v.Kind() {
	case reflect.Int64:
		return v.Int() == n
	case reflect.Struct:
		for i := range v.NumField() {
			if !isMarked(v.Field(i), n) {
				return false
			}
		}
	}
	return true
}

// shared writes a number of its own all over each list of the answers: where two have any room in common, one of them has lost its own.
func shared(answers []reflect.Value) bool {
	lists := []reflect.Value{}
	for _, v := range answers {
		lists = append(lists, listsIn(v)...)
	}
	for i, list := range lists {
		for j := range list.Len() {
			mark(list.Index(j), int64(4444444+i))
		}
	}
	for i, list := range lists {
		for j := range list.Len() {
			if !isMarked(list.Index(j), int64(4444444+i)) {
				return true
			}
		}
	}
	return false
}

// asked is a function, and how often it answered something, and a list of something.
type asked struct {
	name  string
	call  reflect.Value
	told  int
	lists int
}

func newAsked(name string) *asked {
	return &asked{name: name, call: reflect.ValueOf(everyFunction[name])}
}

// takes are the types of its arguments.
func (a *asked) takes() []reflect.Type {
	all := []reflect.Type{}
	for i := range a.call.Type().NumIn() {
		all = append(all, a.call.Type().In(i))
	}
	return all
}

func (a *asked) answer(t *testing.T, args []reflect.Value) (answers []reflect.Value) {
	t.Helper()
	defer func() {
		if what := recover(); what != nil {
			t.Fatalf("%s of %+v panics: %v", a.name, values(args), what)
		}
	}()
	return a.call.Call(args)
}

func (a *asked) count(kept []reflect.Value) {
	told, lists := false, false
	for _, v := range kept {
		told = told || !v.IsZero()
		lists = lists || slices.ContainsFunc(listsIn(v), func(list reflect.Value) bool { return list.Len() > 0 })
	}
	if told {
		a.told++
	}
	if lists {
		a.lists++
	}
}

// tellsLists: has its answer any list, as its type goes?
func (a *asked) tellsLists() bool {
	for i := range a.call.Type().NumOut() {
		if kind := a.call.Type().Out(i).Kind(); kind == reflect.Slice || kind == reflect.Struct && a.call.Type().Out(i) != reflect.TypeFor[impl.Head]() {
			return true
		}
	}
	return false
}

// check is the promise, at these arguments; once an answer was written into, the same is answered again.
func (a *asked) check(t *testing.T, handed []reflect.Value) {
	t.Helper()
	args := eachValue(handed, withRoom)
	was := eachValue(args, withItsRoom)
	stay := func(when string) {
		if now := eachValue(args, withItsRoom); !alike(now, was) {
			t.Fatalf("%s %s: its arguments became\n%+v\nwere\n%+v", a.name, when, values(now), values(was))
		}
	}
	answers := a.answer(t, args)
	stay("called")
	kept := eachValue(answers, bare)
	a.count(kept)
	if shared(answers) {
		t.Fatalf("%s of\n%+v\nanswers %+v, of which two lists share their room", a.name, values(was), values(kept))
	}
	stay("answered, and its answer written into")
	if again := eachValue(a.answer(t, args), bare); !alike(again, kept) {
		t.Fatalf("%s of\n%+v\nanswers %+v, and then %+v", a.name, values(was), values(kept), values(again))
	}
	stay("called again")
}

// someArgument are values of each type: edges are what is looked at in turn, and by dice any is made.
type someArgument struct {
	edges []reflect.Value
	any   func(d *dice) any
}

func edgesOf[T any](list []T) []reflect.Value {
	all := []reflect.Value{}
	for _, v := range list {
		all = append(all, reflect.ValueOf(v))
	}
	return all
}

// everyNumber is each edge of each chapter, and what is far past all of them.
func everyNumber() []int64 {
	list := slices.Concat(someNumbers, someEnds, someWords, []int64{4, 8, 10, 12, 22, 24, 30, 48, 54, 60, 198, 201, 399, 400, 402, 800, 998, 999, 4000, freeHead, noteHead, pinned, marked, 2 * marked, math.MaxInt64 / 4, math.MinInt64 / 4, math.MaxInt64/4 + 1, math.MaxInt64 / 2})
	slices.Sort(list)
	return slices.Compact(list)
}

func (d *dice) anyNumber() int64 {
	switch d.roll(5) {
	case 0:
		list := everyNumber()
		return list[d.roll(int64(len(list)))]
	case 1:
		return d.roll(60) - 2
	case 2:
		return 2 * d.roll(30)
	}
	return d.roll(7)
}

// someTexts are Names and benches, right ones and such that are not, and what is none at all.
func someTexts() []string {
	d := &dice{n: 21}
	list := []string{"", "a", "class 0", "class 39", strings.Repeat("n", 20), strings.Repeat("n", 21), "\xff\xfe", "\x00", "\u00e9", " ", "\n", furnishedBench, furnishedBench + looksAround}
	for _, n := range []int{199, 200, 201, 1000} {
		list = append(list, strings.Repeat("\n", n), strings.Repeat("free\n", n), lined(d.benchText(n)...))
	}
	for _, n := range []int{19999, 20000, 20001, 1 << 18} {
		list = append(list, strings.Repeat("x", n), strings.Repeat(" ", n), strings.Repeat("\n", n), strings.Repeat("new 0 0 0 0\n", n/12))
	}
	return list
}

func (d *dice) anyText() string {
	if d.roll(3) == 0 {
		return "class " + inDigits(d.roll(42))
	}
	text := lined(d.benchText(int(d.roll(30)))...)
	if len(text) == 0 {
		return text
	}
	at := d.roll(int64(len(text)))
	return text[:at] + string([]byte{byte(d.roll(256))}) + text[at:]
}

// someRows are rows of chunks, rows that are none, and rows that are too long for a heap.
func someRows() [][]int64 {
	house, _ := houseful()
	list := [][]int64{nil, {}, {0}, {2}, {0, 0}, {freeHead}, {math.MinInt64}, {math.MaxInt64, math.MaxInt64}, house.row, free(2), free(20), joined(free(4), one(1), free(2), free(6, 8, 8), note(0)), {freeHead, math.MaxInt64}, {freeHead, -2}, {freeHead, 3, 0, 0}}
	for _, n := range []int{5, 21, 64, 801, 5000} {
		list = append(list, zeros(n), free(n-n%2), slices.Repeat([]int64{-1}, n), numbered(n))
	}
	for side := range int64(2) {
		list = append(list, furnished(side).Row, furnished(side).Roots)
	}
	return list
}

func (d *dice) anyRow() []int64 {
	row := d.heap(8+2*d.roll(10), 8+2*d.roll(20), 0).Row
	from := 2 * d.roll(int64(len(row))/2)
	switch d.roll(4) {
	case 0:
		return row[from:]
	case 1:
		return row[from:][:d.roll(int64(len(row))-from+1)]
	case 2:
		row[from] = d.anyNumber()
	case 3:
		return slices.Repeat([]int64{2, num(from)}, int(d.roll(11)))
	}
	return row
}

func someEntries() [][]impl.Entry {
	list := [][]impl.Entry{nil, {}, {{}}, named(0), named(99), named(100), named(-1), named(1, 0), named(0, 0), named(someNumbers...)}
	for _, n := range []int64{39, 40, 41, 100, 2000} {
		list = append(list, named(fromTo(0, n-1)...), named(fromTo(50, 49+n)...), slices.Repeat(named(3), int(n)))
	}
	for _, name := range []string{"", strings.Repeat("n", 20), strings.Repeat("n", 21), "\xff"} {
		list = append(list, []impl.Entry{{Index: 4, Name: name}}, []impl.Entry{{Index: 4, Name: name}, {Index: 5, Name: name}})
	}
	return list
}

func (d *dice) anyEntries() []impl.Entry {
	indexes := []int64{}
	for index := d.roll(4); index < 100 && len(indexes) < 41 && d.roll(20) > 0; index += 1 + d.roll(4) {
		indexes = append(indexes, index)
	}
	list := named(indexes...)
	if n := int64(len(list)); n > 0 && d.roll(3) == 0 {
		list[d.roll(n)].Index = d.anyNumber()
	}
	return list
}

func someHeads() []impl.Head {
	list := []impl.Head{}
	for i, h := range rightHeads() {
		if i%40 == 0 {
			list = append(list, h)
		}
	}
	for _, n := range everyNumber() {
		for _, format := range []int64{0, 2, 6, 7} {
			list = append(list, impl.Head{Slots: n, Format: format}, impl.Head{Slots: 1, Format: format, Class: n, Pinned: true}, impl.Head{Slots: 1, Format: format, Hash: n, Marked: true})
		}
		list = append(list, impl.Head{Slots: 1, Format: n})
	}
	return list
}

func someRefs() []impl.Ref {
	list := []impl.Ref{}
	for _, n := range everyNumber() {
		for kind := int64(-1); kind <= 3; kind++ {
			list = append(list, impl.Ref{Kind: kind, N: n})
		}
		list = append(list, impl.Ref{Kind: n})
	}
	return list
}

func someActs() []impl.Act {
	list := []impl.Act{}
	for kind := int64(0); kind <= 15; kind++ {
		list = append(list, impl.Act{Kind: kind}, impl.Act{Kind: kind, B: 1, N: 1, Flag: true})
		for _, n := range []int64{math.MinInt64, -1, 6, 20, 21, 99, 100, 100001, math.MaxInt64} {
			list = append(list, impl.Act{Kind: kind, A: n, B: 1}, impl.Act{Kind: kind, B: n, N: 1}, impl.Act{Kind: kind, B: 1, C: n}, impl.Act{Kind: kind, B: 1, N: n}, impl.Act{Kind: kind, A: n, B: n, C: n, N: n, Flag: true})
		}
	}
	return list
}

func (d *dice) oneAct() impl.Act {
	a := d.anyAct()
	if d.roll(3) == 0 {
		*[]*int64{&a.Kind, &a.A, &a.B, &a.C, &a.N}[d.roll(5)] = d.anyNumber()
	}
	return a
}

func someActLists() [][]impl.Act {
	d := &dice{n: 22}
	list := [][]impl.Act{nil, {}, {{}}, someActs()[:200], slices.Repeat(someActs(), 20)}
	for _, n := range []int{1, 30, 199, 200, 201, 5000} {
		list = append(list, d.acts(n), make([]impl.Act, n), slices.Repeat([]impl.Act{{Kind: impl.AcFull}}, n))
	}
	return list
}

// someGraphs are right ones, each with one thing that may be wrong, and some that are full.
func someGraphs() []impl.Graph {
	d := &dice{n: 23}
	list := []impl.Graph{{}, d.graph(200, 20, 40), d.sparse(200, 3, 40), d.graph(201, 2, 3), d.graph(0, 0, 0)}
	last := graphOf([]impl.Obj{obj(99999, 1, 0, 1)}, sixRoots(rObj(99999)))
	beside := cloned(last)
	beside.Next = 100001
	list = append(list, last, beside)
	for _, c := range edgesOfGraphs() {
		g := plainGraph()
		c.change(&g)
		list = append(list, g)
	}
	return list
}

func (d *dice) anyGraph() impl.Graph {
	g := d.graph(d.roll(12), d.roll(6), d.roll(5))
	if d.roll(2) == 0 {
		g = d.sparse(1+d.roll(12), 1+d.roll(3), d.roll(5))
	}
	if len(g.Objs) > 0 && d.roll(5) == 0 {
		spoil(d, &g)
	}
	return g
}

// someHeaps are right ones, those with one thing that is wrong, great ones, and what is none at all.
func someHeaps(t *testing.T) []impl.Heap {
	d := &dice{n: 24}
	list := []impl.Heap{{}, {Half: 8, Old: 8, Roots: six()}, d.heap(200, 400, 40), d.heap(200, 400, 41), first(impl.NewHeap(8, 8, 0)), first(impl.NewHeap(200, 400, 65535))}
	for _, n := range everyNumber() {
		list = append(list, impl.Heap{Half: n, Old: n, Side: n, Top: n, Seed: n, Roots: six()}, impl.Heap{Half: n, Old: 8, Row: zeros(24), Roots: six()}, impl.Heap{Half: 8, Old: n, Row: zeros(24), Roots: six()})
	}
	eachSide(func(side int64) {
		list = append(list, furnished(side))
		eachSpoilt(t, side, func(h impl.Heap) { list = append(list, h) })
		eachSpoiltWithRoom(t, side, func(right, wrong impl.Heap) { list = append(list, right, wrong) })
		for _, n := range []int{41, 801, 5000} {
			for _, spoilt := range []func(h *impl.Heap){
				func(h *impl.Heap) { h.Row = slices.Repeat([]int64{4}, n) }, func(h *impl.Heap) { h.Roots = slices.Repeat([]int64{2}, n) },
				func(h *impl.Heap) { h.Mourned = slices.Repeat([]int64{to(24)}, n) }, func(h *impl.Heap) { h.Seen = slices.Repeat([]int64{24}, n) },
			} {
				h := furnished(side)
				spoilt(&h)
				list = append(list, h)
			}
		}
	})
	return list
}

func (d *dice) anyHeap() impl.Heap {
	h := d.heap(8+2*d.roll(14), 8+2*d.roll(30), d.roll(5))
	if d.roll(3) == 0 {
		h = d.mixedHeap(int(d.roll(30)))
	}
	if d.roll(5) == 0 {
		d.spoilHeap(&h)
	}
	return h
}

// chunks are those of a heap's upstairs, and the places where they begin.
func (d *dice) chunks() ([]int64, []int64) {
	h := d.heap(8, 8+2*d.roll(20), 0)
	row := h.Row[16:]
	list, _ := piecesIn(row, 0, h.Old)
	places := []int64{}
	for _, p := range list {
		places = append(places, p.at)
	}
	return row, places
}

func oneOf[T any](d *dice, list []T) T { return list[d.roll(int64(len(list)))] }

// apt are arguments that go together, for functions of which few others are answered with something; nothing for all others.
func (d *dice) apt(name string) []any {
	row, places := d.chunks()
	at := oneOf(d, places)
	h := d.mixedHeap(int(d.roll(30)))
	held := append(wantObjects(h), 0)
	root := oneOf(d, held)
	switch name {
	case "Walk", "FreeIn", "Coalesced":
		return []any{row, at, int64(len(row))}
	case "BestFit":
		return []any{row, at, int64(len(row)), 2 * d.roll(11)}
	case "ChunkAt", "ObjectAt", "Freed":
		return []any{row, at}
	case "Cut":
		return []any{row, at, 2 * d.roll(5)}
	case "PutObject":
		head := d.head(6)
		return []any{row, at, head, slices.Repeat([]int64{2}, int(head.Slots))}
	case "Fetched":
		return []any{h, root, d.roll(3)}
	case "Stored":
		return []any{h, root, d.roll(3), to(oneOf(d, held))}
	case "Tenured":
		return []any{h, root}
	case "Follow", "Young":
		return []any{h, to(root)}
	case "Same":
		return []any{h, impl.Shown(h)}
	case "NewHeap":
		return []any{6 + 2*d.roll(98), 6 + 2*d.roll(198), d.roll(65537)}
	}
	return nil
}

func everyArgument(t *testing.T) map[reflect.Type]someArgument {
	made := map[reflect.Type]someArgument{}
	for _, s := range []someArgument{
		{edgesOf(everyNumber()), func(d *dice) any { return d.anyNumber() }},
		{edgesOf([]bool{false, true}), func(d *dice) any { return d.roll(2) == 0 }},
		{edgesOf(someTexts()), func(d *dice) any { return d.anyText() }},
		{edgesOf(someRows()), func(d *dice) any { return d.anyRow() }},
		{edgesOf(someEntries()), func(d *dice) any { return d.anyEntries() }},
		{edgesOf(someHeads()), func(d *dice) any { return d.head(20) }},
		{edgesOf(someRefs()), func(d *dice) any { return d.ref(plainGraph().Objs) }},
		{edgesOf(someActs()), func(d *dice) any { return d.oneAct() }},
		{edgesOf(someActLists()), func(d *dice) any { return d.acts(int(d.roll(30))) }},
		{edgesOf(someGraphs()), func(d *dice) any { return d.anyGraph() }},
		{edgesOf(someHeaps(t)), func(d *dice) any { return d.anyHeap() }},
	} {
		made[s.edges[0].Type()] = s
	}
	return made
}
