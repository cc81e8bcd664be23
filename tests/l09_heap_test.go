package tests

import (
	"math"
	"slices"
	"testing"

	"loop.example/g00337/impl"
)

// someWords are numbers, Nil, and what is near an address or a number and is none.
var someWords = []int64{
	2, num(0), num(-1), num(1), num(100000), num(-100000), // right, and lead nowhere
	num(100001), num(-100001), to(1000), to(1001), to(-2), 0, -1, -2, -3, -4, 3, 6, 7, 10, 11,
	math.MinInt64, math.MinInt64 + 1, math.MaxInt64, math.MaxInt64 - 3, 1 << 40,
}

// checkObjects wants nothing told where the heap is wrong.
func checkObjects(t *testing.T, w watchedHeap, want []int64) {
	t.Helper()
	got := impl.Objects(w.heap)
	if !slices.Equal(got, want) {
		t.Fatalf("%+v: Objects %v, want %v", w.heap, got, want)
	}
	overwrite(got)
	w.check(t)
}

func checkYoung(t *testing.T, w watchedHeap, word int64, want bool) {
	t.Helper()
	if got := impl.Young(w.heap, word); got != want {
		t.Fatalf("%+v: Young of %d = %v, want %v", w.heap, word, got, want)
	}
	w.check(t)
}

// checkHeap asks all of the chapter: of a wrong heap nothing is told, and nobody is Young.
func checkHeap(t *testing.T, h impl.Heap, want bool) {
	t.Helper()
	w := watchHeap(h)
	if got := impl.HeapOk(w.heap); got != want {
		t.Fatalf("%+v: HeapOk %v, want %v", h, got, want)
	}
	w.check(t)
	places := []int64{}
	if want {
		places = wantObjects(h)
	}
	checkObjects(t, w, places)
	checkYoung(t, w, to(0), want)
	checkYoung(t, w, 2, false)
	if want {
		checkYoung(t, w, to(2*h.Half-1), true)
		checkYoung(t, w, to(2*h.Half), false)
	}
}

// checkBoth holds what is wanted by hand against the chapter's words, too.
func checkBoth(t *testing.T, name string, h impl.Heap, want bool) {
	t.Helper()
	if wantHeapOk(h) != want {
		t.Fatalf("%s: the test's own words say %v", name, !want)
	}
	if got := impl.HeapOk(h); got != want {
		t.Fatalf("%s: HeapOk %v, want %v: %+v", name, got, want, h)
	}
	checkHeap(t, h, want)
}

// furnished is a right heap with something of all kinds, whose room begins at 12 side, and upstairs at 24.
func furnished(side int64) impl.Heap {
	s := 12 * side
	h := heapOf(12, 30, side, joined(
		[]int64{2, to(s + 4), to(24), 4},      // s: two slots, and a word left over
		[]int64{noteHead + 1, to(40)},         // s + 4: a note that leads upstairs
		[]int64{65 + 512*7 + 65536*9, num(5)}, // s + 6, up to s + 8
	), joined(
		[]int64{pinned + 130, to(s), 2, 0},           // 24: it knows somebody below
		free(4, 4, 8),                                // 28
		[]int64{noteHead + 3, to(s + 6), 9, -9},      // 32: a note that leads below
		[]int64{0, 4},                                // 36: no slot; what is left over is looked at by nobody
		[]int64{noteHead, to(36)},                    // 38: a note that leads to one beside it
		[]int64{3, to(32), num(-7), to(38)},          // 40: to both notes
		[]int64{noteHead + 2 + pinned, to(38), 4, 8}, // 44: a pinned note that leads to a note; what is behind it is looked at by nobody
	))
	h.Roots = []int64{to(s), to(24), num(3), 2, to(38), to(40)}
	h.Mourned = []int64{to(24), to(s + 6), to(24)}
	h.Seen = []int64{24, 32}
	return h
}

// change is what is done to a right heap, and whether it is right still.
type change struct {
	name string
	make func(h *impl.Heap)
	want bool
}

func checkHeapChanges(t *testing.T, made func() impl.Heap, list []change) {
	t.Helper()
	for _, c := range list {
		h := made()
		c.make(&h)
		checkBoth(t, c.name, h, c.want)
	}
}

func eachSide(look func(side int64)) {
	look(0)
	look(1)
}

func isSize(n, most int64) bool { return n >= 8 && n <= most && n%2 == 0 }

func checkNewHeap(t *testing.T, half, old, seed int64) {
	t.Helper()
	h, is := impl.NewHeap(half, old, seed)
	if !isSize(half, 200) || !isSize(old, 400) || seed < 0 || seed > 65535 {
		if is || !sameHeap(h, impl.Heap{}) {
			t.Fatalf("NewHeap(%d, %d, %d) = %+v, %v, want the zero Heap and false", half, old, seed, h, is)
		}
		return
	}
	want := impl.Heap{Half: half, Old: old, Row: joined(zeros(int(2*half)), free(int(old))), Roots: six(), Seed: seed}
	if !is || !sameHeap(h, want) {
		t.Fatalf("NewHeap(%d, %d, %d) = %+v, %v", half, old, seed, h, is)
	}
	if !impl.HeapOk(h) || len(impl.Objects(h)) != 0 || !impl.Young(h, to(2*half-1)) || impl.Young(h, to(2*half)) {
		t.Fatalf("NewHeap(%d, %d, %d): HeapOk %v, Objects %v", half, old, seed, impl.HeapOk(h), impl.Objects(h))
	}
	if free := impl.FreeIn(h.Row, 2*half, 2*half+old); !slices.Equal(free, []int64{2 * half}) {
		t.Fatalf("NewHeap(%d, %d, %d): upstairs is free at %v", half, old, seed, free)
	}
}

// The promise, of every Half and every Old.
func TestNewHeapIsRightAndEmpty(t *testing.T) {
	for half := int64(-3); half <= 205; half++ {
		for old := int64(-3); old <= 405; old++ {
			checkNewHeap(t, half, old, (half*409+old+1700)*7%65536)
		}
	}
	for seed := int64(-2); seed <= 65538; seed++ {
		checkNewHeap(t, 8, 8, seed)
	}
}

func TestNewHeapOfFarNumbers(t *testing.T) {
	near := []int64{7, 8, 9, 10, 199, 200, 201, 202, 399, 400, 401, 402, 0, 1, 6}
	for _, a := range append(near, someEnds...) {
		for _, b := range append(near, someEnds...) {
			for _, seed := range append([]int64{0, 1, 65535, 65536}, someEnds...) {
				checkNewHeap(t, a, b, seed)
			}
		}
	}
}

func TestNewHeapSharesNothing(t *testing.T) {
	one, _ := impl.NewHeap(8, 10, 3)
	other, _ := impl.NewHeap(8, 10, 3)
	was := clonedHeap(other)
	_ = append(one.Row, 1)
	_ = append(one.Roots, 1)
	checkHeapApart(t, one)
	if !sameHeap(other, was) {
		t.Fatalf("a new heap, written into, changes another: %+v", other)
	}
	checkNewHeap(t, 8, 10, 3)
	checkHeapApart(t, first(impl.NewHeap(200, 400, 0)))
	checkHeapApart(t, first(impl.NewHeap(9, 10, 3)))
}

func TestTheZeroHeapIsNotRight(t *testing.T) {
	checkBoth(t, "the zero Heap", impl.Heap{}, false)
	checkBoth(t, "Roots alone", impl.Heap{Roots: six()}, false)
}

func TestHeapByHand(t *testing.T) {
	eachSide(func(side int64) {
		s := 12 * side
		w := watchHeap(furnished(side))
		checkBoth(t, "furnished", w.heap, true)
		checkObjects(t, w, []int64{s, s + 4, s + 6, 24, 32, 36, 38, 40, 44})
		w.check(t)
	})
}

// Sizes that are right but for themselves: the Row is as long as they say, and upstairs is whole chunks where it can be.
func TestHeapSizesAtTheirEdges(t *testing.T) {
	for _, half := range []int64{0, 2, 4, 6, 7, 8, 9, 10, 11, 198, 199, 200, 201, 202, 204, 300} {
		for _, old := range []int64{2, 4, 6, 7, 8, 9, 10, 11, 398, 399, 400, 401, 402, 404} {
			h := heapOf(half, old, 0, nil, nil)
			checkBoth(t, "an empty heap", h, isSize(half, 200) && isSize(old, 400))
			if half > 0 && half%2 == 0 {
				h.Side, h.Top = 1, half
				checkBoth(t, "a full room", h, isSize(half, 200) && isSize(old, 400))
			}
		}
	}
	for _, n := range append([]int64{0, -1, -2, -8, -10}, someEnds...) {
		for _, size := range []*impl.Heap{{Half: n, Old: 8}, {Half: 8, Old: n}, {Half: n, Old: n}, {Half: 8, Old: 8, Side: n}, {Half: 8, Old: 8, Top: n}, {Half: n, Old: 8, Side: 1}, {Half: n, Old: 8, Side: n, Top: n}} {
			h := *size
			h.Roots = six()
			for _, row := range [][]int64{nil, free(8), zeros(16), joined(zeros(16), free(8)), zeros(1000)} {
				h.Row = row
				checkBoth(t, "far numbers", h, h.Half == 8 && h.Old == 8 && h.Side == 0 && h.Top == 0 && len(row) == 24)
			}
		}
	}
}

func TestHeapRowsOfOtherLengths(t *testing.T) {
	eachSide(func(side int64) {
		checkHeapChanges(t, func() impl.Heap { return furnished(side) }, []change{
			{"as it is", func(h *impl.Heap) {}, true},
			{"one word less", func(h *impl.Heap) { h.Row = h.Row[:53] }, false},
			{"one word more", func(h *impl.Heap) { h.Row = append(h.Row, 0) }, false},
			{"an object more", func(h *impl.Heap) { h.Row = append(h.Row, 0, 0) }, false},
			{"an object more, and Old too", func(h *impl.Heap) { h.Row = append(h.Row, 0, 0); h.Old += 2 }, true},
			{"a chunk less", func(h *impl.Heap) { h.Row = h.Row[:48] }, false},
			{"a chunk less, and Old too", func(h *impl.Heap) { h.Row = h.Row[:48]; h.Old -= 6 }, true},
			{"Old 2 more", func(h *impl.Heap) { h.Old += 2 }, false},
			{"Old 2 less", func(h *impl.Heap) { h.Old -= 2 }, false},
			{"no Row", func(h *impl.Heap) { h.Row = nil }, false},
			{"a Row of 1000", func(h *impl.Heap) { h.Row = joined(h.Row, free(946)) }, false},
			{"a Row of 1002", func(h *impl.Heap) { h.Row = joined(h.Row, free(948)) }, false},
			{"Half 2 less, Old 4 more: of the side 0, objects of words 0 are upstairs", func(h *impl.Heap) { h.Half -= 2; h.Old += 4 }, side == 0},
		})
	})
}

// Words 0 are objects without slots wherever the room is, so that Side and Top alone tell what is right.
func TestHeapSidesAndTops(t *testing.T) {
	above := []int64{0, 0, 1, 2, 0, 0}
	for side := int64(-3); side <= 4; side++ {
		for top := int64(-4); top <= 24; top++ {
			h := heapOf(8, 10, 0, nil, above)
			h.Side, h.Top = side, top
			want := (side == 0 || side == 1) && top >= 0 && top <= 8 && top%2 == 0
			checkBoth(t, "zeros", h, want)
		}
	}
	for _, n := range someEnds {
		h := heapOf(8, 10, 0, nil, above)
		h.Side = n
		checkBoth(t, "Side", h, false)
		h.Side, h.Top = 0, n
		checkBoth(t, "Top", h, false)
		h.Side, h.Top = 1, n
		checkBoth(t, "Top", h, false)
		h.Side, h.Top = n, n
		checkBoth(t, "Side and Top", h, false)
	}
}

func TestHeapTopInsideOfAChunk(t *testing.T) {
	eachSide(func(side int64) {
		for top := int64(-1); top <= 13; top++ {
			h := furnished(side)
			h.Top = top
			// Up to 12, since words 0 are objects without slots.
			checkBoth(t, "Top", h, top == 8 || top == 10 || top == 12)
		}
		// A room whose words behind Top would be chunks, too, were Top greater.
		h := heapOf(8, 8, side, []int64{1, 2, 1, 2}, nil)
		for top := int64(0); top <= 8; top++ {
			h.Top = top
			checkBoth(t, "Top", h, top == 4 || top == 6 || top == 8)
		}
		other := heapOf(8, 8, side, []int64{1, 2, 1, 2}, nil)
		other.Side = 1 - side
		checkBoth(t, "the other side", other, false)
	})
}

// One word that is not 0, anywhere behind Top or in the other half.
func TestHeapWordsWhereNoneAre(t *testing.T) {
	eachSide(func(side int64) {
		s := 12 * side
		for at := range int64(24) {
			for _, w := range []int64{1, -1, 2, 4, 64, freeHead, math.MinInt64, math.MaxInt64} {
				if at >= s && at < s+8 {
					continue
				}
				h := furnished(side)
				h.Row[at] = w
				checkBoth(t, "a word where none is", h, false)
			}
		}
		// The room that is full has none behind it, but the other half is still to be 0.
		for at := range int64(16) {
			h := heapOf(8, 8, side, zeros(8, 7, 2, 2, 2, 2, 2, 2, 2), nil)
			checkBoth(t, "a full room", h, true)
			h.Row[at] = 13
			behind := at - 8*side
			checkBoth(t, "a word in a full room", h, behind > 0 && behind < 8)
		}
	})
}

func TestHeapFreeChunksOnlyUpstairs(t *testing.T) {
	eachSide(func(side int64) {
		for _, below := range [][]int64{free(2), free(4), free(8), joined(zeros(2), free(2)), joined(free(2), zeros(2)), joined(zeros(2), free(4), zeros(2)), joined([]int64{1, 2}, free(6))} {
			checkBoth(t, "free in the room", heapOf(8, 8, side, below, nil), false)
		}
		for _, above := range [][]int64{free(2), free(4), free(8), joined(free(2), free(2)), joined(zeros(2), free(2), zeros(4)), zeros(8), joined(free(4), []int64{3, 2, 2, 2}), free(8, 1, -1, marked, 9, 9, 9)} {
			checkBoth(t, "free upstairs", heapOf(8, 8, side, nil, above), true)
		}
	})
}

func TestHeapUpstairsEndsJustThere(t *testing.T) {
	eachSide(func(side int64) {
		for _, c := range []struct {
			above []int64
			want  bool
		}{
			{free(10), true},
			{zeros(10), true},
			{zeros(10, freeHead, 8), true}, // an object behind it
			{zeros(10, freeHead, 9), false},
			{zeros(10, freeHead, 11), false},
			{zeros(10, freeHead, 12), false},
			{zeros(10, freeHead, 0), false},
			{zeros(10, freeHead, -2), false},
			{zeros(10, freeHead, math.MaxInt64-1), false},
			{joined(free(8), []int64{freeHead, 2}), true},
			{joined(free(8), []int64{freeHead, 4}), false},
			{joined(free(8), []int64{1, 2}), true},
			{joined(free(8), []int64{2, 2}), false},
			{joined(free(8), []int64{-1, 0}), false},
			{joined(free(8), []int64{64 * 3, 0}), false},
			{joined(free(8), []int64{128, 0}), false},
			{joined(free(6), []int64{3, 2, 2, 2}), true},
			{joined(free(6), []int64{4, 2, 2, 2}), false},
			{zeros(10, 9, 2, 2, 2, 2, 2, 2, 2, 2, 2), true},
			{zeros(10, 8, 2, 2, 2, 2, 2, 2, 2, 2, 2), true},
			{zeros(10, 10, 2, 2, 2, 2, 2, 2, 2, 2, 2), false},
			{zeros(10, 7, 2, 2, 2, 2, 2, 2, 2, 0, 0), true},
			{zeros(10, 7, 2, 2, 2, 2, 2, 2, 2, -5, 0), false},
			{joined([]int64{-1, 0}, free(8)), false},
		} {
			checkBoth(t, "upstairs", heapOf(8, 10, side, nil, c.above), c.want)
		}
	})
}

// A word that is a right head but for its mark is no head of a chunk.
func TestHeapHeadsMarkedAndPinned(t *testing.T) {
	eachSide(func(side int64) {
		s := 12 * side
		h := furnished(side)
		list, _ := piecesOf(h)
		for _, p := range list {
			h := furnished(side)
			h.Row[p.at] += marked
			checkBoth(t, "Marked", h, false)
			if p.head.Pinned || p.isFree() {
				continue
			}
			h = furnished(side)
			h.Row[p.at] += pinned
			checkBoth(t, "Pinned", h, p.at >= 24)
		}
		for _, at := range []int64{24, 44} {
			h := furnished(side)
			h.Row[at] -= pinned
			checkBoth(t, "no longer Pinned", h, true)
		}
		h = furnished(side)
		h.Row[s+6] = pinned + 65
		checkBoth(t, "a Pinned one in the room", h, false)
	})
}

// headed is an object, or a note, whose words all lead to one place.
func headed(h impl.Head, at int64) []int64 {
	body := slices.Repeat([]int64{to(at)}, int(1+h.Slots+(1+h.Slots)%2))
	body[0] = sumOf(h)
	return body
}

// Of every right head: Marked it heads no chunk, Pinned none of the room.
func TestHeapOfEveryHead(t *testing.T) {
	for _, head := range rightHeads() {
		if head.Format == 6 || head.Class%33 != 0 || head.Hash%65535 != 0 {
			continue
		}
		eachSide(func(side int64) {
			below := heapOf(24, 8, side, headed(head, 48), zeros(2))
			checkBoth(t, "in the room", below, !head.Marked && !head.Pinned)
			above := heapOf(24, 30, side, nil, joined(zeros(2), headed(head, 48)))
			checkBoth(t, "upstairs", above, !head.Marked)
		})
	}
}

func TestHeapRootsByCount(t *testing.T) {
	eachSide(func(side int64) {
		for n := range 9 {
			h := furnished(side)
			h.Roots = slices.Repeat([]int64{2}, n)
			checkBoth(t, "Roots", h, n == 6)
			h.Roots = slices.Repeat([]int64{to(24)}, n)
			checkBoth(t, "Roots", h, n == 6)
		}
		for n := range 44 {
			h := furnished(side)
			h.Mourned = slices.Repeat([]int64{to(24)}, n)
			checkBoth(t, "Mourned", h, n <= 40)
			h.Mourned = slices.Repeat([]int64{to(12 * side)}, n)
			checkBoth(t, "Mourned", h, n <= 40)
			empty := heapOf(8, 8, side, nil, nil)
			empty.Mourned = slices.Repeat([]int64{2}, n)
			checkBoth(t, "Mourned that lead nowhere", empty, n == 0)
		}
	})
}

func TestHeapSeeds(t *testing.T) {
	for _, seed := range append([]int64{-1, 0, 1, 2, 999, 1000, 32768, 65534, 65535, 65536, 65537}, someEnds...) {
		h := furnished(1)
		h.Seed = seed
		checkBoth(t, "Seed", h, seed >= 0 && seed <= 65535)
	}
}

// rightPlaces are where there is something that is not free in what is furnished.
func rightPlaces(side int64) []int64 {
	s := 12 * side
	return []int64{s, s + 4, s + 6, 24, 32, 36, 38, 40, 44}
}

// rightSeen makes Seen what it must be, so that only what is asked for can be wrong.
func rightSeen(h *impl.Heap) {
	if list, is := piecesOf(*h); is {
		h.Seen = wantSeen(*h, list)
	}
}

// Each Root, each of Mourned, each Slot and each note, with each address and what is none.
func TestHeapWordsEverywhere(t *testing.T) {
	eachSide(func(side int64) {
		s := 12 * side
		right := rightPlaces(side)
		words := slices.Clone(someWords)
		for at := range int64(1000) {
			if at < 60 || at%100 == 0 || at > 996 {
				words = append(words, to(at))
			}
		}
		for _, w := range words {
			leads := w%4 == 0 && slices.Contains(right, w/4-1)
			says := leads || w == 2 || slices.Contains(someWords[:6], w)
			for i := range 6 {
				h := furnished(side)
				h.Roots[i] = w
				checkBoth(t, "a Root", h, says)
			}
			for i := range 3 {
				h := furnished(side)
				h.Mourned[i] = w
				checkBoth(t, "one of Mourned", h, leads)
			}
			for _, at := range []int64{s + 1, s + 2, s + 7, 25, 26, 41, 42, 43} {
				h := furnished(side)
				h.Row[at] = w
				rightSeen(&h)
				checkBoth(t, "a Slot", h, says)
			}
			for _, at := range []int64{s + 3, 27, 30, 31, 34, 35, 37, 46, 47, 53} {
				h := furnished(side)
				h.Row[at] = w
				checkBoth(t, "a word that nobody looks at", h, true)
			}
			for _, at := range []int64{s + 4, 32, 38, 44} {
				h := furnished(side)
				h.Row[at+1] = w
				rightSeen(&h)
				// The notes at 38 and 44 lead on one another; those at s + 4 and 32 lead to objects.
				round := w == to(at) || at == 38 && w == to(44)
				checkBoth(t, "a note", h, leads && !round)
			}
		}
	})
}

// What is wrong by its place alone: no chunk, inside of a chunk, free, behind Top, the other half, out of the Row.
func TestHeapWordsThatLeadWrong(t *testing.T) {
	eachSide(func(side int64) {
		s, o := 12*side, 12-12*side
		for _, at := range []int64{s + 1, s + 2, s + 3, s + 5, s + 7, s + 8, s + 10, s + 11, o, o + 2, o + 11, 25, 26, 28, 30, 34, 37, 48, 50, 53, 54, 55, 100, 999} {
			for _, c := range []func(h *impl.Heap){
				func(h *impl.Heap) { h.Roots[3] = to(at) },
				func(h *impl.Heap) { h.Mourned = append(h.Mourned, to(at)) },
				func(h *impl.Heap) { h.Row[s+1] = to(at) },
				func(h *impl.Heap) { h.Row[s+5] = to(at) },
				func(h *impl.Heap) { h.Row[41] = to(at) },
				func(h *impl.Heap) { h.Row[39] = to(at) },
			} {
				h := furnished(side)
				c(&h)
				rightSeen(&h)
				checkBoth(t, "it leads wrong", h, false)
			}
		}
	})
}

// Every list of up to three places that Seen could be: just one of them is right.
func TestHeapSeenOfEveryList(t *testing.T) {
	eachSide(func(side int64) {
		s := 12 * side
		places := []int64{0, s, s + 4, 23, 24, 25, 28, 32, 36, 40, 44, 48, 54, -1, 1000, math.MaxInt64}
		for n := range 4 {
			eachShortRow(n, places, func(list []int64) {
				h := furnished(side)
				h.Seen = slices.Clone(list)
				if got, want := impl.HeapOk(h), slices.Equal(list, []int64{24, 32}); got != want {
					t.Fatalf("Seen %v: HeapOk %v, want %v", list, got, want)
				}
			})
		}
		checkHeapChanges(t, func() impl.Heap { return furnished(side) }, []change{
			{"one left out", func(h *impl.Heap) { h.Seen = []int64{24} }, false},
			{"the other left out", func(h *impl.Heap) { h.Seen = []int64{32} }, false},
			{"none", func(h *impl.Heap) { h.Seen = nil }, false},
			{"one too many", func(h *impl.Heap) { h.Seen = []int64{24, 32, 40} }, false},
			{"one twice", func(h *impl.Heap) { h.Seen = []int64{24, 24, 32} }, false},
			{"the last one twice", func(h *impl.Heap) { h.Seen = []int64{24, 32, 32} }, false},
			{"it falls", func(h *impl.Heap) { h.Seen = []int64{32, 24} }, false},
			{"one of the room", func(h *impl.Heap) { h.Seen = []int64{s, 24, 32} }, false},
			{"no chunk", func(h *impl.Heap) { h.Seen = []int64{24, 25, 32} }, false},
			{"a free chunk", func(h *impl.Heap) { h.Seen = []int64{24, 28, 32} }, false},
			{"the end", func(h *impl.Heap) { h.Seen = []int64{24, 32, 54} }, false},
			{"one is Young no longer", func(h *impl.Heap) { h.Row[25] = to(24) }, false},
			{"nor seen", func(h *impl.Heap) { h.Row[25] = to(24); h.Seen = []int64{32} }, true},
			{"the note is Young no longer", func(h *impl.Heap) { h.Row[33] = to(24) }, false},
			{"nor seen", func(h *impl.Heap) { h.Row[33] = to(24); h.Seen = []int64{24} }, true},
			{"the last Slot of another is Young", func(h *impl.Heap) { h.Row[43] = to(s) }, false},
			{"and seen", func(h *impl.Heap) { h.Row[43] = to(s); h.Seen = []int64{24, 32, 40} }, true},
			{"both Slots are", func(h *impl.Heap) { h.Row[26] = to(s) }, true},
		})
	})
}

// Who is in the room sees the Young and is in no list of Seen; a free chunk whose size looks like an address is none either.
func TestHeapSeenIsOfUpstairsAlone(t *testing.T) {
	eachSide(func(side int64) {
		s := 8 * side
		h := heapOf(8, 8, side, []int64{2, to(s), to(s), 0, noteHead, to(s)}, free(8, to(s), to(s)))
		checkBoth(t, "the room knows itself", h, true)
		h.Seen = []int64{s}
		checkBoth(t, "the room is seen", h, false)
		h.Seen = []int64{16}
		checkBoth(t, "what is free is seen", h, false)
	})
}

// Four notes and an object, two of them below: each note leads to each of the five.
func TestHeapNotesInEveryWay(t *testing.T) {
	eachSide(func(side int64) {
		s := 8 * side
		places := []int64{s, s + 2, 16, 18, 20}
		right := 0
		eachShortRow(4, places, func(list []int64) {
			h := heapOf(8, 8, side, []int64{noteHead, to(list[0]), noteHead + 1, to(list[1])}, []int64{noteHead, to(list[2]), noteHead + 1 + pinned, to(list[3]), 1, 21})
			rightSeen(&h)
			want := wantHeapOk(h)
			checkHeap(t, h, want)
			if want {
				right++
			}
		})
		// So many ways are trees with the object as their root: 5 to the power of 3.
		if right != 125 {
			t.Fatalf("%d ways are right, want 125", right)
		}
	})
}

func TestHeapNotesByHand(t *testing.T) {
	eachSide(func(side int64) {
		s := 8 * side
		note := func(at int64) []int64 { return []int64{noteHead + 1, to(at)} }
		for _, c := range []struct {
			name         string
			below, above []int64
			seen         []int64
			want         bool
		}{
			{"a note in the room", joined(note(16)), []int64{1, 2}, nil, true},
			{"a note upstairs", []int64{1, 2}, note(s), []int64{16}, true},
			{"a note to itself in the room", note(s), nil, nil, false},
			{"a note to itself upstairs", nil, note(16), nil, false},
			{"one after the other", joined(note(s+2), note(s+4), []int64{1, 2}), nil, nil, true},
			{"one after the other, backwards", joined([]int64{1, 2}, note(s), note(s+2)), nil, nil, true},
			{"two that lead to one another", joined(note(s+2), note(s)), nil, nil, false},
			{"two upstairs", nil, joined(note(18), note(16)), nil, false},
			{"one below and one upstairs", note(16), note(s), []int64{16}, false},
			{"three round", joined(note(s+2), note(16)), note(s), []int64{16}, false},
			{"two that lead to one", joined(note(s+4), note(s+4), []int64{1, 2}), nil, nil, true},
			{"one that leads into a ring", joined(note(s+2), note(s+4), note(s+2)), nil, nil, false},
			{"one that a ring leads to none", joined([]int64{1, to(s + 2)}, note(s+4), note(s+2)), nil, nil, false},
			{"an object between", joined(note(s+2), []int64{1, to(s)}), nil, nil, true},
			{"an object to itself", []int64{1, to(s)}, []int64{1, to(16)}, nil, true},
			{"a note to what is free", note(16), free(8), nil, false},
			{"a note to a number", []int64{noteHead, num(3)}, nil, nil, false},
			{"a note to Nil", []int64{noteHead, 2}, nil, nil, false},
			{"a number upstairs", nil, []int64{noteHead, num(3)}, nil, false},
		} {
			h := heapOf(8, 8, side, c.below, c.above)
			h.Seen = c.seen
			checkBoth(t, c.name, h, c.want)
		}
	})
}

// Notes one after the other through all of a heap, as many as there are room for: right where the last is an object, whatever their order; wrong where it leads back.
func TestHeapLongRings(t *testing.T) {
	d := &dice{n: 9}
	for _, c := range [][2]int64{{8, 8}, {10, 30}, {200, 400}, {100, 8}, {8, 400}} {
		eachSide(func(side int64) {
			d.eachOrder(pairsOf(c[0], c[1], side), func(places []int64) { checkRings(t, c[0], c[1], side, places) })
		})
	}
}

func checkRings(t *testing.T, half, old, side int64, places []int64) {
	t.Helper()
	h := heapOf(half, old, side, zeros(int(half)), nil)
	last := len(places) - 1
	for i, at := range places {
		h.Row[at], h.Row[at+1] = noteHead, to(places[min(i+1, last)])
	}
	h.Row[places[last]] = 1
	h.Roots[0], h.Mourned = to(places[0]), []int64{to(places[0])}
	h.Row[places[last]+1] = 2
	rightSeen(&h)
	checkBoth(t, "a long way", h, true)
	h.Row[places[last]+1] = to(places[0])
	rightSeen(&h)
	checkBoth(t, "an object that leads back", h, true)
	h.Row[places[last]] = noteHead
	for _, back := range []int{0, 1, last / 2, last - 1, last} {
		h.Row[places[last]+1] = to(places[back])
		rightSeen(&h)
		checkBoth(t, "a ring", h, false)
	}
}

// Each word of a furnished heap's Row, and each number, as other words: the chapter's words tell what is right still.
func TestHeapWithOneWordChanged(t *testing.T) {
	heads := []int64{0, 1, 2, 3, 4, 5, 6, 20, 21, 63, 64, 65, 66, 128, 129, 130, 192, 256, 320, freeHead, freeHead + 1, noteHead, noteHead + 1, noteHead + 2, noteHead + 3, noteHead + 5, 512 * 99, 512 * 100, 65536 * 65535, pinned, pinned + 2, pinned + noteHead, pinned + freeHead, marked, marked + 2, marked + freeHead, 2 * marked}
	words := append(heads, someWords...)
	for at := range int64(54) {
		words = append(words, to(at))
	}
	eachSide(func(side int64) {
		right := 0
		for at := range furnished(side).Row {
			for _, w := range words {
				h := furnished(side)
				h.Row[at] = w
				want := wantHeapOk(h)
				checkHeap(t, h, want)
				rightSeen(&h)
				want = wantHeapOk(h)
				checkHeap(t, h, want)
				if want {
					right++
				}
			}
		}
		if all := 54 * len(words); right < all/6 || right > all/2 {
			t.Fatalf("%d of %d are right", right, all)
		}
	})
}

// All that can be upstairs, and in the room, of words that tell.
func TestHeapOfEveryShortRow(t *testing.T) {
	right := 0
	look := func(h impl.Heap) {
		rightSeen(&h)
		want := wantHeapOk(h)
		if got := impl.HeapOk(h); got != want {
			t.Fatalf("%+v: HeapOk %v, want %v", h, got, want)
		}
		if want {
			right++
			checkHeap(t, h, true)
		}
	}
	eachSide(func(side int64) {
		s := 8 * side
		for _, alphabet := range [][]int64{
			{1, 2, freeHead, 4},
			{1, 2, noteHead, to(16)},
			{0, noteHead + 1, to(18), 2},
			{3, noteHead + 3, to(s), to(20)},
			{1, pinned + 1, to(s), 2},
		} {
			eachShortRow(8, alphabet, func(row []int64) { look(heapOf(8, 8, side, []int64{0, 0}, slices.Clone(row))) })
		}
		for _, alphabet := range [][]int64{
			{1, 2, freeHead, noteHead, to(s), to(s + 2)},
			{0, 2, to(s + 4), noteHead + 1, 16, 17},
			{1, pinned + 1, to(16), noteHead, pinned + noteHead, 2},
		} {
			for n := range 7 {
				eachShortRow(n, alphabet, func(row []int64) { look(heapOf(8, 8, side, slices.Clone(row), []int64{1, 2})) })
			}
		}
	})
	if right < 1000 {
		t.Fatalf("%d are right", right)
	}
}

func TestYoungOfEveryWord(t *testing.T) {
	for _, h := range []impl.Heap{furnished(0), furnished(1), first(impl.NewHeap(8, 8, 0)), first(impl.NewHeap(10, 400, 0)), first(impl.NewHeap(200, 8, 0)), first(impl.NewHeap(200, 400, 65535))} {
		w := watchHeap(h)
		for at := int64(-3); at <= 1003; at++ {
			checkYoung(t, w, to(at), at >= 0 && at < 2*h.Half)
			checkYoung(t, w, to(at)+1, false)
			checkYoung(t, w, to(at)+2, false)
			checkYoung(t, w, to(at)+3, false)
		}
		for _, word := range append(slices.Clone(someWords), someEnds...) {
			if !(leadsByHand(word) && word < to(2*h.Half)) {
				checkYoung(t, w, word, false)
			}
		}
	}
}

func TestYoungAndObjectsOfWrongHeaps(t *testing.T) {
	eachSide(func(side int64) {
		for _, spoilt := range []func(h *impl.Heap){
			func(h *impl.Heap) { h.Seen = nil },
			func(h *impl.Heap) { h.Seed = -1 },
			func(h *impl.Heap) { h.Roots = h.Roots[:5] },
			func(h *impl.Heap) { h.Roots[5] = 0 },
			func(h *impl.Heap) { h.Mourned[0] = 2 },
			func(h *impl.Heap) { h.Row[52] = 7; h.Row[49] = 4 },
			func(h *impl.Heap) { h.Top = 7 },
			func(h *impl.Heap) { h.Side = 1 - h.Side },
			func(h *impl.Heap) { h.Half = 0 },
			func(h *impl.Heap) { h.Row = nil },
		} {
			h := furnished(side)
			spoilt(&h)
			w := watchHeap(h)
			checkObjects(t, w, nil)
			for at := range int64(60) {
				checkYoung(t, w, to(at), false)
			}
		}
	})
}

func TestObjectsInOrder(t *testing.T) {
	eachSide(func(side int64) {
		s := 10 * side
		note := func(at int64) []int64 { return []int64{noteHead, to(at)} }
		for _, c := range []struct {
			below, above []int64
			want         []int64
		}{
			{nil, nil, nil},
			{zeros(2), nil, []int64{s}},
			{zeros(10), nil, []int64{s, s + 2, s + 4, s + 6, s + 8}},
			{joined([]int64{3, 2, 2, 2}, note(s), []int64{1, 9}), nil, []int64{s, s + 4, s + 6}},
			{nil, zeros(2), []int64{20}},
			{nil, joined(free(2), zeros(2), free(4), note(22)), []int64{22, 28}},
			{nil, joined(note(30), free(8), zeros(2)), []int64{20, 30}},
			{nil, zeros(12), []int64{20, 22, 24, 26, 28, 30}},
			{note(20), []int64{11, 2, 2, 2, 2, 2, 2, 2, 2, 2, 2, 2}, []int64{s, 20}},
			{joined(zeros(2), note(22)), joined(free(2), zeros(2), free(2), []int64{5, 2, 2, 2, 2, 2}), []int64{s, s + 2, 22, 26}},
		} {
			h := heapOf(10, 12, side, c.below, c.above)
			w := watchHeap(h)
			checkBoth(t, "Objects", h, true)
			checkObjects(t, w, c.want)
		}
	})
}

// spoilHeap sets one of a heap's words or numbers, or makes a list longer or shorter.
func (d *dice) spoilHeap(h *impl.Heap) {
	numbers := []*int64{&h.Half, &h.Old, &h.Side, &h.Top, &h.Seed}
	lists := []*[]int64{&h.Row, &h.Row, &h.Row, &h.Roots, &h.Mourned, &h.Seen}
	list := lists[d.roll(6)]
	n := int64(len(*list))
	w := to(d.roll(int64(len(h.Row)) + 4))
	if kinds := append([]int64{0, 1, 3, 8, 12, 24, freeHead, noteHead, noteHead + 1, pinned + 2, marked, d.roll(70)}, someWords...); d.roll(2) == 0 {
		w = kinds[d.roll(int64(len(kinds)))]
	}
	switch d.roll(8) {
	case 0:
		*numbers[d.roll(5)] = []int64{-2, -1, 0, 1, 2, 8, 9, 10, 24, w}[d.roll(10)]
	case 1:
		*list = slices.Insert(*list, int(d.roll(n+1)), w)
	case 2:
		if n > 0 {
			*list = slices.Delete(*list, int(n-1), int(n))
		}
	default:
		if n > 0 {
			(*list)[d.roll(n)] = w
		}
	}
}

// Right heaps, and the same with one or more things spoilt.
func TestHeapsThatAreSpoilt(t *testing.T) {
	d := &dice{n: 99}
	right := 0
	for range 6000 {
		h := d.heap(8+2*d.roll(10), 8+2*d.roll(20), d.roll(5))
		checkHeap(t, h, true)
		if !wantHeapOk(h) {
			t.Fatalf("the test's own words say that it is wrong: %+v", h)
		}
		for range 1 + d.roll(2) {
			d.spoilHeap(&h)
		}
		want := wantHeapOk(h)
		checkHeap(t, h, want)
		if wantNumbers(h) {
			rightSeen(&h)
			want = wantHeapOk(h)
			checkHeap(t, h, want)
		}
		if want {
			right++
		}
	}
	if right < 600 || right > 5400 {
		t.Fatalf("%d of 6000 are right", right)
	}
}

func TestGreatHeaps(t *testing.T) {
	d := &dice{n: 999}
	for range 60 {
		h := d.heap(200, 400, 40)
		checkHeap(t, h, true)
		if len(wantObjects(h)) > 0 {
			h.Mourned = append(h.Mourned, to(wantObjects(h)[0]))
			checkBoth(t, "one more Mourned", h, false)
		}
	}
}

// Answers to one heap, one beside the other, have nothing of one another.
func TestHeapAnswersShareNothing(t *testing.T) {
	w := watchHeap(furnished(1))
	wrong := watchHeap(impl.Heap{})
	calls := []func() []int64{
		func() []int64 { return impl.Objects(w.heap) },
		func() []int64 { return impl.Objects(wrong.heap) },
		func() []int64 { return first(impl.NewHeap(12, 30, 1)).Row },
		func() []int64 { return first(impl.NewHeap(12, 30, 1)).Roots },
		func() []int64 { return first(impl.NewHeap(12, 30, 1)).Mourned },
		func() []int64 { return first(impl.NewHeap(12, 30, 1)).Seen },
	}
	checkListsApart(t, calls, append(w.lists, wrong.lists...)...)
	// The heap, written over afterwards, changes no answer.
	places := impl.Objects(w.heap)
	checkHeapApart(t, w.heap)
	if !slices.Equal(places, rightPlaces(1)) {
		t.Fatalf("the heap, written into, changes an answer: %v", places)
	}
}
