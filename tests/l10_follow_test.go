package tests

import (
	"math"
	"slices"
	"testing"

	"loop.example/g00337/impl"
)

// followedTo is where each right place of what is furnished leads in the end.
func followedTo(side int64) map[int64]int64 {
	s := 12 * side
	return map[int64]int64{s: s, s + 4: 40, s + 6: s + 6, 24: 24, 32: s + 6, 36: 36, 38: 36, 40: 40, 44: 36}
}

// Free, no chunk, inside of a chunk, behind Top, the other half, out of the Row: all are among these.
func TestFollowOfEveryWord(t *testing.T) {
	eachSide(func(side int64) {
		w := watchHeap(furnished(side))
		for at := int64(-3); at <= 1003; at++ {
			want := int64(2)
			if end, is := followedTo(side)[at]; is {
				want = to(end)
			}
			checkFollow(t, w, to(at), want)
			checkFollow(t, w, want, want)
		}
		for _, n := range []int64{0, 1, -1, 3, 24, 99, 999, 1000, 99999, 100000, -100000} {
			checkFollow(t, w, num(n), num(n))
		}
		checkFollow(t, w, 2, 2)
		for _, word := range []int64{0, -1, -2, -4, 3, 6, 7, 10, 11, to(1000), to(1001), to(-2), num(100001), num(-100001), 1 << 40} {
			checkFollow(t, w, word, 2)
		}
		for word := int64(-4100); word <= 4100; word++ {
			switch (word + 8000) % 4 {
			case 1:
				checkFollow(t, w, word, word)
			case 2, 3:
				checkFollow(t, w, word, 2)
			}
		}
		for _, word := range []int64{math.MinInt64, math.MinInt64 + 1, math.MinInt64 + 3, math.MaxInt64, math.MaxInt64 - 2, math.MaxInt64 - 3} {
			checkFollow(t, w, word, 2)
		}
	})
}

func TestFollowWherePlacesLeadWrong(t *testing.T) {
	eachSide(func(side int64) {
		s, o := 12*side, 12-12*side
		w := watchHeap(furnished(side))
		for name, at := range map[string]int64{
			"a free chunk":        28,
			"the last free chunk": 48,
			"inside of an object": 25,
			"inside of a note":    33,
			"behind a note":       46,
			"inside of a chunk":   50,
			"behind Top":          s + 8,
			"the last of a half":  s + 11,
			"the other half":      o,
			"its last word":       o + 11,
			"the Row's end":       54,
			"out of the Row":      55,
			"far out":             999,
			"past MaxAddr":        1000,
			"below 0":             -1,
		} {
			if got := impl.Follow(w.heap, to(at)); got != impl.Nil {
				t.Fatalf("%s: Follow of %d = %d, want Nil", name, to(at), got)
			}
		}
		w.check(t)
	})
}

// A new heap has nothing to lead to.
func TestFollowingOfNewHeaps(t *testing.T) {
	for _, c := range [][3]int64{{8, 8, 0}, {8, 10, 3}, {200, 400, 65535}, {200, 8, 1}, {8, 400, 77}} {
		h, _ := impl.NewHeap(c[0], c[1], c[2])
		checkFollowing(t, h)
		w := watchHeap(h)
		checkShown(t, w, impl.Graph{Roots: sixRoots(), Next: 1, Seed: c[2]})
		checkShown(t, w, first(impl.NewGraph(c[2])))
		checkStraightened(t, w, h)
		for at := range 2*c[0] + c[1] {
			checkFollow(t, w, to(at), 2)
		}
		for root := range int64(6) {
			checkRoot(t, w, root, -1, -1)
		}
	}
}

func TestFurnishedShownByHand(t *testing.T) {
	eachSide(func(side int64) {
		w := watchHeap(furnished(side))
		checkShown(t, w, graphOf([]impl.Obj{
			obj(1, 0, impl.FoPlain, 0, rObj(4), rObj(2)),
			obj(2, 0, impl.FoEphem, 0, rObj(1), rNil),
			obj(3, 0, impl.FoPlain, 0),
			obj(4, 0, impl.FoPlain, 0, rObj(5), rInt(-7), rObj(3)),
			obj(5, 7, impl.FoWeak, 9, rInt(5)),
		}, sixRoots(rObj(1), rObj(2), rInt(3), rNil, rObj(3), rObj(4)), rObj(2), rObj(5), rObj(2)))
		checkFollowing(t, furnished(side))
	})
}

func TestFurnishedStraightenedByHand(t *testing.T) {
	eachSide(func(side int64) {
		s := 12 * side
		want := furnished(side)
		want.Roots[4] = to(36)
		want.Row[s+1] = to(40)
		want.Row[41] = to(s + 6)
		want.Row[43] = to(36)
		want.Seen = []int64{24, 32, 40} // at 40 somebody below is known only now
		checkStraightened(t, watchHeap(furnished(side)), want)
		// As it is: all of it is straight, though there are notes, and some lead to notes.
		checkStraightened(t, watchHeap(want), want)
		checkFollowing(t, want)
	})
}

// followCase is a heap with halves of 20 words, whose upstairs begins at 40, and what it shows.
type followCase struct {
	name    string
	below   []int64
	above   []int64
	roots   []int64
	mourned []int64
	want    impl.Graph
}

func (c followCase) heap(side int64) impl.Heap {
	h := heapOf(20, 40, side, c.below, c.above)
	copy(h.Roots, c.roots)
	h.Mourned = c.mourned
	rightSeen(&h)
	return h
}

func checkShows(t *testing.T, side int64, list []followCase) {
	t.Helper()
	for _, c := range list {
		h := c.heap(side)
		if got := impl.Shown(h); !sameGraph(got, c.want) {
			t.Fatalf("%s: Shown =\n%v\nwant\n%v", c.name, got, c.want)
		}
		checkShown(t, watchHeap(h), c.want)
		checkFollowing(t, h)
	}
}

// note is one that takes two words.
func note(at int64) []int64 { return []int64{noteHead, to(at)} }

// one is an object of FoPlain with these words as Slots, and a Hash that tells it from others.
func one(hash int64, words ...int64) []int64 {
	n := len(words)
	return zeros(n+1+(n+1)%2, joined([]int64{65536*hash + int64(n)}, words)...)
}

func TestShownOfWhatIsLedTo(t *testing.T) {
	eachSide(func(side int64) {
		s := 20 * side
		checkShows(t, side, []followCase{
			{"nothing in Roots and Mourned", joined(one(1, to(40))), joined(one(2, to(s))), nil, nil,
				graphOf(nil, sixRoots())},
			{"numbers in Roots", nil, nil, []int64{num(5), 2, num(-100000), num(100000), num(0), num(-1)}, nil,
				graphOf(nil, sixRoots(rInt(5), rNil, rInt(-100000), rInt(100000), rInt(0), rInt(-1)))},
			{"one that nobody leads to", joined(one(1), one(2)), joined(one(3, to(s)), one(4)), []int64{to(s + 2), to(42)}, nil,
				graphOf([]impl.Obj{obj(1, 0, 0, 2), obj(2, 0, 0, 4)}, sixRoots(rObj(1), rObj(2)))},
			{"to one another", joined(one(1, to(40))), joined(one(2, to(s))), []int64{to(40)}, nil,
				graphOf([]impl.Obj{obj(1, 0, 0, 2, rObj(2)), obj(2, 0, 0, 1, rObj(1))}, sixRoots(rObj(1)))},
			{"to themselves", joined(one(1, to(s))), joined(one(2, to(40), to(40))), []int64{2, to(40), to(s)}, nil,
				graphOf([]impl.Obj{obj(1, 0, 0, 2, rObj(1), rObj(1)), obj(2, 0, 0, 1, rObj(2))}, sixRoots(rNil, rObj(1), rObj(2)))},
			{"all Roots to one", joined(one(1)), nil, slices.Repeat([]int64{to(s)}, 6), nil,
				graphOf([]impl.Obj{obj(1, 0, 0, 1)}, slices.Repeat([]impl.Ref{rObj(1)}, 6))},
			{"only Mourned leads there", joined(one(1, to(40))), joined(one(2), one(3)), nil, []int64{to(42), to(s), to(42)},
				graphOf([]impl.Obj{obj(1, 0, 0, 3), obj(2, 0, 0, 1, rObj(3)), obj(3, 0, 0, 2)}, sixRoots(), rObj(1), rObj(2), rObj(1))},
			{"numbers and Nil in Slots", joined(one(1, num(7), 2, num(-100000), num(100000))), nil, []int64{to(s)}, nil,
				graphOf([]impl.Obj{obj(1, 0, 0, 1, rInt(7), rNil, rInt(-100000), rInt(100000))}, sixRoots(rObj(1)))},
			{"Pinned ones", nil, joined([]int64{pinned + 65536*5 + 1, to(42)}, []int64{pinned + 65536*6, 0}), []int64{to(40)}, nil,
				graphOf([]impl.Obj{obj(1, 0, 0, 5, rObj(2)), obj(2, 0, 0, 6)}, sixRoots(rObj(1)))},
			{"what is left over is no Slot", joined([]int64{65536, to(40)}), joined([]int64{65536*2 + 2, 2, 2, to(s)}, one(3)), []int64{to(s), to(40)}, nil,
				graphOf([]impl.Obj{obj(1, 0, 0, 1), obj(2, 0, 0, 2, rNil, rNil)}, sixRoots(rObj(1), rObj(2)))},
		})
	})
}

// Slots of every Format lead on: it is told what there is, not what is kept.
func TestShownOfEveryFormat(t *testing.T) {
	eachSide(func(side int64) {
		s := 20 * side
		const class, hash = 512, 65536
		below := joined(
			[]int64{3 + 64*0 + 11*class + 21*hash, to(s + 4), to(s + 8), num(1)},
			[]int64{2 + 64*1 + 12*class + 22*hash, to(40), to(s), 0},
			[]int64{1 + 64*2 + 99*class + 65535*hash, to(44)},
		)
		above := joined(
			[]int64{3 + 64*2 + 13*class + 23*hash, to(48), to(s), 2},
			[]int64{0 + 64*1 + 14*class + 24*hash, 9},
			note(44),
			[]int64{0 + 64*0 + 15*class + 25*hash, 9},
		)
		checkShows(t, side, []followCase{{"all three", below, above, []int64{to(s)}, nil, graphOf([]impl.Obj{
			obj(1, 11, impl.FoPlain, 21, rObj(2), rObj(3), rInt(1)),
			obj(2, 12, impl.FoWeak, 22, rObj(4), rObj(1)),
			obj(3, 99, impl.FoEphem, 65535, rObj(5)),
			obj(4, 13, impl.FoEphem, 23, rObj(6), rObj(1), rNil),
			obj(5, 14, impl.FoWeak, 24),
			obj(6, 15, impl.FoPlain, 25),
		}, sixRoots(rObj(1)))}})
	})
}

// Roots, then Mourned, then Slots, Obj by Obj as they were numbered: not all that one leads to ahead of the next.
func TestShownNumbersAsCanon(t *testing.T) {
	eachSide(func(side int64) {
		s := 20 * side
		checkShows(t, side, []followCase{
			{"Slots, one Obj after the other", joined(one(1, to(s+4), to(s+6)), one(2, to(40)), one(3, to(42))), joined(one(4), one(5)), []int64{to(s)}, nil,
				graphOf([]impl.Obj{obj(1, 0, 0, 1, rObj(2), rObj(3)), obj(2, 0, 0, 2, rObj(4)), obj(3, 0, 0, 3, rObj(5)), obj(4, 0, 0, 4), obj(5, 0, 0, 5)}, sixRoots(rObj(1)))},
			{"Roots ahead of Slots", joined(one(1, to(40)), one(2)), joined(one(3)), []int64{to(s), 2, to(s + 2)}, nil,
				graphOf([]impl.Obj{obj(1, 0, 0, 1, rObj(3)), obj(2, 0, 0, 2), obj(3, 0, 0, 3)}, sixRoots(rObj(1), rNil, rObj(2)))},
			{"Mourned ahead of Slots", joined(one(1, to(40)), one(2)), joined(one(3)), []int64{to(s)}, []int64{to(s + 2)},
				graphOf([]impl.Obj{obj(1, 0, 0, 1, rObj(3)), obj(2, 0, 0, 2), obj(3, 0, 0, 3)}, sixRoots(rObj(1)), rObj(2))},
			{"Roots ahead of Mourned", joined(one(1), one(2)), nil, []int64{2, 2, 2, 2, 2, to(s + 2)}, []int64{to(s), to(s + 2)},
				graphOf([]impl.Obj{obj(1, 0, 0, 2), obj(2, 0, 0, 1)}, sixRoots(rNil, rNil, rNil, rNil, rNil, rObj(1)), rObj(2), rObj(1))},
			{"by the object, not by the note", joined(note(42), one(1)), joined(note(s+2), one(2)), []int64{to(40), to(s), to(s + 2), to(42)}, nil,
				graphOf([]impl.Obj{obj(1, 0, 0, 1), obj(2, 0, 0, 2)}, sixRoots(rObj(1), rObj(2), rObj(1), rObj(2)))},
		})
	})
}

func TestShownOverNotes(t *testing.T) {
	eachSide(func(side int64) {
		s := 20 * side
		single := func(roots []impl.Ref, mourned ...impl.Ref) impl.Graph {
			return graphOf([]impl.Obj{obj(1, 0, 0, 8, rInt(3))}, roots, mourned...)
		}
		it := one(8, num(3))
		checkShows(t, side, []followCase{
			{"no note", it, nil, []int64{to(s)}, nil, single(sixRoots(rObj(1)))},
			{"one in the room", joined(it, note(s)), nil, []int64{to(s + 2)}, nil, single(sixRoots(rObj(1)))},
			{"one upstairs", nil, joined(it, note(40)), []int64{to(42)}, nil, single(sixRoots(rObj(1)))},
			{"from upstairs to the room", it, note(s), []int64{to(40)}, nil, single(sixRoots(rObj(1)))},
			{"from the room upstairs", note(40), it, []int64{to(s)}, nil, single(sixRoots(rObj(1)))},
			{"one after the other", joined(note(s+2), note(s+4), it), nil, []int64{to(s), to(s + 2), to(s + 4)}, nil, single(sixRoots(rObj(1), rObj(1), rObj(1)))},
			{"up and down", joined(note(40), note(42), it), joined(note(s+2), note(s+4)), []int64{to(s), 2, to(42)}, []int64{to(s + 2), to(40)}, single(sixRoots(rObj(1), rNil, rObj(1)), rObj(1), rObj(1))},
			{"only Mourned leads to it", joined(note(40)), it, nil, []int64{to(s)}, single(sixRoots(), rObj(1))},
			{"notes that nobody leads to", joined(it, note(s), note(40)), joined(note(s+2), one(9)), []int64{to(s)}, nil, single(sixRoots(rObj(1)))},
			{"an object that leads to its own note", joined(one(8, to(40)), note(s)), note(s + 2), []int64{to(s)}, nil,
				graphOf([]impl.Obj{obj(1, 0, 0, 8, rObj(1))}, sixRoots(rObj(1)))},
			{"two Slots to one, over notes", joined(one(8, to(40), to(42)), note(44)), joined(note(s+4), note(s+4), one(9)), []int64{to(s)}, nil,
				graphOf([]impl.Obj{obj(1, 0, 0, 8, rObj(2), rObj(2)), obj(2, 0, 0, 9)}, sixRoots(rObj(1)))},
			{"a note with Slots of its own", joined([]int64{noteHead + 5 + 512*3 + 65536*4, to(40), to(42), num(1), 0, -9}), joined(it, one(9)), []int64{to(s)}, nil, single(sixRoots(rObj(1)))},
		})
	})
}

// The note's own head has a Hash and a Class, too: they are not those of the object.
func TestRootsAtTheirEdges(t *testing.T) {
	eachSide(func(side int64) {
		s := 20 * side
		head := func(hash, class, format int64) int64 { return 65536*hash + 512*class + 64*format }
		h := heapOf(20, 40, side, []int64{
			head(77, 5, 0), 0,
			head(1111, 12, 7), to(s),
			head(2222, 13, 7), to(42),
			head(0, 0, 0), 0,
		}, []int64{
			head(65535, 99, 1), 0,
			head(3333, 14, 7), to(s + 2),
			pinned + head(4444, 15, 7), to(46),
			pinned + head(600, 6, 2) + 1, to(40),
		})
		rightSeen(&h)
		for _, c := range []struct {
			word, hash, class int64
		}{
			{2, -1, -1}, {num(0), -1, -1}, {num(s), -1, -1}, {num(-1), -1, -1}, {num(100000), -1, -1}, {num(-100000), -1, -1},
			{to(s), 77, 5}, {to(s + 6), 0, 0}, {to(40), 65535, 99}, {to(46), 600, 6},
			{to(s + 2), 77, 5}, {to(44), 600, 6}, {to(42), 77, 5}, {to(s + 4), 77, 5},
		} {
			for root := range int64(6) {
				h.Roots = six()
				h.Roots[root] = c.word
				w := watchHeap(h)
				for asked := int64(-3); asked <= 9; asked++ {
					if asked == root {
						checkRoot(t, w, asked, c.hash, c.class)
					} else {
						checkRoot(t, w, asked, -1, -1)
					}
				}
				h.Roots = slices.Repeat([]int64{c.word}, 6)
				w = watchHeap(h)
				for _, asked := range append([]int64{-1, 6, 7, 40}, someEnds...) {
					checkRoot(t, w, asked, -1, -1)
				}
				checkRoot(t, w, 0, c.hash, c.class)
				checkRoot(t, w, 5, c.hash, c.class)
				checkFollowing(t, h)
			}
		}
	})
}

// straightCase is a heap with halves of 20 words, whose upstairs begins at 40, and what it has once it is Straightened.
type straightCase struct {
	name         string
	below, above []int64
	seen         []int64
	belowThen    []int64
	aboveThen    []int64
	seenThen     []int64
}

func TestStraightenedByHand(t *testing.T) {
	eachSide(func(side int64) {
		s := 20 * side
		for _, c := range []straightCase{
			{"straight already", joined(one(1, to(40))), joined(one(2, to(s))), []int64{40}, joined(one(1, to(40))), joined(one(2, to(s))), []int64{40}},
			{"notes, but nobody leads to them", joined(one(1, to(40)), note(40)), joined(one(2, to(s)), note(s)), []int64{40, 42},
				joined(one(1, to(40)), note(40)), joined(one(2, to(s)), note(s)), []int64{40, 42}},
			{"seen no longer", joined(note(42)), joined(one(1, to(s)), one(2)), []int64{40},
				joined(note(42)), joined(one(1, to(42)), one(2)), nil},
			{"seen only now", joined(one(1)), joined(one(2, to(42)), note(s)), []int64{42},
				joined(one(1)), joined(one(2, to(s)), note(s)), []int64{40, 42}},
			{"one no longer, another now", joined(note(46), one(1)), joined(one(2, to(s)), one(3, to(44)), note(s+2), one(4)), []int64{40, 44},
				joined(note(46), one(1)), joined(one(2, to(46)), one(3, to(s+2)), note(s+2), one(4)), []int64{42, 44}},
			{"seen still, by another Slot", joined(note(44), one(1)), joined(one(2, to(s), to(s+2)), one(3)), []int64{40},
				joined(note(44), one(1)), joined(one(2, to(44), to(s+2)), one(3)), []int64{40}},
			{"notes one after the other stay as they were", joined(note(s+2), note(s+4), one(1, to(s))), joined(note(s), one(2, to(40))), []int64{40},
				joined(note(s+2), note(s+4), one(1, to(s+4))), joined(note(s), one(2, to(s+4))), []int64{40, 42}},
			{"the last of many Slots", joined(one(1, slices.Repeat([]int64{num(1)}, 17)...), note(s)), joined(one(2, append(slices.Repeat([]int64{2}, 19), to(s+18))...)), []int64{40},
				joined(one(1, slices.Repeat([]int64{num(1)}, 17)...), note(s)), joined(one(2, append(slices.Repeat([]int64{2}, 19), to(s))...)), []int64{40}},
			{"what is left over stays", joined([]int64{2, to(s + 4), 2, to(s + 4)}, note(40), []int64{0, to(s + 4)}), joined([]int64{0, to(s + 4)}, free(4, to(s+4))), nil,
				joined([]int64{2, to(40), 2, to(s + 4)}, note(40), []int64{0, to(s + 4)}), joined([]int64{0, to(s + 4)}, free(4, to(s+4))), nil},
			{"what lies behind a note stays", joined([]int64{noteHead + 3, to(40), to(s + 4), to(s)}, note(s)), joined(one(1, to(s+4))), []int64{40},
				joined([]int64{noteHead + 3, to(40), to(s + 4), to(s)}, note(s)), joined(one(1, to(40))), nil},
		} {
			h := heapOf(20, 40, side, c.below, c.above)
			h.Seen = c.seen
			want := heapOf(20, 40, side, c.belowThen, c.aboveThen)
			want.Seen = c.seenThen
			checkBoth(t, c.name, h, true)
			if got := impl.Straightened(h); !sameHeap(got, want) {
				t.Fatalf("%s: Straightened =\n%+v\nwant\n%+v", c.name, got, want)
			}
			checkFollowing(t, h)
			checkFollowing(t, want)
		}
	})
}

// Each Root, each of Mourned, each Slot and each note of what is furnished, with every word that it may be.
func TestFollowingWithOneWordChanged(t *testing.T) {
	eachSide(func(side int64) {
		s := 12 * side
		words := []int64{2, num(0), num(s), num(-100000)}
		for _, at := range rightPlaces(side) {
			words = append(words, to(at))
		}
		places := []func(h *impl.Heap) *int64{}
		for i := range 6 {
			places = append(places, func(h *impl.Heap) *int64 { return &h.Roots[i] })
		}
		for i := range 3 {
			places = append(places, func(h *impl.Heap) *int64 { return &h.Mourned[i] })
		}
		for _, at := range []int64{s + 1, s + 2, s + 5, s + 7, 25, 26, 33, 39, 41, 42, 43, 45} {
			places = append(places, func(h *impl.Heap) *int64 { return &h.Row[at] })
		}
		right := 0
		for _, place := range places {
			for _, word := range words {
				h := furnished(side)
				*place(&h) = word
				rightSeen(&h)
				if wantHeapOk(h) {
					right++
					checkFollowing(t, h)
				} else {
					checkNoFollowing(t, h)
				}
			}
		}
		if right < 200 {
			t.Fatalf("only %d are right", right)
		}
	})
}

// Four notes and two objects, of which all Roots, Mourned and Slots lead to each: each note leads to each of them.
func TestFollowingNotesInEveryWay(t *testing.T) {
	eachSide(func(side int64) {
		s := 14 * side
		places := []int64{s, s + 2, 28, 30, s + 4, 32}
		slots := []int64{to(s), to(s + 2), to(28), to(30), to(32), to(s + 4)}
		right := 0
		eachShortRow(4, places, func(list []int64) {
			below := joined(note(list[0]), note(list[1]), one(11, slots...))
			above := joined(note(list[2]), note(list[3]), one(12, slots...))
			h := heapOf(14, 14, side, below, above)
			h.Roots, h.Mourned = slices.Clone(slots), slices.Clone(slots)
			rightSeen(&h)
			if wantHeapOk(h) {
				right++
				checkFollowing(t, h)
			} else if list[0] == s {
				checkNoFollowing(t, h)
			}
		})
		// So many ways are forests with the two objects as their roots: 2 times 6 to the power of 3.
		if right != 432 {
			t.Fatalf("%d ways are right, want 432", right)
		}
	})
}

// Notes one after the other through all of a heap, whatever their order: all of them lead to the one object.
func TestFollowLongWays(t *testing.T) {
	d := &dice{n: 10}
	for _, c := range [][2]int64{{8, 8}, {10, 30}, {100, 8}, {8, 300}} {
		eachSide(func(side int64) {
			d.eachOrder(pairsOf(c[0], c[1], side), func(places []int64) { checkLongWay(t, c[0], c[1], side, places) })
		})
	}
}

func checkLongWay(t *testing.T, half, old, side int64, places []int64) {
	t.Helper()
	h := heapOf(half, old, side, zeros(int(half)), zeros(int(old)))
	last := len(places) - 1
	for i, at := range places[:last] {
		h.Row[at], h.Row[at+1] = noteHead+int64(i%2), to(places[i+1])
	}
	end := places[last]
	h.Row[end], h.Row[end+1] = 1+512*8+65536*88, to(places[0])
	h.Roots[2], h.Mourned = to(places[0]), []int64{to(places[last/2])}
	rightSeen(&h)
	w := watchHeap(h)
	for _, at := range places {
		checkFollow(t, w, to(at), to(end))
	}
	checkRoot(t, w, 2, 88, 8)
	checkShown(t, w, graphOf([]impl.Obj{obj(1, 8, 0, 88, rObj(1))}, sixRoots(rNil, rNil, rObj(1)), rObj(1)))
	want := clonedHeap(h)
	want.Roots[2], want.Mourned[0], want.Row[end+1] = to(end), to(end), to(end)
	rightSeen(&want)
	checkStraightened(t, w, want)
	checkPromise(t, h)
}

// rowOfObjects is a heap full of objects of two words, of which n are led to, one by the other; all others lead to themselves. The first is led to by the last Root, or by Mourned.
func rowOfObjects(side int64, n int, places []int64, mourned bool) impl.Heap {
	h := heapOf(200, 400, side, zeros(200), zeros(400))
	for i, at := range places {
		next := places[min(i+1, n-1)]
		if i >= n {
			next = at
		}
		h.Row[at], h.Row[at+1] = 1+65536*int64(i), to(next)
	}
	if mourned {
		h.Mourned = []int64{to(places[0])}
	} else {
		h.Roots[5] = to(places[0])
	}
	rightSeen(&h)
	return h
}

func TestShownOfAsManyAsMayBe(t *testing.T) {
	eachSide(func(side int64) {
		for _, n := range []int{1, 2, 199, 200, 201, 202, 299, 300} {
			for order := range 2 {
				places := pairsOf(200, 400, side)
				if order == 1 {
					slices.Reverse(places)
				}
				for _, mourned := range []bool{false, true} {
					h := rowOfObjects(side, n, places, mourned)
					checkBoth(t, "full of objects", h, true)
					g := impl.Shown(h)
					if n > 200 && !sameGraph(g, impl.Graph{}) {
						t.Fatalf("%d objects: Shown is not the zero Graph: %v", n, g)
					}
					if n <= 200 && (len(g.Objs) != n || g.Next != int64(n+1) || !impl.GraphOk(g) || g.Objs[n-1].Hash != int64(n-1)) {
						t.Fatalf("%d objects: Shown %v", n, g)
					}
					checkShown(t, watchHeap(h), wantShown(h))
					// Straight as it is, whether it can be shown or not.
					checkStraightened(t, watchHeap(h), h)
					checkPromise(t, h)
				}
			}
		}
	})
}

// Full of objects, one of which is a note: it does not count, though 201 places are come to.
func TestShownCountsNoNotes(t *testing.T) {
	eachSide(func(side int64) {
		places := pairsOf(200, 400, side)
		for _, n := range []int{201, 202} {
			for _, at := range []int{0, 1, 100, 199} {
				h := rowOfObjects(side, n, places, false)
				h.Row[places[at]] = noteHead
				rightSeen(&h)
				g := impl.Shown(h)
				if got, want := len(g.Objs), 200*(202-n); got != want {
					t.Fatalf("%d places, a note at %d: %d objects are shown, want %d", n, places[at], got, want)
				}
				checkShown(t, watchHeap(h), wantShown(h))
				checkStraightened(t, watchHeap(h), wantStraightened(h))
				checkPromise(t, h)
			}
		}
	})
}

// Wide rather than long: a Root and Mourned lead to nine, whose many Slots lead to all that are in the room, or to all but one.
func TestShownOfManySlots(t *testing.T) {
	eachSide(func(side int64) {
		for _, more := range []int64{0, 1} {
			h := heapOf(200, 400, side, zeros(200), nil)
			above := []int64{}
			for i := range int64(9) {
				slots := int64(11)
				if i == 8 {
					slots += more
				}
				words := []int64{}
				for j := range slots {
					words = append(words, to(200*side+2*(11*i+j)))
				}
				above = joined(above, one(i+1, words...))
			}
			copy(h.Row[400:], above)
			copy(h.Row[400+len(above):], free(400-len(above)))
			list, _ := piecesOf(h)
			h.Roots[0] = to(list[100].at)
			for _, p := range list[101:109] {
				h.Mourned = append(h.Mourned, to(p.at))
			}
			rightSeen(&h)
			checkFollowing(t, h)
			if g := impl.Shown(h); int64(len(g.Objs)) != 9+99+more {
				t.Fatalf("%d objects are shown, want %d", len(g.Objs), 9+99+more)
			}
		}
	})
}

func TestFollowingOfWrongHeaps(t *testing.T) {
	eachSide(func(side int64) {
		s := 12 * side
		for _, spoilt := range []func(h *impl.Heap){
			func(h *impl.Heap) { h.Seen = nil },
			func(h *impl.Heap) { h.Seen = []int64{24, 32, 40} },
			func(h *impl.Heap) { h.Seen = []int64{32, 24} },
			func(h *impl.Heap) { h.Seed = -1 },
			func(h *impl.Heap) { h.Seed = 65536 },
			func(h *impl.Heap) { h.Roots = h.Roots[:5] },
			func(h *impl.Heap) { h.Roots = append(h.Roots, 2) },
			func(h *impl.Heap) { h.Roots = nil },
			func(h *impl.Heap) { h.Roots[5] = 0 },
			func(h *impl.Heap) { h.Roots[0] = to(28) },
			func(h *impl.Heap) { h.Mourned[0] = 2 },
			func(h *impl.Heap) { h.Mourned[0] = num(1) },
			func(h *impl.Heap) { h.Mourned = slices.Repeat([]int64{to(24)}, 41) },
			func(h *impl.Heap) { h.Row[s+1] = to(s + 1) },
			func(h *impl.Heap) { h.Row[39] = to(44) },
			func(h *impl.Heap) { h.Row[39] = to(38) },
			func(h *impl.Heap) { h.Row[39] = 2 },
			func(h *impl.Heap) { h.Row[s+4] += pinned },
			func(h *impl.Heap) { h.Row[24] += marked },
			func(h *impl.Heap) { h.Row[s+9] = 1 },
			func(h *impl.Heap) { h.Row[12-s] = 1 },
			func(h *impl.Heap) { h.Row[49] = 8 },
			func(h *impl.Heap) { h.Top = 7 },
			func(h *impl.Heap) { h.Top = 6 },
			func(h *impl.Heap) { h.Side = 1 - h.Side },
			func(h *impl.Heap) { h.Side = 2 },
			func(h *impl.Heap) { h.Half = 0 },
			func(h *impl.Heap) { h.Half = math.MaxInt64 },
			func(h *impl.Heap) { h.Old = math.MinInt64 },
			func(h *impl.Heap) { h.Row = h.Row[:53] },
			func(h *impl.Heap) { h.Row = nil },
			func(h *impl.Heap) { *h = impl.Heap{} },
			func(h *impl.Heap) { *h = impl.Heap{Roots: six(num(1))} },
		} {
			h := furnished(side)
			spoilt(&h)
			checkBoth(t, "spoilt", h, false)
			checkNoFollowing(t, h)
		}
	})
}

// Right heaps, as they come and with many notes, and the same with something spoilt.
func TestFollowingOfManyHeaps(t *testing.T) {
	d := &dice{n: 1010}
	changed, lost, won, wrong := 0, 0, 0, 0
	for range 1500 {
		h := d.heap(8+2*d.roll(10), 8+2*d.roll(20), d.roll(5))
		checkFollowing(t, h)
		d.noted(&h)
		checkFollowing(t, h)
		straight := impl.Straightened(h)
		if !sameHeap(straight, h) {
			changed++
		}
		if !isWithin(h.Seen, straight.Seen) {
			lost++
		}
		if !isWithin(straight.Seen, h.Seen) {
			won++
		}
		d.spoilHeap(&h)
		if wantHeapOk(h) {
			checkFollowing(t, h)
		} else {
			wrong++
			checkNoFollowing(t, h)
		}
	}
	for _, n := range []int{changed, lost, won, wrong} {
		if n < 100 {
			t.Fatalf("of 1500: %d not straight, %d with places seen no longer, %d with places seen only then, %d wrong", changed, lost, won, wrong)
		}
	}
}

func TestFollowingOfGreatHeaps(t *testing.T) {
	d := &dice{n: 2020}
	for i := range 60 {
		h := d.heap(200, 400, 40)
		if i%2 == 1 {
			d.noted(&h)
		}
		w := watchHeap(h)
		checkShown(t, w, wantShown(h))
		checkStraightened(t, w, wantStraightened(h))
		checkPromise(t, h)
	}
}

// Answers to one heap, one beside the other, have nothing of one another; nor has a heap that is written over afterwards anything of its answers.
func TestFollowingAnswersShareNothing(t *testing.T) {
	eachSide(func(side int64) {
		w := watchHeap(furnished(side))
		calls := []func() []int64{
			func() []int64 { return impl.Straightened(w.heap).Row },
			func() []int64 { return impl.Straightened(w.heap).Roots },
			func() []int64 { return impl.Straightened(w.heap).Mourned },
			func() []int64 { return impl.Straightened(w.heap).Seen },
			func() []int64 { return impl.Straightened(impl.Heap{}).Row },
			func() []int64 { return impl.Objects(w.heap) },
		}
		checkListsApart(t, calls, w.lists...)
		straight, g := impl.Straightened(w.heap), impl.Shown(w.heap)
		wantHeap, wantGraph := wantStraightened(w.was), wantShown(w.was)
		other := impl.Shown(w.heap)
		growAll(other)
		checkApart(t, other)
		w.check(t)
		checkHeapApart(t, w.heap)
		if !sameHeap(straight, wantHeap) || !sameGraph(g, wantGraph) {
			t.Fatalf("the heap, written into, changes an answer: %+v, %v", straight, g)
		}
		// Straight already: the answer is a copy all the same.
		w = watchHeap(wantHeap)
		checkStraightened(t, w, wantHeap)
		checkHeapApart(t, impl.Straightened(w.heap))
		w.check(t)
	})
}
