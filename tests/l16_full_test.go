package tests

import (
	"slices"
	"testing"

	"loop.example/g00337/impl"
)

func TestFullOfNewHeaps(t *testing.T) {
	for _, c := range [][3]int64{{8, 8, 0}, {8, 10, 3}, {200, 400, 65535}, {200, 8, 1}, {8, 400, 77}} {
		h, _ := impl.NewHeap(c[0], c[1], c[2])
		other := clonedHeap(h)
		other.Side = 1
		checkFull(t, watchHeap(h), other)
		checkFull(t, watchHeap(other), h)
		checkFree(t, watchHeap(h), c[1], c[1])
		checkFree(t, watchHeap(other), c[1], c[1])
		checkThrough(t, h)
		checkThrough(t, other)
	}
}

// Of what is furnished all but the notes is led to: who is at 24 is Pinned, who was at 36 is right behind it, who was at 40 next.
func TestFurnishedFullByHand(t *testing.T) {
	eachSide(func(side int64) {
		n := 12 - 12*side
		h := furnished(side)
		want := heapOf(12, 30, 1-side, joined(
			[]int64{2, to(30), to(24), 4},
			[]int64{65 + 512*7 + 65536*9, num(5)},
		), joined(
			[]int64{pinned + 130, to(n), 2, 0},
			[]int64{0, 4},
			[]int64{3, to(n + 4), num(-7), to(28)},
		))
		want.Roots = []int64{to(n), to(24), num(3), 2, to(28), to(30)}
		want.Mourned = []int64{to(24), to(n + 4), to(24)}
		want.Seen = []int64{24, 30}
		checkFull(t, watchHeap(h), want)
		checkFree(t, watchHeap(h), 10, 6)
		checkFree(t, watchHeap(want), 20, 20)
		checkThrough(t, h)
	})
}

// Free chunks upstairs: none, one, several, side by side and apart, and some that take as much as others.
func TestFreeWordsAndBiggestByHand(t *testing.T) {
	a, b := one(1), one(2, num(5), 2)
	twenty := filled(3, 19, 2)
	pairs := []int64{}
	for range 30 {
		pairs = append(pairs, free(2)...)
	}
	for _, c := range []struct {
		name  string
		above []int64
		want  freeRoom
	}{
		{"all of it one", free(60), freeRoom{60, 60}},
		{"all of it one, with something in it", free(60, freeHead, 58, 4, -1), freeRoom{60, 60}},
		{"all of it, side by side", joined(free(2), free(4), free(54)), freeRoom{60, 54}},
		{"all of it, the biggest first", joined(free(54), free(2), free(4)), freeRoom{60, 54}},
		{"all of it, the biggest between", joined(free(2), free(54), free(4)), freeRoom{60, 54}},
		{"all of it, in pairs", pairs, freeRoom{60, 2}},
		{"all of it, two halves", joined(free(30), free(30)), freeRoom{60, 30}},
		{"nothing", joined(twenty, twenty, twenty), freeRoom{0, 0}},
		{"nothing, and Pinned", joined(nailed(twenty), twenty, nailed(twenty)), freeRoom{0, 0}},
		{"nothing, small ones", slices.Repeat(a, 30), freeRoom{0, 0}},
		{"two words, the first", joined(free(2), twenty, twenty, filled(4, 17, 2)), freeRoom{2, 2}},
		{"two words, between", joined(twenty, free(2), twenty, filled(4, 17, 2)), freeRoom{2, 2}},
		{"two words, the last", joined(twenty, twenty, filled(4, 17, 2), free(2)), freeRoom{2, 2}},
		{"all but an object", a, freeRoom{58, 58}},
		{"all but an object between", joined(free(20), a), freeRoom{58, 38}},
		{"all but an object at the end", joined(free(58), a), freeRoom{58, 58}},
		{"apart, the biggest first", joined(free(32), a, free(10), b, free(12)), freeRoom{54, 32}},
		{"apart, the biggest between", joined(free(10), a, free(32), b, free(12)), freeRoom{54, 32}},
		{"apart, the biggest last", joined(free(10), a, free(12), b), freeRoom{54, 32}},
		{"several take as much", joined(free(18), a, free(18), b, free(18)), freeRoom{54, 18}},
		{"several take as much, and less", joined(free(4), free(24), a, free(2), b, free(24)), freeRoom{54, 24}},
		{"several take as much, side by side", joined(a, b, free(18), free(18), free(18)), freeRoom{54, 18}},
		{"side by side and apart", joined(a, free(2), free(6), b, free(4), free(4), a, nailed(a), free(6), free(28)), freeRoom{50, 28}},
		{"what is left over is a head", joined([]int64{0, freeHead}, []int64{2, 2, 2, freeHead}, free(4)), freeRoom{54, 50}},
		{"what lies behind a note is a head", joined([]int64{noteHead + 3, to(52), freeHead, 2}, a), freeRoom{54, 54}},
		{"a number that is a head and a size", joined(one(1, freeHead+1), one(2, num(freeHead), num(20), num(2))), freeRoom{54, 54}},
	} {
		eachRoom(func(side, s, n int64) {
			// The room, its other half, and all that is 0 there are not free.
			for _, below := range [][]int64{nil, a, zeros(24), filled(9, 19, 2)} {
				h := layout{below: below, above: c.above}.heap(side)
				checkBoth(t, c.name, h, true)
				checkFree(t, watchHeap(h), c.want.words, c.want.most)
				checkThrough(t, h)
			}
		})
	}
}

// Free chunks of each size, alone or two of them, wherever they lie: nothing is of Marks, so all is free after it.
func TestFreeWordsAndBiggestOfEachSize(t *testing.T) {
	for first := 0; first <= 60; first += 2 {
		for second := 0; first+second <= 60; second += 2 {
			above := slices.Repeat(one(7), (60-first-second)/2)
			cut := len(above) / 4 * 2
			pieces := [][]int64{}
			for _, size := range []int{first, second} {
				pieces = append(pieces, nil)
				if size > 0 {
					pieces[len(pieces)-1] = free(size)
				}
			}
			for _, row := range [][]int64{joined(pieces[0], above, pieces[1]), joined(above[:cut], pieces[0], above[cut:], pieces[1]), joined(above[:cut], pieces[0], pieces[1], above[cut:])} {
				h := layout{above: row}.heap(int64(first / 2 % 2))
				checkFree(t, watchHeap(h), int64(first+second), int64(max(first, second)))
				if made := impl.Full(h); impl.FreeWords(made) != 60 || impl.Biggest(made) != 60 {
					t.Fatalf("%+v\nFull has %d words free, one takes %d", h, impl.FreeWords(made), impl.Biggest(made))
				}
			}
		}
	}
}

// All rows of up to six free chunks, objects, Pinned ones and notes.
func TestFreeWordsAndBiggestOfEveryRow(t *testing.T) {
	pieces := [][]int64{free(2), free(4, 9), free(10), one(1), nailed(one(2, 2, 2)), note(16)}
	for n := range 7 {
		eachRowOf(n, pieces, func(row []int64) {
			h := heapOf(8, max(8, int64(len(row)))+2, int64(n%2), nil, joined(one(3), row))
			if words, most := impl.FreeWords(h), impl.Biggest(h); words != freeWordsOf(h) || most != biggestOf(h) {
				t.Fatalf("%+v\nFreeWords %d, Biggest %d, want %d, %d", h, words, most, freeWordsOf(h), biggestOf(h))
			}
		})
	}
}

func TestFullWithNothingUpstairs(t *testing.T) {
	eachRoom(func(side, s, n int64) {
		all := freeRoom{60, 60}
		both := joined(one(1, to(s), num(3)), one(2))
		checkFullCases(t, side, []fullCase{
			{"nothing at all", layout{}, layout{}, nil, all, all},
			{"numbers", layout{roots: []int64{num(48), 2, num(0), num(-100000), num(100000), num(s)}}, layout{roots: []int64{num(48), 2, num(0), num(-100000), num(100000), num(s)}}, nil, all, all},
			{"all of the room is wanted", layout{below: both, roots: []int64{to(s + 4), to(s)}}, layout{below: joined(one(2), one(1, to(n+2), num(3))), roots: []int64{to(n), to(n + 2)}}, nil, all, all},
			{"one of two is", layout{below: both, roots: []int64{2, to(s)}}, layout{below: one(1, to(n), num(3)), roots: []int64{2, to(n)}}, nil, all, all},
			{"the other one", layout{below: both, mourned: []int64{to(s + 4), to(s + 4)}}, layout{below: one(2), mourned: []int64{to(n), to(n)}}, nil, all, all},
			{"neither is", layout{below: both, roots: []int64{num(s)}}, layout{roots: []int64{num(s)}}, nil, all, all},
			{"a full room", layout{below: joined(filled(1, 20, to(s+22)), one(2, to(s))), roots: []int64{to(s)}}, layout{below: joined(filled(1, 20, to(n+22)), one(2, to(n))), roots: []int64{to(n)}}, nil, all, all},
			{"a full room that nobody wants", layout{below: joined(filled(1, 20, to(s+22)), one(2, to(s)))}, layout{}, nil, all, all},
			{"free chunks that meet", layout{below: one(1), above: joined(free(20, 9, 9), free(2), free(38, 7)), roots: []int64{to(s)}}, layout{below: one(1), roots: []int64{to(n)}}, nil, freeRoom{60, 38}, all},
			{"one free chunk with something in it", layout{above: free(60, 4, 8, -1)}, layout{}, nil, all, all},
		})
	})
}

// All words are taken by objects of two words, each of which leads to the next in this order: once through, those upstairs lie where they were, and nothing is free; where nobody leads to any, all is.
func TestFullWithNothingFree(t *testing.T) {
	d := &dice{n: 16}
	for _, c := range [][2]int64{{8, 8}, {10, 30}, {100, 8}, {8, 300}, {200, 400}} {
		eachSide(func(side int64) {
			d.eachOrder(pairsOf(c[0], c[1], side), func(places []int64) {
				h := fullHouse(c[0], c[1], side, places)
				checkFree(t, watchHeap(h), 0, 0)
				none := heapOf(c[0], c[1], 1-side, nil, nil)
				checkFull(t, watchHeap(h), none)
				checkFree(t, watchHeap(none), c[1], c[1])
				h.Roots[5] = to(places[len(places)/2])
				checkFull(t, watchHeap(h), wantScavenged(h))
				made := impl.Full(h)
				checkFree(t, watchHeap(made), 0, 0)
				if made.Top != h.Top || len(impl.Objects(made)) != len(places) {
					t.Fatalf("%+v\nFull\n%+v", h, made)
				}
				if c[0]+c[1] < 200 {
					checkThrough(t, h)
				}
			})
		})
	}
}

// Notes in the room and upstairs, one after the other, to which Roots, Mourned and Slots lead, or nobody: all of them are gone, and all words lead to where the objects are.
func TestFullWithNotes(t *testing.T) {
	eachRoom(func(side, s, n int64) {
		all, one58 := freeRoom{60, 60}, freeRoom{58, 58}
		long := []int64{noteHead + 3 + 512*9 + 65536*7, to(54), 9, -9}
		checkFullCases(t, side, []fullCase{
			{"a note in the room", layout{below: note(54), above: joined(free(6), one(1)), roots: []int64{to(s)}}, layout{above: one(1), roots: []int64{to(48)}}, nil, freeRoom{58, 52}, one58},
			{"with Slots and more in its head", layout{below: long, above: joined(free(6), one(1)), roots: []int64{to(s)}}, layout{above: one(1), roots: []int64{to(48)}}, nil, freeRoom{58, 52}, one58},
			{"the same upstairs", layout{above: joined(long, free(2), one(1)), mourned: []int64{to(48)}}, layout{above: one(1), mourned: []int64{to(48)}}, nil, freeRoom{54, 52}, one58},
			{"a note that nobody leads to", layout{below: note(48), above: joined(one(1), note(s))}, layout{}, nil, freeRoom{56, 56}, all},
			{"a note upstairs that leads below", layout{below: one(1), above: joined(note(s), one(2, to(48))), roots: []int64{to(50)}}, layout{below: one(1), above: one(2, to(n)), roots: []int64{to(48)}}, []int64{48}, freeRoom{56, 56}, one58},
			{"a note in the room that leads to one beside it", layout{below: joined(note(s+2), one(1, to(s))), roots: []int64{to(s)}, mourned: []int64{to(s + 2)}}, layout{below: one(1, to(n)), roots: []int64{to(n)}, mourned: []int64{to(n)}}, nil, all, all},
			{"one after the other, in the room", layout{below: joined(note(s+2), note(s+4), note(s+6), one(1)), roots: []int64{to(s), to(s + 4)}}, layout{below: one(1), roots: []int64{to(n), to(n)}}, nil, all, all},
			{"one after the other, upstairs", layout{above: joined(note(50), note(52), one(1, to(48)), note(48)), roots: []int64{to(54)}, mourned: []int64{to(50)}}, layout{above: one(1, to(48)), roots: []int64{to(48)}, mourned: []int64{to(48)}}, nil, freeRoom{52, 52}, one58},
			{"one after the other, by turns", layout{below: joined(note(48), one(1, to(s)), note(50)), above: joined(note(s+4), note(s+2)), roots: []int64{to(s)}}, layout{below: one(1, to(n)), roots: []int64{to(n)}}, nil, freeRoom{56, 56}, all},
			{"a Pinned note", layout{above: joined(free(4), nailed([]int64{noteHead + 4, to(58), 3, 3, 3, 3}), one(1)), roots: []int64{to(52)}}, layout{above: one(1), roots: []int64{to(48)}}, nil, freeRoom{52, 48}, one58},
			{"a note that leads to a Pinned one", layout{below: note(54), above: joined(note(s), free(4), nailed(one(1, to(48)))), roots: []int64{to(s)}, mourned: []int64{to(48)}}, layout{above: joined(free(6), nailed(one(1, to(54)))), roots: []int64{to(54)}, mourned: []int64{to(54)}}, nil, freeRoom{56, 52}, freeRoom{58, 52}},
			{"two notes that lead to one", layout{below: joined(note(s+4), note(s+4), one(1, to(s), to(s+2), to(s+4))), roots: []int64{to(s), to(s + 2), to(s + 4)}}, layout{below: one(1, to(n), to(n), to(n)), roots: []int64{to(n), to(n), to(n)}}, nil, all, all},
			{"who is Seen by a note alone is Seen no more", layout{below: note(50), above: joined(one(1, to(s)), one(2)), roots: []int64{to(48)}}, layout{above: joined(one(1, to(50)), one(2)), roots: []int64{to(48)}}, nil, freeRoom{56, 56}, freeRoom{56, 56}},
			{"who is Seen over a note upstairs", layout{below: one(3), above: joined(note(s), one(1, to(48)), one(2)), roots: []int64{to(50)}}, layout{below: one(3), above: one(1, to(n)), roots: []int64{to(48)}}, []int64{48}, freeRoom{54, 54}, one58},
		})
	})
}

// FoEphem ones that grieve are FoPlain and in Mourned then, with all that they lead to; those that do not are as they were.
func TestFullOfEphemOnes(t *testing.T) {
	eachRoom(func(side, s, n int64) {
		all, one58 := freeRoom{60, 60}, freeRoom{58, 58}
		from := []int64{to(s)}
		checkFullCases(t, side, []fullCase{
			{"one that grieves", layout{below: joined(ephemOne(1, to(s+4), 2), one(2)), roots: from}, layout{below: joined(one(1, to(n+4), 2), one(2)), roots: []int64{to(n)}, mourned: []int64{to(n)}}, nil, all, all},
			{"one that grieves, and what it leads to", layout{below: joined(one(9), ephemOne(1, to(48), to(s+6)), one(2)), above: joined(one(8), one(3)), roots: []int64{2, to(s + 2)}}, layout{below: joined(one(1, to(48), to(n+4)), one(2)), above: one(8), roots: []int64{2, to(n)}, mourned: []int64{to(n)}}, nil, freeRoom{56, 56}, one58},
			{"one whom only another one leads to is mourned, too, and kept", layout{below: joined(ephemOne(1, to(s+4), to(s+6)), one(2), ephemOne(3, to(s+8)), one(4)), roots: from}, layout{below: joined(one(1, to(n+6), to(n+4)), one(3, to(n+8)), one(2), one(4)), roots: []int64{to(n)}, mourned: []int64{to(n), to(n + 4)}}, nil, all, all},
			{"one whom another one waits for is mourned, too, and kept", layout{below: joined(one(4), ephemOne(3, to(s)), ephemOne(1, to(s+2))), roots: []int64{to(s + 4)}}, layout{below: joined(one(1, to(n+2)), one(3, to(n+4)), one(4)), roots: []int64{to(n)}, mourned: []int64{to(n), to(n + 2)}}, nil, all, all},
			{"upstairs, for one below", layout{below: joined(one(9), one(2)), above: joined(free(2), ephemOne(1, to(s+2)), one(8)), roots: []int64{to(50)}}, layout{below: one(2), above: one(1, to(n)), roots: []int64{to(48)}, mourned: []int64{to(48)}}, []int64{48}, freeRoom{56, 54}, one58},
			{"upstairs, for one beside it", layout{above: joined(free(2), ephemOne(1, to(54)), free(2), one(2)), mourned: []int64{to(50)}}, layout{above: joined(one(1, to(50)), one(2)), mourned: []int64{to(48), to(48)}}, nil, freeRoom{56, 52}, freeRoom{56, 56}},
			{"a Pinned one", layout{above: joined(free(2), nailed(ephemOne(1, to(54))), free(2), one(2)), roots: []int64{to(50)}}, layout{above: joined(free(2), nailed(one(1, to(52))), one(2)), roots: []int64{to(50)}, mourned: []int64{to(50)}}, nil, freeRoom{56, 52}, freeRoom{56, 54}},
			{"over notes", layout{below: joined(ephemOne(1, to(48), to(s+4)), note(s)), above: joined(note(52), note(s+4), one(2)), roots: []int64{to(50)}}, layout{below: one(1, to(48), to(n)), above: one(2), roots: []int64{to(n)}, mourned: []int64{to(n)}}, nil, freeRoom{54, 54}, one58},
			{"by Hash, not as they lie", layout{below: joined(ephemOne(7, to(48)), ephemOne(5, to(48)), ephemOne(6, to(48))), above: joined(one(9), one(8)), roots: []int64{to(s), to(s + 2), to(s + 4)}}, layout{below: joined(one(7, to(48)), one(5, to(48)), one(6, to(48))), above: one(9), roots: []int64{to(n), to(n + 2), to(n + 4)}, mourned: []int64{to(n + 2), to(n + 4), to(n)}}, nil, freeRoom{56, 56}, one58},
			{"one that waits for one that is wanted", layout{below: joined(ephemOne(1, to(s+4), to(s+6)), one(2), one(3)), roots: []int64{to(s), 2, to(s + 4)}}, layout{below: joined(ephemOne(1, to(n+4), to(n+6)), one(2), one(3)), roots: []int64{to(n), 2, to(n + 4)}}, nil, all, all},
			{"one that waits for itself", layout{below: ephemOne(1, to(s)), roots: from}, layout{below: ephemOne(1, to(n)), roots: []int64{to(n)}}, nil, all, all},
			{"one that waits for itself over a note", layout{below: ephemOne(1, to(48), to(48)), above: note(s), roots: from}, layout{below: ephemOne(1, to(n), to(n)), roots: []int64{to(n)}}, nil, one58, all},
			{"one that waits for nobody", layout{below: joined(ephemOne(1, num(5), to(s+4)), one(2)), roots: from}, layout{below: joined(ephemOne(1, num(5), to(n+4)), one(2)), roots: []int64{to(n)}}, nil, all, all},
			{"one that nobody leads to", layout{below: joined(ephemOne(1, to(s+4), to(48)), one(2)), above: one(3)}, layout{}, nil, one58, all},
			{"one that only a FoWeak one leads to", layout{below: joined(weakOne(3, to(s+2)), ephemOne(1, to(s+4)), one(2)), roots: from}, layout{below: weakOne(3, 2), roots: []int64{to(n)}}, nil, all, all},
			{"for one another, one led to", layout{below: joined(ephemOne(1, to(s+2)), ephemOne(2, to(s))), roots: from}, layout{below: joined(one(1, to(n+2)), ephemOne(2, to(n))), roots: []int64{to(n)}, mourned: []int64{to(n)}}, nil, all, all},
		})
	})
}

// Where Mourned has no room left, those that grieve become FoPlain all the same.
func TestFullAsFarAsMournedHasRoom(t *testing.T) {
	eachRoom(func(side, s, n int64) {
		below := joined(ephemOne(4, to(50)), ephemOne(3, to(50)), ephemOne(2, to(50)), one(9))
		then := joined(one(4, to(50)), one(3, to(50)), one(2, to(50)))
		for was := 36; was <= 40; was++ {
			full := slices.Repeat([]int64{to(48)}, was)
			mourned := joined(full, []int64{to(n + 4), to(n + 2), to(n)})
			mourned = mourned[:min(40, len(mourned))]
			checkFullCases(t, side, []fullCase{
				{"three grieve", layout{below: below, above: joined(one(1), one(5), one(6)), roots: []int64{to(s), to(s + 2), to(s + 4)}, mourned: full}, layout{below: then, above: joined(one(1), one(5)), roots: []int64{to(n), to(n + 2), to(n + 4)}, mourned: mourned}, nil, freeRoom{54, 54}, freeRoom{56, 56}},
			})
		}
	})
}

// FoWeak ones let go of what nobody else keeps, and hold what is kept wherever it is then.
func TestFullOfWeakOnes(t *testing.T) {
	eachRoom(func(side, s, n int64) {
		all, one58 := freeRoom{60, 60}, freeRoom{58, 58}
		checkFullCases(t, side, []fullCase{
			{"one in the room lets go", layout{below: joined(weakOne(1, to(s+2)), one(2)), roots: []int64{to(s)}}, layout{below: weakOne(1, 2), roots: []int64{to(n)}}, nil, all, all},
			{"one upstairs lets go of one below, and is Seen no more", layout{below: one(2), above: weakOne(1, to(s)), roots: []int64{to(48)}}, layout{above: weakOne(1, 2), roots: []int64{to(48)}}, nil, one58, one58},
			{"of one upstairs", layout{below: weakOne(1, to(48), num(48)), above: one(2), mourned: []int64{to(s)}}, layout{below: weakOne(1, 2, num(48)), mourned: []int64{to(n)}}, nil, one58, all},
			{"of one of three", layout{below: joined(one(3), weakOne(1, to(s), to(48), to(50))), above: joined(one(2), one(4)), roots: []int64{to(s + 2), to(s), to(50)}}, layout{below: joined(weakOne(1, to(n+4), 2, to(48)), one(3)), above: one(4), roots: []int64{to(n), to(n + 4), to(48)}}, nil, freeRoom{56, 56}, one58},
			{"of a Pinned one", layout{above: joined(nailed(one(2)), weakOne(1, to(48))), roots: []int64{to(50)}}, layout{above: weakOne(1, 2), roots: []int64{to(48)}}, nil, freeRoom{56, 56}, one58},
			{"a Pinned one lets go", layout{above: joined(one(2), nailed(weakOne(1, to(48)))), roots: []int64{to(50)}}, layout{above: joined(free(2), nailed(weakOne(1, 2))), roots: []int64{to(50)}}, nil, freeRoom{56, 56}, freeRoom{58, 56}},
			{"over a note", layout{below: joined(weakOne(1, to(48), to(50)), one(2), one(3)), above: joined(note(s+4), note(s+6)), roots: []int64{to(s), to(s + 6)}}, layout{below: joined(weakOne(1, 2, to(n+4)), one(3)), roots: []int64{to(n), to(n + 4)}}, nil, freeRoom{56, 56}, all},
			{"it holds itself", layout{below: weakOne(1, to(s), to(s)), roots: []int64{to(s)}}, layout{below: weakOne(1, to(n), to(n)), roots: []int64{to(n)}}, nil, all, all},
			{"it holds what one that grieved keeps", layout{below: joined(ephemOne(1, to(s+4), 2), one(2), weakOne(3, to(s+4))), roots: []int64{to(s), to(s + 6)}}, layout{below: joined(one(1, to(n+6), 2), weakOne(3, to(n+6)), one(2)), roots: []int64{to(n), to(n + 4)}, mourned: []int64{to(n)}}, nil, all, all},
			{"it holds what one that does not grieve keeps", layout{below: joined(ephemOne(1, to(s+6), to(s+4)), one(2), weakOne(3, to(s+4))), roots: []int64{to(s), to(s + 6)}}, layout{below: joined(ephemOne(1, to(n+4), to(n+6)), weakOne(3, to(n+6)), one(2)), roots: []int64{to(n), to(n + 4)}}, nil, all, all},
			{"nobody leads to it, nor to what it holds", layout{below: joined(weakOne(1, to(48)), one(2)), above: joined(one(3), weakOne(4, to(s)))}, layout{}, nil, freeRoom{56, 56}, all},
			{"nobody leads to it, but to what it holds", layout{below: weakOne(1, to(48)), above: joined(one(3), weakOne(4, to(48))), roots: []int64{to(48)}}, layout{above: one(3), roots: []int64{to(48)}}, nil, freeRoom{56, 56}, one58},
		})
	})
}

// Garbage in the room and upstairs, Pinned or not, whomever it leads to: all of it is gone, and nothing is kept by it.
func TestFullOfGarbage(t *testing.T) {
	eachRoom(func(side, s, n int64) {
		all, one58 := freeRoom{60, 60}, freeRoom{58, 58}
		checkFullCases(t, side, []fullCase{
			{"in the room", layout{below: joined(one(1, to(s+6)), one(2, to(48)), one(3), one(4)), above: one(5), roots: []int64{to(s + 4)}}, layout{below: one(3), roots: []int64{to(n)}}, nil, one58, all},
			{"upstairs", layout{above: joined(one(1, to(54)), one(2), one(3), one(4)), roots: []int64{to(52)}}, layout{above: one(3), roots: []int64{to(48)}}, nil, freeRoom{52, 52}, one58},
			{"one upstairs that knows one below keeps nobody", layout{below: joined(one(1), one(2, to(s))), above: joined(one(3, to(s+2)), one(4)), roots: []int64{to(50)}}, layout{above: one(4), roots: []int64{to(48)}}, nil, freeRoom{56, 56}, one58},
			{"one upstairs that knows one below that is wanted", layout{below: joined(one(1), one(2)), above: joined(one(3, to(s+2)), one(4, to(s))), roots: []int64{to(50)}}, layout{below: one(1), above: one(4, to(n)), roots: []int64{to(48)}}, []int64{48}, freeRoom{56, 56}, one58},
			{"Pinned, at the beginning", layout{above: joined(nailed(one(1, to(50))), one(2)), roots: []int64{to(50)}}, layout{above: one(2), roots: []int64{to(48)}}, nil, freeRoom{56, 56}, one58},
			{"Pinned, between", layout{above: joined(one(2), nailed(one(1, to(48), 2)), one(3, to(48))), roots: []int64{to(54)}}, layout{above: joined(one(2), one(3, to(48))), roots: []int64{to(50)}}, nil, freeRoom{52, 52}, freeRoom{56, 56}},
			{"Pinned, at the end", layout{above: joined(one(2), free(56), nailed(one(1))), roots: []int64{to(48)}}, layout{above: one(2), roots: []int64{to(48)}}, nil, freeRoom{56, 56}, one58},
			{"Pinned, and it knows one below", layout{below: joined(one(1), one(2)), above: joined(free(2), nailed(one(3, to(s)))), mourned: []int64{to(s + 2)}}, layout{below: one(2), mourned: []int64{to(n)}}, nil, freeRoom{58, 56}, all},
			{"all of it Pinned", layout{above: joined(nailed(filled(1, 19, 2)), nailed(filled(2, 19, to(48))), nailed(filled(3, 19, 2)))}, layout{}, nil, freeRoom{0, 0}, all},
			{"a ring through the house", layout{below: one(1, to(48)), above: joined(one(2, to(50)), one(3, to(s)))}, layout{}, nil, freeRoom{56, 56}, all},
			{"a ring that is wanted", layout{below: joined(one(9), one(1, to(50))), above: joined(one(8), one(2, to(54)), one(7), one(3, to(s+2))), roots: []int64{2, 2, to(54)}}, layout{below: one(1, to(48)), above: joined(one(2, to(50)), one(3, to(n))), roots: []int64{2, 2, to(50)}}, []int64{50}, freeRoom{52, 52}, freeRoom{56, 56}},
			{"with 20 Slots", layout{below: filled(1, 20, to(48)), above: joined(filled(2, 20, to(s)), nailed(filled(3, 20, to(48))), one(4)), roots: []int64{to(92)}}, layout{above: one(4), roots: []int64{to(48)}}, nil, freeRoom{14, 14}, one58},
			{"every second one", layout{below: joined(one(1), one(2, to(s+6)), one(3), one(4, to(50))), above: joined(one(5), one(6, to(54)), free(2), one(7), free(4), one(8)), roots: []int64{to(s + 2)}}, layout{below: joined(one(2, to(n+2)), one(4, to(48))), above: joined(one(6, to(50)), one(7)), roots: []int64{to(n)}}, nil, freeRoom{52, 46}, freeRoom{56, 56}},
			{"numbers that are places keep nobody", layout{below: one(1), above: joined(one(2), one(3, num(48), num(s))), roots: []int64{num(48), to(50), num(s)}}, layout{above: one(3, num(48), num(s)), roots: []int64{num(48), to(48), num(s)}}, nil, freeRoom{54, 54}, freeRoom{56, 56}},
			{"what is left over keeps nobody", layout{below: []int64{2, 2, num(1), to(48)}, above: joined(one(1), []int64{0, to(48)}), roots: []int64{to(s), to(50)}}, layout{below: []int64{2, 2, num(1), to(48)}, above: []int64{0, to(48)}, roots: []int64{to(n), to(48)}}, nil, freeRoom{56, 56}, one58},
		})
	})
}

// Pinned ones of Marks at the beginning, between and at the end of upstairs are where they were, and lead to the same objects wherever those are.
func TestFullOfPinnedOnes(t *testing.T) {
	eachRoom(func(side, s, n int64) {
		checkFullCases(t, side, []fullCase{
			{"at the beginning", layout{below: joined(one(9), one(1)), above: joined(nailed(one(2, to(s+2), to(56), num(7))), free(4), one(3, to(48))), roots: []int64{to(48)}}, layout{below: one(1), above: joined(nailed(one(2, to(n), to(52), num(7))), one(3, to(48))), roots: []int64{to(48)}}, []int64{48}, freeRoom{54, 50}, freeRoom{54, 54}},
			{"between", layout{below: joined(one(9), one(1)), above: joined(one(8), one(3, to(56)), free(4), nailed(one(2, to(s+2), to(50), num(7))), one(7), one(4, to(50))), roots: []int64{to(56), to(62)}}, layout{below: one(1), above: joined(one(3, to(56)), free(6), nailed(one(2, to(n), to(48), num(7))), one(4, to(48))), roots: []int64{to(56), to(60)}}, []int64{56}, freeRoom{48, 44}, freeRoom{52, 46}},
			{"at the end", layout{below: one(1, to(106)), above: joined(free(2), one(3), free(54), nailed(one(2, to(50)))), roots: []int64{2, to(s)}}, layout{below: one(1, to(106)), above: joined(one(3), free(56), nailed(one(2, to(48)))), roots: []int64{2, to(n)}}, nil, freeRoom{56, 54}, freeRoom{56, 56}},
			{"at each of these", layout{above: joined(nailed(one(1, to(78))), one(9), one(2), free(20), free(4), nailed(one(3, to(106))), one(8), one(4), free(22), nailed(one(5, to(48)))), roots: []int64{to(52), to(48), to(82)}}, layout{above: joined(nailed(one(1, to(78))), one(2), free(26), nailed(one(3, to(106))), one(4), free(24), nailed(one(5, to(48)))), roots: []int64{to(50), to(48), to(80)}}, nil, freeRoom{46, 22}, freeRoom{50, 26}},
			{"side by side", layout{above: joined(free(2), one(9), nailed(one(1, to(54))), nailed(one(2, to(56))), nailed(one(3, to(52)))), mourned: []int64{to(56)}}, layout{above: joined(free(4), nailed(one(1, to(54))), nailed(one(2, to(56))), nailed(one(3, to(52)))), mourned: []int64{to(56)}}, nil, freeRoom{52, 50}, freeRoom{54, 50}},
			{"one of two is wanted", layout{above: joined(nailed(one(1, to(50))), nailed(one(2)), one(3)), roots: []int64{to(50), to(52)}}, layout{above: joined(free(2), nailed(one(2)), one(3)), roots: []int64{to(50), to(52)}}, nil, freeRoom{54, 54}, freeRoom{56, 54}},
			{"the other one of two is", layout{above: joined(nailed(one(1, to(52))), nailed(one(2)), one(3)), roots: []int64{to(48)}}, layout{above: joined(nailed(one(1, to(50))), one(3)), roots: []int64{to(48)}}, nil, freeRoom{54, 54}, freeRoom{56, 56}},
			{"it holds all upstairs", layout{below: one(1, to(48)), above: joined(nailed(filled(2, 19, to(s))), nailed(filled(3, 19, to(48))), nailed(filled(4, 19, to(68)))), roots: []int64{to(88)}}, layout{below: one(1, to(48)), above: joined(nailed(filled(2, 19, to(n))), nailed(filled(3, 19, to(48))), nailed(filled(4, 19, to(68)))), roots: []int64{to(88)}}, []int64{48}, freeRoom{0, 0}, freeRoom{0, 0}},
			{"over notes", layout{below: joined(note(s+2), one(1)), above: joined(note(s), note(52), nailed(one(2, to(48), to(50), to(s)))), roots: []int64{to(50)}}, layout{below: one(1), above: joined(free(4), nailed(one(2, to(n), to(52), to(n)))), roots: []int64{to(52)}}, []int64{52}, freeRoom{52, 52}, freeRoom{56, 52}},
			{"FoWeak, FoEphem and with a Class", layout{below: one(1), above: joined(free(2), nailed(weakOne(2, to(s), to(54))), nailed([]int64{129 + 512*99 + 65536*65535, to(50)}), one(9)), roots: []int64{to(50), to(54)}}, layout{above: joined(free(2), nailed(weakOne(2, 2, to(54))), nailed([]int64{129 + 512*99 + 65536*65535, to(50)})), roots: []int64{to(50), to(54)}}, nil, freeRoom{52, 50}, freeRoom{54, 52}},
		})
	})
}

// A Pinned one at each place, with each number of Slots, between two others that are wanted or not.
func TestFullOfPinnedOnesAtEachPlace(t *testing.T) {
	for slots := range int64(21) {
		for ahead := 0; ahead <= 36; ahead += 4 {
			eachRoom(func(side, s, n int64) {
				at := int64(48 + ahead)
				words, then := []int64{}, []int64{}
				for i := range slots {
					kinds := [][2]int64{{to(s + 2), to(n)}, {to(at), to(at)}, {num(at), num(at)}, {2, 2}}
					words, then = append(words, kinds[i%4][0]), append(then, kinds[i%4][1])
				}
				body, stays := nailed(one(7, words...)), nailed(one(7, then...))
				gone := slices.Repeat(one(8, to(s)), ahead/2)
				empty, below := []int64{}, one(1, to(at))
				if ahead > 0 {
					empty = free(ahead)
				}
				seen := []int64{}
				if slots > 0 {
					seen = append(seen, at)
				}
				left := int64(60 - len(body))
				checkFullCases(t, side, []fullCase{
					{"all ahead is Garbage", layout{below: joined(one(9), below), above: joined(gone, body), roots: []int64{to(s + 2), to(at)}}, layout{below: below, above: joined(empty, stays), roots: []int64{to(n), to(at)}}, seen, freeRoom{left - int64(ahead), left - int64(ahead)}, freeRoom{left, max(int64(ahead), left-int64(ahead))}},
				})
			})
		}
	}
}

// All rows of up to four free chunks, objects, Pinned ones and notes upstairs, with words by dice that often lead over notes.
func TestFullOfEveryRow(t *testing.T) {
	d := &dice{n: 161}
	pieces := [][]int64{free(2), free(6, 7), one(1, 2), weakOne(2, 2, 2), nailed(one(3, 2)), ephemOne(4, 2, 2), {noteHead + 2, 4, 4, 4}}
	mourned, pushed := 0, 0
	for n := range 5 {
		eachRowOf(n, pieces, func(row []int64) {
			side := d.roll(2)
			h := heapOf(14, max(8, int64(len(row))), side, joined(one(5, 2, 2), note(14*side), weakOne(6, 2), ephemOne(7, 2, 2)), row)
			d.furnishWords(&h)
			for i := range h.Roots {
				if int64(i) > d.roll(3) {
					h.Roots[i] = 2
				}
			}
			d.detours(&h)
			checkThrough(t, h)
			made := impl.Full(h)
			mourned += len(made.Mourned)
			if impl.Biggest(made) > impl.Biggest(h) {
				pushed++
			}
		})
	}
	if mourned < 500 || pushed < 1000 {
		t.Fatalf("these rows tell too little: %d are mourned, in %d there is more room", mourned, pushed)
	}
}

// All graphs of two Objs with up to two Slots, laid out by turns in each way: what is Shown is Collected.
func TestFullOfAllSmallGraphs(t *testing.T) {
	refs := []impl.Ref{rNil, rInt(1), rObj(1), rObj(2)}
	turn := 0
	for _, a := range objsOver(1, refs, 2) {
		for _, b := range objsOver(2, refs, 2) {
			for _, r := range refs {
				turn++
				mourned := [][]impl.Ref{nil, {rObj(2)}}[turn>>3&1]
				g := graphOf([]impl.Obj{a, b}, sixRoots(rNil, r), mourned...)
				l := laying{half: 8, old: 16, side: int64(turn & 1), order: []int{turn >> 2 & 1, 1 - turn>>2&1}, noted: turn&2 != 0}
				h, _ := l.laid(g)
				made := impl.Full(h)
				if got, want := impl.Canon(impl.Shown(made)), wantCanon(wantCollected(g)); got != want {
					t.Fatalf("%v\nlaid out is\n%+v\nFull shows\n%s\nCollected is\n%s", g, h, got, want)
				}
				checkSteps(t, h)
				checkAllWanted(t, h, made)
			}
			// So that the next two come to be laid out in another way.
			turn++
		}
	}
}

// All ways in which three FoEphem ones with two Slots can wait for and lead to one another, with Hashes that are alike or not.
func TestFullOfThreeEphemOnes(t *testing.T) {
	refs := []impl.Ref{rNil, rObj(1), rObj(2), rObj(3)}
	orders := [][]int{{0, 1, 2}, {2, 1, 0}, {1, 2, 0}}
	hashes := [][3]int64{{7, 7, 7}, {3, 2, 1}, {1, 2, 1}, {2, 1, 1}}
	for i, roots := range [][]impl.Ref{{rObj(1)}, {rObj(3), rObj(1)}} {
		for n := range 1 << 12 {
			at := func(i int) impl.Ref { return refs[n>>(2*i)&3] }
			turn := n + n/64 + i
			hash := hashes[turn/3%4]
			g := graphOf([]impl.Obj{
				hashed(hash[0], ephem(1, at(0), at(1))), hashed(hash[1], ephem(2, at(2), at(3))), hashed(hash[2], ephem(3, at(4), at(5))),
			}, sixRoots(roots...))
			h, _ := laying{half: 8, old: 20, side: int64(turn & 1), order: orders[turn%3], noted: turn&2 != 0}.laid(g)
			// The Ids of what is Shown are those of Canon.
			want := byCanon(wantCollected(byCanon(g)))
			if got := impl.Shown(impl.Full(h)); !sameGraph(got, want) {
				t.Fatalf("%v\nlaid out is\n%+v\nFull shows\n%v\nCollected is\n%v", g, h, got, want)
			}
		}
	}
}

// Graphs by dice, to most of whose Objs only few lead, and whose Hashes are often alike.
func TestFullOfManyGraphs(t *testing.T) {
	d := &dice{n: 162}
	mourned, gone := 0, 0
	for i := range int64(200) {
		g := d.sparse(i%24, 1+i%4, i%3)
		if i%4 == 0 && len(g.Objs) > 0 {
			g.Mourned = slices.Repeat([]impl.Ref{rObj(g.Objs[0].Id)}, int(38+i%3))
		}
		for _, order := range d.ordersOf(len(g.Objs)) {
			l := laying{half: 8 + 2*d.roll(40), old: 260, side: d.roll(2), order: order, noted: d.roll(2) == 0}
			h, _ := l.laid(g)
			checkThrough(t, h)
			made := impl.Full(h)
			mourned += len(made.Mourned) - len(h.Mourned)
			gone += len(impl.Objects(h)) - len(impl.Objects(made))
		}
	}
	if mourned < 100 || gone < 1000 {
		t.Fatalf("these graphs tell too little: %d are mourned, %d are gone", mourned, gone)
	}
}

// Many FoEphem ones, each of which waits for the next one: one a round, however many are led to.
func TestFullOfLongRowsOfEphemOnes(t *testing.T) {
	d := &dice{n: 163}
	for _, n := range []int{2, 39, 40, 41, 42, 199, 200, 201, 202, 300} {
		eachSide(func(side int64) {
			d.eachOrder(pairsOf(200, 400, side), func(places []int64) {
				h := heapOf(200, 400, side, zeros(200), zeros(400))
				for i, at := range places[:n] {
					h.Row[at], h.Row[at+1] = 129+65536*int64(i), to(places[min(i+1, n-1)])
				}
				h.Roots[n%6] = to(places[0])
				rightSeen(&h)
				made := impl.Full(h)
				checkSteps(t, h)
				checkAllWanted(t, h, made)
				checkRoomAfter(t, h, made)
				if len(made.Mourned) != min(40, n-1) || len(impl.Objects(made)) != n {
					t.Fatalf("of %d in a row %d are mourned, and %d are there", n, len(made.Mourned), len(impl.Objects(made)))
				}
				for i, w := range made.Mourned {
					at, _ := impl.AddrOf(w)
					if head, _, _ := impl.ObjectAt(made.Row, at); head != (impl.Head{Slots: 1, Hash: int64(i)}) {
						t.Fatalf("of %d in a row, mourned as number %d is %+v", n, i, head)
					}
				}
			})
		})
	}
}

// More are led to than can be Shown, in one row that begins with a Root or with Mourned, and as many more that nobody leads to as there are words for.
func TestFullOfMoreThanIsShown(t *testing.T) {
	d := &dice{n: 164}
	for _, n := range []int{199, 200, 201, 250, 299} {
		eachSide(func(side int64) {
			d.eachOrder(pairsOf(200, 400, side), func(places []int64) {
				h := rowOfObjects(side, n, places, n%2 == 0)
				// Some of those that nobody leads to are free upstairs; some that are led to are Pinned.
				for i, at := range places {
					if at >= 400 && i >= n && i%2 == 0 {
						copy(h.Row[at:], free(2))
					}
					if at >= 400 && i < n && i%9 == 0 && n%3 == 0 {
						h.Row[at] += pinned
					}
				}
				rightSeen(&h)
				if shown := impl.GraphOk(impl.Shown(h)); shown != (n <= 200) {
					t.Fatalf("of %d objects it is told that they are Shown: %v", n, shown)
				}
				checkThrough(t, h)
				if made := impl.Full(h); len(impl.Objects(made)) != n || impl.FreeWords(made) != 600-2*int64(n)-(200-made.Top) {
					t.Fatalf("of %d objects %d are there, %d words are free", n, len(impl.Objects(made)), impl.FreeWords(made))
				}
			})
		})
	}
}

// More than can be Shown, many of which grieve at once, or only few are left once FoWeak ones have let go.
func TestFullOfMoreThanIsShownThatGrieve(t *testing.T) {
	d := &dice{n: 165}
	for _, n := range []int64{40, 96, 97, 110} {
		g := wide(n, func(i int64) int64 { return i % 3 })
		eachSide(func(side int64) {
			for _, order := range d.ordersOf(len(g.Objs)) {
				h, places := laying{half: 200, old: 400, side: side, order: order}.laid(g)
				checkThrough(t, h)
				if made := impl.Full(h); len(made.Mourned) != 40 || len(impl.Objects(made)) != int(7+2*n) {
					t.Fatalf("%+v\nFull\n%+v", h, made)
				}
				// FoWeak: none of those that wait is reached any more.
				for id := int64(1); id <= 6; id++ {
					h.Row[places[id]] += 64
				}
				checkThrough(t, h)
				if made := impl.Full(h); len(made.Mourned) > 0 || len(impl.Objects(made)) != 6 {
					t.Fatalf("%+v\nFull\n%+v", h, made)
				}
			}
		})
	}
}

// Each Root, each of Mourned, each Slot and each note of what is furnished, with every word that it may be, where some of the others are FoEphem or FoWeak.
func TestFullWithOneWordChanged(t *testing.T) {
	eachSide(func(side int64) {
		s := 12 * side
		right := 0
		for _, place := range wordPlaces(side) {
			for _, word := range rightWords(side) {
				for kind := range int64(8) {
					h := furnished(side)
					h.Roots, h.Mourned = six(2, []int64{to(40), to(24)}[kind>>2]), slices.Repeat([]int64{to(36)}, 3)
					h.Row[s] += 64 * 2 * (kind & 1)
					h.Row[40] += 64 * (kind >> 1 & 1)
					*place(&h) = word
					rightSeen(&h)
					if !wantHeapOk(h) {
						checkNotThrough(t, h)
						continue
					}
					right++
					checkThrough(t, h)
				}
			}
		}
		if right < 800 {
			t.Fatalf("only %d are right", right)
		}
	})
}

// Four notes, a FoEphem one and a FoWeak one: each note leads to each of them.
func TestFullNotesInEveryWay(t *testing.T) {
	eachSide(func(side int64) {
		s := 14 * side
		places := []int64{s, s + 2, 28, 30, s + 4, 32}
		right := 0
		eachShortRow(4, places, func(list []int64) {
			below := joined(note(list[0]), note(list[1]), ephemOne(11, to(s), to(28), to(32)))
			above := joined(note(list[2]), note(list[3]), weakOne(12, to(30), to(s+2)))
			h := heapOf(14, 14, side, below, above)
			for _, root := range []int64{s, 30} {
				h.Roots[1] = to(root)
				rightSeen(&h)
				if !wantHeapOk(h) {
					continue
				}
				right++
				checkFull(t, watchHeap(h), wantFull(h))
				checkCollects(t, h)
			}
		})
		if right != 2*432 {
			t.Fatalf("%d ways are right, want %d", right, 2*432)
		}
	})
}

func TestFullOfWrongHeaps(t *testing.T) {
	eachSide(func(side int64) {
		eachSpoilt(t, side, func(h impl.Heap) { checkNotThrough(t, h) })
		// With much that is free, and something to do, but for one thing that is wrong.
		for _, spoilt := range []func(h *impl.Heap){
			func(h *impl.Heap) { h.Seen = nil },
			func(h *impl.Heap) { h.Roots[0] = to(48) },
			func(h *impl.Heap) { h.Roots[5] = 3 },
			func(h *impl.Heap) { h.Roots = h.Roots[:5] },
			func(h *impl.Heap) { h.Mourned = []int64{2} },
			func(h *impl.Heap) { h.Row[51] = to(51) },
			func(h *impl.Heap) { h.Row[49] = 3 },
			func(h *impl.Heap) { h.Row[55] = 53 },
			func(h *impl.Heap) { h.Row[55] = 56 },
			func(h *impl.Heap) { h.Row[50] += marked },
			func(h *impl.Heap) { h.Row = append(h.Row, free(2)...) },
			func(h *impl.Heap) { h.Old += 2 },
			func(h *impl.Heap) { h.Top = 3 },
			func(h *impl.Heap) { h.Side = 2 },
			func(h *impl.Heap) { h.Seed = 65536 },
			func(h *impl.Heap) { h.Seed = -1 },
		} {
			h := layout{below: one(1), above: joined(free(2), one(2, to(24*side)), one(3)), roots: []int64{to(50)}}.heap(side)
			checkBoth(t, "right", h, true)
			checkThrough(t, h)
			spoilt(&h)
			checkBoth(t, "spoilt", h, false)
			checkNotThrough(t, h)
		}
	})
	checkNotThrough(t, impl.Heap{})
	checkNotThrough(t, impl.Heap{Half: 8, Old: 8, Row: free(8), Roots: six()})
	for _, n := range someEnds {
		checkNotThrough(t, impl.Heap{Half: n, Old: n, Row: joined(zeros(16), free(8)), Side: n, Top: n, Roots: six(), Seed: n})
		checkNotThrough(t, impl.Heap{Half: 8, Old: n, Row: joined(zeros(16), free(8)), Roots: six()})
		checkNotThrough(t, impl.Heap{Half: n, Old: 8, Row: joined(zeros(16), free(8)), Roots: six()})
	}
}

// Right heaps, as they come, with and without many notes, Pinned ones, and words that lead in; and the same with something spoilt.
func TestFullOfManyHeaps(t *testing.T) {
	d := &dice{n: 1616}
	mourned, pushed, wrong := 0, 0, 0
	for i := range 900 {
		h := d.heap(8+2*d.roll(10), 8+2*d.roll(20), d.roll(3))
		if i%5 == 1 {
			d.noted(&h)
		}
		if i%3 > 0 {
			d.thin(&h)
		}
		if i%4 > 1 {
			unnailed(&h)
		}
		checkThrough(t, h)
		made := impl.Full(h)
		mourned += len(made.Mourned) - len(h.Mourned)
		if impl.Biggest(made) > impl.Biggest(h) {
			pushed++
		}
		d.spoilHeap(&h)
		if wantHeapOk(h) {
			checkThrough(t, h)
			continue
		}
		wrong++
		checkNotThrough(t, h)
	}
	if mourned < 100 || pushed < 300 || wrong < 200 {
		t.Fatalf("%d are mourned, in %d there is more room, %d are wrong", mourned, pushed, wrong)
	}
}

func TestFullOfGreatHeaps(t *testing.T) {
	d := &dice{n: 161616}
	for i := range 24 {
		h := d.heap(200, 400, []int64{0, 37, 40}[d.roll(3)])
		if i%5 == 1 {
			d.noted(&h)
		}
		if i%2 == 1 {
			d.thin(&h)
		}
		if i%4 > 1 {
			unnailed(&h)
		}
		checkThrough(t, h)
	}
}

// What is Stored, Tenured and once through the house by turns: it shows at each step what the graph has that is Collected.
func TestFullByTurns(t *testing.T) {
	d := &dice{n: 166}
	full := 0
	for range 60 {
		h := d.heap(8+2*d.roll(20), 20+2*d.roll(30), d.roll(3))
		for range 12 {
			places := impl.Objects(h)
			if len(places) == 0 {
				break
			}
			at := places[d.roll(int64(len(places)))]
			switch d.roll(3) {
			case 0:
				h, _ = impl.Tenured(h, at)
			case 1:
				h, _ = impl.Stored(h, at, d.roll(4), to(places[d.roll(int64(len(places)))]))
			default:
				h.Roots[d.roll(6)] = []int64{2, to(at)}[d.roll(2)]
			}
			checkCollects(t, h)
			if d.roll(4) == 0 {
				h = impl.Full(h)
				full++
			}
		}
	}
	if full < 50 {
		t.Fatalf("only %d are once through the house", full)
	}
}

// Answers to one heap, one beside the other, have nothing of one another; nor has a heap that is written over afterwards anything of its answers. So it is too where there is nothing to do.
func TestFullAnswersShareNothing(t *testing.T) {
	eachRoom(func(side, s, n int64) {
		done := layout{below: joined(ephemOne(1, to(s+4), to(54)), one(2), note(50)), above: joined(free(2), one(3, to(s), to(50)), weakOne(4, to(s+6), to(58)), one(5, to(s))), roots: []int64{to(s + 6)}, mourned: []int64{to(50), to(s), to(54)}}
		nothing := layout{below: one(1, to(48)), above: one(3, to(s)), roots: []int64{to(s)}, mourned: []int64{to(s), to(48)}}
		for _, was := range []layout{done, nothing, {}} {
			w := watchHeap(was.heap(side))
			checkBoth(t, "an argument", w.heap, true)
			wrong := watchHeap(impl.Heap{Roots: six(num(1)), Mourned: []int64{4}, Seen: []int64{5}, Row: []int64{6}})
			calls := []func() []int64{}
			for _, h := range []impl.Heap{w.heap, wrong.heap} {
				calls = append(calls,
					func() []int64 { return impl.Full(h).Row },
					func() []int64 { return impl.Full(h).Roots },
					func() []int64 { return impl.Full(h).Mourned },
					func() []int64 { return impl.Full(h).Seen })
			}
			checkListsApart(t, calls, append(slices.Clone(w.lists), wrong.lists...)...)
			made := impl.Full(w.heap)
			picture := clonedHeap(made)
			words, most := impl.FreeWords(w.heap), impl.Biggest(w.heap)
			checkFree(t, w, words, most)
			checkHeapApart(t, w.heap)
			if !sameHeap(made, picture) {
				t.Fatalf("the heap, written into, changes an answer:\n%+v\nwas\n%+v", made, picture)
			}
			checkHeapApart(t, made)
			checkThrough(t, was.heap(side))
		}
	})
}
