package tests

import (
	"cmp"
	"slices"
	"testing"

	"loop.example/g00337/impl"
)

func TestGrievingOfNewHeaps(t *testing.T) {
	for _, c := range [][3]int64{{8, 8, 0}, {8, 10, 3}, {200, 400, 65535}, {200, 8, 1}, {8, 400, 77}} {
		h, _ := impl.NewHeap(c[0], c[1], c[2])
		for range 2 {
			checkGrieved(t, watchHeap(h), h)
			checkNilled(t, watchHeap(h), h)
			checkGrieving(t, h)
			h.Side = 1
		}
	}
}

// In what is furnished the FoEphem one at 24 waits for who is at s; at s + 6 is a FoWeak one, whose Slot is a number.
func TestFurnishedGrievedAndNilledByHand(t *testing.T) {
	eachSide(func(side int64) {
		s := 12 * side
		for _, c := range []struct {
			roots, mourned []int64
			grieves        bool
		}{
			{furnished(side).Roots, furnished(side).Mourned, false},
			{six(), nil, false},
			{six(to(24)), nil, true},
			{six(), []int64{to(24)}, true},
			{six(to(24)), []int64{to(s + 6), to(24), to(44)}, true},
			{six(to(24), to(s)), nil, false},
			{six(to(24)), []int64{to(s)}, false},
			{six(num(24), to(40)), nil, false},
		} {
			h := furnished(side)
			h.Roots, h.Mourned = c.roots, c.mourned
			checkNilled(t, watchHeap(h), h)
			want := clonedHeap(h)
			if c.grieves {
				want.Row[24] = pinned + 2
				want.Mourned = append(want.Mourned, to(24))
			}
			checkGrieved(t, watchHeap(h), want)
			checkGrieving(t, h)
		}
	})
}

// Who grieves has its Head else as it was, and its Slots: of every head, in the room where it is not Pinned, and upstairs.
func TestGrievedOfEveryHead(t *testing.T) {
	for _, head := range rightHeads() {
		if head.Marked || head.Format == 6 || head.Class%33 != 0 || head.Hash%65535 != 0 {
			continue
		}
		then := head
		if head.Format == impl.FoEphem {
			then.Format = impl.FoPlain
		}
		eachRoom(func(side, s, n int64) {
			above := layout{above: joined(one(1), headed(head, 48)), roots: []int64{2, to(50)}}
			below := layout{below: headed(head, 48), above: one(1), mourned: []int64{to(s)}}
			for at, was := range map[int64]layout{50: above, s: below} {
				if at == s && head.Pinned {
					continue
				}
				h := was.heap(side)
				want := clonedHeap(h)
				want.Row[at] = sumOf(then)
				if then != head {
					want.Mourned = append(want.Mourned, to(at))
				}
				checkGrieved(t, watchHeap(h), want)
			}
		})
	}
}

// Marked, it heads no chunk: so nobody who grieves is.
func TestGrievingOfMarkedHeads(t *testing.T) {
	eachRoom(func(side, s, n int64) {
		h := layout{below: joined(ephemOne(1, to(s+2)), one(2)), roots: []int64{to(s)}}.heap(side)
		checkGrieving(t, h)
		h.Row[s] += marked
		checkBoth(t, "Marked", h, false)
		checkNoGrieving(t, h)
	})
}

// A FoEphem one at s, whose second Slot leads to s + 4; what its first Slot leads to is at s + 6.
func TestGrievedByTheFirstSlot(t *testing.T) {
	eachRoom(func(side, s, n int64) {
		it := func(w int64, more ...[]int64) []int64 {
			return joined(ephemOne(1, w, to(s+4)), one(2), one(3), joined(more...))
		}
		from := []int64{to(s)}
		with := func(w int64) []int64 { return []int64{to(s), w} }
		self := []int64{s}
		checkGrieveCases(t, side, []grieveCase{
			{"Nil", layout{below: it(2), roots: from}, nil},
			{"a number", layout{below: it(num(0)), roots: from}, nil},
			{"a number that is a place", layout{below: it(num(s + 6)), roots: from}, nil},
			{"one that is not reached", layout{below: it(to(s + 6)), roots: from}, self},
			{"one that is reached, later", layout{below: it(to(s + 6)), roots: with(to(s + 6))}, nil},
			{"one that is reached, ahead of it", layout{below: it(to(s + 6)), roots: []int64{to(s + 6), to(s)}}, nil},
			{"one that Mourned leads to", layout{below: it(to(s + 6)), roots: from, mourned: []int64{to(s + 6)}}, nil},
			{"the FoEphem one itself", layout{below: it(to(s)), roots: from}, nil},
			{"one that only another Slot leads to", layout{below: it(to(s + 4)), roots: from}, self},
			{"one that another Slot leads to, and a Root", layout{below: it(to(s + 4)), roots: with(to(s + 4))}, nil},
			{"one that only a FoWeak one leads to", layout{below: it(to(s+6), weakOne(4, to(s+6))), roots: with(to(s + 8))}, self},
			{"one that a FoPlain one leads to, later", layout{below: it(to(s+6), one(4, to(s+6))), roots: with(to(s + 8))}, nil},
			{"one that a FoPlain one leads to that nobody leads to", layout{below: it(to(s+6), one(4, to(s+6))), roots: from}, self},
			{"one that leads back to it", layout{below: joined(ephemOne(1, to(s+6), to(s+4)), one(2), one(3, to(s))), roots: from}, self},
			{"one that leads to it, and is led to", layout{below: joined(ephemOne(1, to(s+6), to(s+4)), one(2), one(3, to(s))), roots: []int64{to(s + 6)}}, nil},
			{"one upstairs that is not reached", layout{below: it(to(48)), above: one(4), roots: from}, self},
			{"one upstairs that is", layout{below: it(to(48)), above: one(4), roots: with(to(48))}, nil},
			{"the first Slot alone", layout{below: joined(ephemOne(1, to(s+2)), one(2)), roots: from}, self},
			{"the first Slot alone, to itself", layout{below: joined(ephemOne(1, to(s)), one(2)), roots: from}, nil},
			{"the first Slot alone, Nil", layout{below: joined(ephemOne(1, 2), one(2)), roots: from}, nil},
			{"only the other Slot leads to one that is not reached otherwise", layout{below: it(num(1), one(4)), roots: with(to(s + 6))}, nil},
		})
		checkGrieveCases(t, side, []grieveCase{
			{"a note that leads to one that is not reached", layout{below: it(to(48)), above: note(s + 6), roots: from}, self},
			{"a note that leads to one that is", layout{below: it(to(48)), above: note(s + 6), roots: with(to(s + 6))}, nil},
			{"a note to which a Root leads, too", layout{below: it(to(48)), above: note(s + 6), roots: with(to(48))}, nil},
			{"one to which a Root leads over a note", layout{below: it(to(s + 6)), above: note(s + 6), roots: with(to(48))}, nil},
			{"a note that leads to the FoEphem one", layout{below: it(to(48)), above: note(s), roots: from}, nil},
			{"notes, one after the other, that lead to the FoEphem one", layout{below: it(to(48), note(s)), above: note(s + 8), roots: from}, nil},
			{"notes, one after the other, that lead to one that is not reached", layout{below: it(to(48), note(s+6)), above: note(s + 8), roots: from}, self},
			{"three notes that lead to one that is not reached", layout{below: it(to(50), note(48)), above: joined(note(s+6), note(s+8)), roots: from}, self},
			{"notes, one after the other, that lead to one that is", layout{below: it(to(48), note(s+6)), above: note(s + 8), roots: with(to(s + 8))}, nil},
			{"both Slots lead to notes of one", layout{below: joined(ephemOne(1, to(48), to(50)), one(2)), above: joined(note(s+4), note(s+4)), roots: from}, self},
			{"a note of the room that leads upstairs", layout{below: it(to(s+8), note(48)), above: one(4), roots: from}, self},
			{"the FoEphem one is led to over a note", layout{below: it(to(s+6), note(s)), roots: []int64{to(s + 8)}}, self},
			{"and over notes one after the other", layout{below: it(to(s+6), note(s)), above: note(s + 8), roots: []int64{to(48)}}, self},
			{"and by Mourned over a note", layout{below: it(to(s+6), note(s)), mourned: []int64{to(s + 8)}}, self},
		})
	})
}

// The same upstairs, where it is Seen by whom it leads to below: that stays as it is.
func TestGrievedUpstairs(t *testing.T) {
	eachRoom(func(side, s, n int64) {
		checkGrieveCases(t, side, []grieveCase{
			{"of one below", layout{below: joined(one(1), one(2)), above: ephemOne(3, to(s), to(s+2)), roots: []int64{to(48)}}, []int64{48}},
			{"of one below that is reached", layout{below: joined(one(1), one(2)), above: ephemOne(3, to(s), to(s+2)), roots: []int64{to(48), to(s)}}, nil},
			{"of one beside it", layout{above: joined(ephemOne(3, to(52), 2), one(4)), roots: []int64{to(48)}}, []int64{48}},
			{"of one behind a note below", layout{below: note(52), above: joined(ephemOne(3, to(s), 2), one(4)), mourned: []int64{to(48)}}, []int64{48}},
			{"of one behind notes below and beside it", layout{below: joined(note(50), one(1)), above: joined(ephemOne(3, to(s)), note(s+2)), roots: []int64{to(48)}}, []int64{48}},
			{"a Pinned one", layout{below: one(1), above: joined(free(4), []int64{pinned + 64*2 + 1 + 512*99 + 65536*65535, to(s)}), roots: []int64{to(52)}}, []int64{52}},
			{"of a Pinned one", layout{below: ephemOne(1, to(48)), above: []int64{pinned, 0}, roots: []int64{to(s)}}, []int64{s}},
			{"the last words", layout{below: one(1), above: joined(free(58), ephemOne(2, to(s))), roots: []int64{to(106)}}, []int64{106}},
			{"one below and one upstairs", layout{below: joined(ephemOne(5, to(50)), one(1)), above: joined(ephemOne(4, to(s+2)), one(2)), roots: []int64{to(s), to(48)}}, []int64{48, s}},
		})
	})
}

// FoEphem ones that are not reached do not grieve, whatever they wait for; those that only one who grieves leads to are reached then.
func TestGrievedOfWhoIsNotReached(t *testing.T) {
	eachRoom(func(side, s, n int64) {
		it := joined(ephemOne(1, to(s+2)), one(2))
		checkGrieveCases(t, side, []grieveCase{
			{"nobody leads to it", layout{below: it}, nil},
			{"numbers that are its place", layout{below: it, roots: []int64{num(s), num(0)}}, nil},
			{"only a FoWeak one leads to it", layout{below: joined(it, weakOne(3, to(s))), roots: []int64{to(s + 4)}}, nil},
			{"only one leads to it that nobody leads to", layout{below: joined(it, one(3, to(s))), above: one(4), roots: []int64{to(48)}}, nil},
			{"only what it leads to is reached", layout{below: it, roots: []int64{to(s + 2)}}, nil},
			{"it leads to itself alone", layout{below: joined(ephemOne(1, to(s+4), to(s)), one(2))}, nil},
			{"only a note leads to it that nobody leads to", layout{below: it, above: note(s)}, nil},
			{"one that grieves leads to it by its first Slot", layout{below: joined(it, ephemOne(0, to(s))), roots: []int64{to(s + 4)}}, []int64{s + 4, s}},
			{"one that grieves leads to it by another Slot", layout{below: joined(it, ephemOne(9, to(s+2), to(s))), roots: []int64{to(s + 4)}}, []int64{s + 4}},
			{"one that grieves for another leads to it", layout{below: joined(it, ephemOne(9, to(48), to(s))), above: one(5), roots: []int64{to(s + 4)}}, []int64{s + 4, s}},
			{"one that waits for itself leads to it", layout{below: joined(it, ephemOne(9, to(s+4), to(s))), roots: []int64{to(s + 4)}}, []int64{s}},
		})
	})
}

// FoEphem ones all of which are led to, where each leads to what the next one waits for: all grieve in one round, by Hash, as none is open at first.
func TestGrievedInARow(t *testing.T) {
	eachRoom(func(side, s, n int64) {
		row := func(a, b, c int64) []int64 {
			return joined(ephemOne(1, to(48+a), to(50+a)), ephemOne(2, to(48+b), to(50+b)), ephemOne(3, to(48+c), to(50+c)))
		}
		keys := joined(one(4), one(5), one(6), one(7))
		three := []int64{to(s), to(s + 4), to(s + 8)}
		all := []int64{s, s + 4, s + 8}
		for _, order := range [][3]int64{{0, 2, 4}, {4, 2, 0}, {2, 4, 0}, {2, 0, 4}, {0, 4, 2}, {4, 0, 2}} {
			below := row(order[0], order[1], order[2])
			// Who waits for the one at 48, at 50, and at 52.
			waits := []int64{0, 0, 0}
			for i, o := range order {
				waits[o/2] = s + 4*int64(i)
			}
			checkGrieveCases(t, side, []grieveCase{
				{"all", layout{below: below, above: keys, roots: three}, all},
				{"all, in another order", layout{below: below, above: keys, roots: []int64{to(s + 8), to(s), to(s + 4)}}, all},
				{"none", layout{below: below, above: keys, roots: append(slices.Clone(three), to(48))}, nil},
				{"none, by Mourned", layout{below: below, above: keys, roots: three, mourned: []int64{to(48)}}, nil},
				{"the first one", layout{below: below, above: keys, roots: append(slices.Clone(three), to(50))}, waits[:1]},
				{"the first two", layout{below: below, above: keys, roots: append(slices.Clone(three), to(52))}, slices.Sorted(slices.Values(waits[:2]))},
				{"who is led to alone", layout{below: below, above: keys, roots: []int64{to(waits[1])}}, waits[1:2]},
			})
		}
	})
}

// FoEphem ones that are led to one by the other, each in a round of its own: they come to Mourned round by round, whatever their Hashes.
func TestGrievedRoundByRound(t *testing.T) {
	eachRoom(func(side, s, n int64) {
		for _, h := range [][3]int64{{1, 2, 3}, {3, 2, 1}, {2, 3, 1}, {7, 7, 7}} {
			checkGrieveCases(t, side, []grieveCase{
				{"as they lie, by the first Slot", layout{below: joined(ephemOne(h[0], to(s+2)), ephemOne(h[1], to(s+4)), ephemOne(h[2], to(s+6)), one(9)), roots: []int64{to(s)}}, []int64{s, s + 2, s + 4}},
				{"against it", layout{below: joined(one(9), ephemOne(h[0], to(s)), ephemOne(h[1], to(s+2)), ephemOne(h[2], to(s+4))), roots: []int64{to(s + 6)}}, []int64{s + 6, s + 4, s + 2}},
				{"over notes", layout{below: joined(ephemOne(h[0], to(48)), ephemOne(h[1], to(50)), ephemOne(h[2], to(52)), one(9)), above: joined(note(s+2), note(s+4), note(s+6)), roots: []int64{to(s)}}, []int64{s, s + 2, s + 4}},
				{"by the second Slot", layout{below: joined(ephemOne(h[0], to(48), to(s+4)), ephemOne(h[1], to(50), to(s+8)), ephemOne(h[2], to(52), 2)), above: joined(one(4), one(5), one(6)), roots: []int64{to(s)}}, []int64{s, s + 4, s + 8}},
				{"below and upstairs by turns", layout{below: joined(ephemOne(h[0], to(48)), ephemOne(h[2], to(50))), above: joined(ephemOne(h[1], to(s+2)), one(9)), roots: []int64{to(s)}}, []int64{s, 48, s + 2}},
				{"two at first, then one", layout{below: joined(ephemOne(h[0], to(48), to(s+8)), ephemOne(h[1], to(48), to(s+8)), ephemOne(h[2], to(50))), above: joined(one(4), one(5)), roots: []int64{to(s), to(s + 4)}}, thenThird(h, s, s+4, s+8)},
			})
		}
		checkGrieveCases(t, side, []grieveCase{
			{"who is reached by one that grieves keeps another open", layout{below: joined(ephemOne(1, to(48), to(s+4)), ephemOne(2, to(50), 2)), above: joined(one(3, to(50)), one(4)), roots: []int64{to(s)}}, []int64{s}},
			{"one waits in vain no longer than till the other's round", layout{below: joined(ephemOne(1, to(48), to(s+4)), ephemOne(2, to(48), 2)), above: one(3), roots: []int64{to(s)}}, []int64{s}},
			{"both in one round, though one would open the other", layout{below: joined(ephemOne(1, to(48), to(50)), ephemOne(2, to(50), 2)), above: joined(one(3), one(4)), roots: []int64{to(s), to(s + 4)}}, []int64{s, s + 4}},
		})
	})
}

// thenThird are the first two by Hash, and then the third one.
func thenThird(hash [3]int64, a, b, c int64) []int64 {
	if hash[1] < hash[0] {
		a, b = b, a
	}
	return []int64{a, b, c}
}

func TestGrievedInARing(t *testing.T) {
	eachRoom(func(side, s, n int64) {
		two := joined(ephemOne(1, to(s+4), to(48)), ephemOne(2, to(s), to(50)))
		keys := joined(ephemOne(1, to(48), to(50)), ephemOne(2, to(50), to(48)))
		each := joined(ephemOne(1, to(s+4), to(s+4)), ephemOne(2, to(s), to(s)))
		three := joined(ephemOne(1, to(s+2)), ephemOne(2, to(s+4)), ephemOne(3, to(s)))
		pair := joined(one(3), one(4))
		checkGrieveCases(t, side, []grieveCase{
			{"for one another, both led to", layout{below: two, above: pair, roots: []int64{to(s), to(s + 4)}}, nil},
			{"for one another, one led to", layout{below: two, above: pair, roots: []int64{to(s)}}, []int64{s}},
			{"for one another, the other led to", layout{below: two, above: pair, mourned: []int64{to(s + 4)}}, []int64{s + 4}},
			{"for what the other one leads to", layout{below: keys, above: pair, roots: []int64{to(s + 4), to(s)}}, []int64{s, s + 4}},
			{"for what the other one leads to, and a Root does", layout{below: keys, above: pair, roots: []int64{to(s), to(s + 4), to(50)}}, nil},
			{"by both Slots", layout{below: each, roots: []int64{to(s)}}, []int64{s}},
			{"by both Slots, both led to", layout{below: each, roots: []int64{to(s + 4), to(s)}}, nil},
			{"nobody leads to it", layout{below: each, above: pair, roots: []int64{to(48)}}, nil},
			{"three, one led to", layout{below: three, roots: []int64{to(s)}}, []int64{s, s + 2}},
			{"three, the last led to", layout{below: three, roots: []int64{to(s + 4)}}, []int64{s + 4, s}},
			{"three, two led to", layout{below: three, roots: []int64{to(s), to(s + 2)}}, []int64{s + 2}},
			{"three, all led to", layout{below: three, roots: []int64{to(s), to(s + 2), to(s + 4)}}, nil},
			{"over notes", layout{below: joined(ephemOne(1, to(48)), ephemOne(2, to(50))), above: joined(note(s+2), note(s)), roots: []int64{to(50)}}, []int64{s}},
			{"over notes, both led to", layout{below: joined(ephemOne(1, to(48)), ephemOne(2, to(50))), above: joined(note(s+2), note(s)), roots: []int64{to(50), to(s + 2)}}, nil},
		})
	})
}

// Those of one round come by Hash; those of one Hash as they are Shown, not as they lie.
func TestGrievedByHash(t *testing.T) {
	eachRoom(func(side, s, n int64) {
		three := func(a, b, c int64) []int64 {
			return joined(ephemOne(a, to(48)), ephemOne(b, to(48)), ephemOne(c, to(48)))
		}
		at := []int64{s, s + 2, s + 4}
		for _, hash := range [][3]int64{{1, 2, 3}, {1, 3, 2}, {2, 1, 3}, {2, 3, 1}, {3, 1, 2}, {3, 2, 1}, {0, 65535, 32768}, {5, 5, 5}, {5, 5, 1}, {1, 5, 5}, {5, 1, 5}, {65535, 0, 65535}} {
			for _, order := range [][3]int{{0, 1, 2}, {0, 2, 1}, {1, 0, 2}, {1, 2, 0}, {2, 0, 1}, {2, 1, 0}} {
				roots, holder, come := []int64{}, []int64{}, []int64{}
				for _, i := range order {
					roots = append(roots, to(at[i]))
					come = append(come, at[i])
				}
				slices.SortStableFunc(come, func(a, b int64) int {
					return cmp.Compare(hash[(a-s)/2], hash[(b-s)/2])
				})
				holder = one(9, roots...)
				below := three(hash[0], hash[1], hash[2])
				checkGrieveCases(t, side, []grieveCase{
					{"by Roots", layout{below: below, above: one(8), roots: roots}, come},
					{"by Mourned", layout{below: below, above: one(8), mourned: roots}, come},
					{"by Slots", layout{below: below, above: joined(one(8), holder), roots: []int64{to(50)}}, come},
				})
			}
		}
		two := joined(ephemOne(5, to(48)), ephemOne(5, to(48)))
		checkGrieveCases(t, side, []grieveCase{
			{"Roots are ahead of Mourned", layout{below: two, above: one(8), roots: []int64{2, 2, 2, 2, 2, to(s + 2)}, mourned: []int64{to(s)}}, []int64{s + 2, s}},
			{"Mourned is ahead of Slots", layout{below: two, above: joined(one(8), one(9, to(s))), roots: []int64{to(50)}, mourned: []int64{to(s + 2)}}, []int64{s + 2, s}},
			{"over a note", layout{below: two, above: joined(one(8), note(s+2)), roots: []int64{to(50), to(s)}}, []int64{s + 2, s}},
			{"one upstairs is Shown first", layout{below: ephemOne(5, to(48)), above: joined(one(8), ephemOne(5, to(48))), roots: []int64{to(50), to(s)}}, []int64{50, s}},
			{"a FoWeak one that does not keep it Shows it first", layout{below: joined(two, weakOne(1, to(s+2))), above: joined(one(8), one(9, to(s), to(s+2))), roots: []int64{to(s + 4), to(50)}}, []int64{s + 2, s}},
		})
	})
}

// The Ids are those of what was Shown at first: here who came to Mourned in the first round would Show the two of the second round the other way round.
func TestGrievedInTheOrderOfTheFirstIds(t *testing.T) {
	eachRoom(func(side, s, n int64) {
		// At s what holds both, at s + 4 a FoWeak one, at s + 6 who grieves first, and waits for s + 10.
		heap := func(one0, other, a, b int64) layout {
			return layout{below: joined(
				one(1, to(s+4), to(s+6)), weakOne(2, to(one0)), ephemOne(3, to(s+10), to(other), to(one0)), one(4),
				ephemOne(a, to(s+16)), ephemOne(b, to(s+16)), one(5)), roots: []int64{to(s)}}
		}
		checkGrieveCases(t, side, []grieveCase{
			{"as they lie", heap(s+12, s+14, 7, 7), []int64{s + 6, s + 12, s + 14}},
			{"against it", heap(s+14, s+12, 7, 7), []int64{s + 6, s + 14, s + 12}},
			{"the Hash is asked first", heap(s+12, s+14, 7, 6), []int64{s + 6, s + 14, s + 12}},
			{"the Hash is asked first, as they lie", heap(s+14, s+12, 6, 7), []int64{s + 6, s + 12, s + 14}},
		})
	})
}

// Mourned as it was is ahead of what comes to it, over notes as it is; who is there already comes there once more.
func TestGrievedWithMourned(t *testing.T) {
	eachRoom(func(side, s, n int64) {
		two := joined(ephemOne(6, to(s+4)), ephemOne(5, to(s+4)), one(1), one(2))
		checkGrieveCases(t, side, []grieveCase{
			{"one that is there already", layout{below: two, mourned: []int64{to(s)}}, []int64{s}},
			{"there already, and a Root leads there", layout{below: two, roots: []int64{to(s)}, mourned: []int64{to(s), to(s)}}, []int64{s}},
			{"there already, over a note", layout{below: two, above: note(s), mourned: []int64{to(48)}}, []int64{s}},
			{"others are there", layout{below: two, roots: []int64{to(s), to(s + 2)}, mourned: []int64{to(s + 6), to(s + 2), to(s + 6)}}, []int64{s + 2, s}},
			{"what it waits for is there", layout{below: two, roots: []int64{to(s), to(s + 2)}, mourned: []int64{to(s + 4)}}, nil},
			{"over notes", layout{below: two, above: joined(note(s+6), note(48)), roots: []int64{to(s)}, mourned: []int64{to(50), to(48), to(s + 6)}}, []int64{s}},
			{"over a note what it waits for", layout{below: two, above: note(s + 4), roots: []int64{to(s)}, mourned: []int64{to(48)}}, nil},
		})
	})
}

// As far as there is room: those without it become FoPlain, too, and open what they lead to.
func TestGrievedAsFarAsThereIsRoom(t *testing.T) {
	eachRoom(func(side, s, n int64) {
		for was := 34; was <= 40; was++ {
			full := slices.Repeat([]int64{to(50)}, was)
			below := joined(ephemOne(4, to(48)), ephemOne(3, to(48)), ephemOne(2, to(48)), ephemOne(1, to(48)), ephemOne(9, to(s+10)), ephemOne(0, to(52)))
			checkGrieveCases(t, side, []grieveCase{
				{"four in one round", layout{below: below, above: joined(one(5), one(6), one(7)), roots: []int64{to(s), to(s + 2), to(s + 4), to(s + 6)}, mourned: full}, []int64{s + 6, s + 4, s + 2, s}},
				{"and rounds one after the other", layout{below: below, above: joined(one(5), one(6), one(7)), roots: []int64{to(s), to(s + 2), to(s + 8)}, mourned: full}, []int64{s + 2, s, s + 8, s + 10}},
			})
		}
	})
}

// Many FoEphem ones, each of which waits for the next one: one a round, however many are led to; the last one, or who waits for itself, waits for nobody.
func TestGrievedOfLongRows(t *testing.T) {
	d := &dice{n: 14}
	for _, n := range []int{1, 2, 3, 39, 40, 41, 42, 199, 200, 201, 202, 300} {
		eachSide(func(side int64) {
			d.eachOrder(pairsOf(200, 400, side), func(places []int64) {
				h := heapOf(200, 400, side, zeros(200), zeros(400))
				for i, at := range places[:n] {
					h.Row[at], h.Row[at+1] = 129+65536*d.roll(3), to(places[min(i+1, n-1)])
				}
				if n%2 == 0 {
					h.Row[places[n-1]+1] = 2
				}
				h.Roots[n%6] = to(places[0])
				h.Mourned = slices.Repeat([]int64{to(places[0])}, n%5)
				rightSeen(&h)
				want := clonedHeap(h)
				for _, at := range places[:n-1] {
					grieve(&want, at)
				}
				checkGrieved(t, watchHeap(h), want)
				checkNilled(t, watchHeap(h), h)
				if n <= 42 {
					checkMournedOnce(t, h)
				}
				if shown := len(impl.Shown(h).Objs); n <= 200 && shown != n || n > 200 && shown != 0 {
					t.Fatalf("%d objects, of which %d are Shown", n, shown)
				}
			})
		})
	}
}

// wide has n FoEphem ones that are Shown one behind the other, each led to over two others, and wait for one that is not reached.
func wide(n int64, hash func(i int64) int64) impl.Graph {
	key := 7 + 2*n
	objs := []impl.Obj{}
	for id := range int64(6) {
		objs = append(objs, obj(id+1, 0, impl.FoPlain, 1))
	}
	for i := range n {
		holder := &objs[i/20]
		holder.Slots = append(holder.Slots, rObj(7+i))
		objs = append(objs, obj(7+i, 0, impl.FoPlain, 2, rObj(7+n+i)))
	}
	for i := range n {
		objs = append(objs, obj(7+n+i, 5, impl.FoEphem, hash(i), rObj(key)))
	}
	objs = append(objs, obj(key, 0, impl.FoPlain, 3))
	return graphOf(objs, sixRoots(rObj(1), rObj(2), rObj(3), rObj(4), rObj(5), rObj(6)))
}

// More are led to than can be Shown, and many grieve at once: by Hash, then as they would be Shown, however they lie.
func TestGrievedOfMoreThanIsShown(t *testing.T) {
	d := &dice{n: 141}
	for _, n := range []int64{1, 39, 40, 41, 90, 97, 110} {
		for _, hash := range []func(i int64) int64{
			func(i int64) int64 { return 7 },
			func(i int64) int64 { return i % 3 },
			func(i int64) int64 { return 65535 - i/2 },
		} {
			g := wide(n, hash)
			ids := fromTo(7+n, 7+2*n-1)
			slices.SortStableFunc(ids, func(a, b int64) int { return cmp.Compare(hash(a-7-n), hash(b-7-n)) })
			eachSide(func(side int64) {
				for _, order := range d.ordersOf(len(g.Objs)) {
					h, places := laying{half: 200, old: 400, side: side, order: order}.laid(g)
					h.Mourned = slices.Repeat([]int64{to(places[1])}, int(n%3))
					want := clonedHeap(h)
					for _, id := range ids {
						grieve(&want, places[id])
					}
					checkGrieved(t, watchHeap(h), want)
					checkMournedOnce(t, h)
					if shown := impl.GraphOk(impl.Shown(h)); shown != (7+2*n <= 200) {
						t.Fatalf("of %d objects it is told that they are Shown: %v", 7+2*n, shown)
					}
				}
			})
		}
	}
}

// FoWeak ones with each number of Slots, where one Slot, or each in turn, is each word that it may be.
func TestNilledByEachSlot(t *testing.T) {
	eachRoom(func(side, s, n int64) {
		// At 50 is who a Root leads to; to 48 nobody else does.
		others := joined(one(1), one(2), note(48), note(50), note(52), note(54))
		kinds := func(self int64) []struct {
			w    int64
			lost bool
		} {
			return []struct {
				w    int64
				lost bool
			}{
				{2, false}, {num(0), false}, {num(48), false}, {num(-100000), false},
				{to(48), true}, {to(50), false}, {to(52), true}, {to(54), false}, {to(56), true}, {to(58), false}, {to(self), false},
			}
		}
		low := func(words []int64) layout {
			return layout{below: weakOne(3, words...), above: others, roots: []int64{to(s), to(50)}}
		}
		high := func(words []int64) layout {
			return layout{above: joined(others, weakOne(3, words...)), roots: []int64{to(50)}, mourned: []int64{to(60)}}
		}
		for self, made := range map[int64]func([]int64) layout{s: low, 60: high} {
			for slots := range int64(21) {
				checkNilCases(t, side, []nilCase{{"all Nil", made(slices.Repeat([]int64{2}, int(slots))), nil, nil}})
				for i := range slots {
					for k, kind := range kinds(self) {
						if slots > 3 && slots < 19 && (i+int64(k))%5 > 0 {
							continue
						}
						words := slices.Repeat([]int64{2}, int(slots))
						words[i] = kind.w
						gone := []int64{}
						if kind.lost {
							gone = append(gone, self+1+i)
						}
						checkNilCases(t, side, []nilCase{{"one Slot", made(words), gone, nil}})
					}
				}
				for from := range int64(11) {
					words, gone := []int64{}, []int64{}
					for i := range slots {
						kind := kinds(self)[(from+i)%11]
						words = append(words, kind.w)
						if kind.lost {
							gone = append(gone, self+1+i)
						}
					}
					checkNilCases(t, side, []nilCase{{"each Slot", made(words), gone, nil}})
				}
			}
		}
	})
}

// Of other Formats no Slot becomes Nil: neither those of a FoPlain one, nor what a FoEphem one waits for, nor a note.
func TestNilledOfEveryHead(t *testing.T) {
	for _, head := range rightHeads() {
		if head.Marked || head.Format == 6 || head.Class%33 != 0 || head.Hash%65535 != 0 {
			continue
		}
		eachRoom(func(side, s, n int64) {
			h := layout{below: one(1), above: headed(head, s), roots: []int64{2, to(48)}}.heap(side)
			want := clonedHeap(h)
			if head.Format == impl.FoWeak {
				for i := range head.Slots {
					want.Row[49+i] = 2
				}
				want.Seen = nil
			}
			checkNilled(t, watchHeap(h), want)
		})
	}
}

func TestNilledByHand(t *testing.T) {
	eachRoom(func(side, s, n int64) {
		both := joined(weakOne(1, to(s+4), to(48)), one(2), one(3, to(48)))
		from := []int64{to(s)}
		checkNilCases(t, side, []nilCase{
			{"both Slots", layout{below: both, above: one(4), roots: from}, []int64{s + 1, s + 2}, nil},
			{"others keep the one", layout{below: both, above: one(4), roots: []int64{to(s), to(s + 6)}}, []int64{s + 1}, nil},
			{"others keep the other", layout{below: both, above: one(4), roots: []int64{to(s + 4), to(s)}}, []int64{s + 2}, nil},
			{"Mourned keeps the other", layout{below: both, above: one(4), roots: from, mourned: []int64{to(48)}}, []int64{s + 1}, nil},
			{"Mourned leads to it", layout{below: both, above: one(4), mourned: from}, []int64{s + 1, s + 2}, nil},
			{"nobody leads to it", layout{below: both, above: one(4), roots: []int64{to(s + 4)}}, nil, nil},
			{"nobody leads anywhere", layout{below: both, above: one(4)}, nil, nil},
			{"only a FoWeak one leads to it", layout{below: joined(weakOne(1, to(s+2)), weakOne(2, to(s+4)), one(3)), roots: from}, []int64{s + 1}, nil},
			{"to one another, both led to", layout{below: joined(weakOne(1, to(s+2)), weakOne(2, to(s))), roots: []int64{to(s), to(s + 2)}}, nil, nil},
			{"to one another, one led to", layout{below: joined(weakOne(1, to(s+2)), weakOne(2, to(s))), roots: from}, []int64{s + 1}, nil},
			{"to itself", layout{below: weakOne(1, to(s), to(s)), roots: from}, nil, nil},
			{"to itself over notes", layout{below: joined(weakOne(1, to(s+2)), note(48)), above: note(s), roots: from}, nil, []int64{48}},
			{"it is led to over a note", layout{below: joined(weakOne(1, to(s+2)), one(2)), above: note(s), roots: []int64{to(48)}}, []int64{s + 1}, []int64{48}},
			{"one that only a FoEphem one would keep that waits", layout{below: joined(weakOne(1, to(s+6)), ephemOne(2, to(s+8), to(s+6)), one(3), one(4)), roots: []int64{to(s), to(s + 2)}}, []int64{s + 1}, nil},
			{"what a FoEphem one waits for", layout{below: joined(weakOne(1, to(s+8)), ephemOne(2, to(s+8), to(s+6)), one(3), one(4)), roots: []int64{to(s), to(s + 2)}}, []int64{s + 1}, nil},
			{"one that a FoEphem one keeps", layout{below: joined(weakOne(1, to(s+6)), ephemOne(2, to(s+8), to(s+6)), one(3), one(4)), roots: []int64{to(s), to(s + 2), to(s + 8)}}, nil, nil},
			{"a FoEphem one that is not reached", layout{below: joined(weakOne(1, to(s+2)), ephemOne(2, to(s))), roots: from}, []int64{s + 1}, nil},
			{"behind a FoPlain one", layout{below: joined(one(1, to(s+2)), weakOne(2, to(s+6), to(s)), one(3)), roots: from}, []int64{s + 3}, nil},
			{"what is left over stays", layout{below: joined([]int64{64*1 + 2, to(s + 4), 2, to(s + 4)}, one(1)), roots: from}, []int64{s + 1}, nil},
			{"what is left over of one without Slots stays", layout{below: joined([]int64{64 * 1, to(s + 2)}, one(1)), roots: from}, nil, nil},
			{"behind a note", layout{below: joined([]int64{noteHead + 3, to(s + 4), to(s + 6), to(s + 6)}, weakOne(1, to(s+6)), one(2)), roots: from}, []int64{s + 5}, nil},
		})
		checkNilCases(t, side, []nilCase{
			{"a note that leads to one of Marks stays as it is", layout{below: joined(weakOne(1, to(48)), one(2)), above: note(s + 2), roots: []int64{to(s), to(s + 2)}}, nil, []int64{48}},
			{"a note that leads to one that is not", layout{below: joined(weakOne(1, to(48)), one(2)), above: note(s + 2), roots: from}, []int64{s + 1}, []int64{48}},
			{"notes one after the other to one of Marks", layout{below: joined(weakOne(1, to(50)), one(2), note(48)), above: joined(note(s+2), note(s+4)), roots: []int64{to(s), to(48)}}, nil, []int64{48, 50}},
			{"notes one after the other to one that is not", layout{below: joined(weakOne(1, to(50)), one(2), note(48)), above: joined(note(s+2), note(s+4)), roots: from}, []int64{s + 1}, []int64{48, 50}},
			{"a note, which a Root leads over, too", layout{below: joined(weakOne(1, to(48), to(s+4)), one(2)), above: note(s + 4), roots: []int64{to(s), to(48)}}, nil, []int64{48}},
		})
	})
}

// FoWeak ones upstairs: who let go of somebody below is Seen no more, if that was the last one.
func TestNilledUpstairs(t *testing.T) {
	eachRoom(func(side, s, n int64) {
		low := joined(one(1), one(2))
		up := []int64{to(48)}
		kept := []int64{to(48), to(s + 2)}
		checkNilCases(t, side, []nilCase{
			{"its only one", layout{below: low, above: weakOne(3, to(s)), roots: up}, []int64{49}, nil},
			{"one that is kept", layout{below: low, above: weakOne(3, to(s+2)), roots: kept}, nil, []int64{48}},
			{"the first of two", layout{below: low, above: weakOne(3, to(s), to(s+2)), roots: kept}, []int64{49}, []int64{48}},
			{"the second of two", layout{below: low, above: weakOne(3, to(s+2), to(s)), roots: kept}, []int64{50}, []int64{48}},
			{"both of two", layout{below: low, above: weakOne(3, to(s), to(s)), roots: kept}, []int64{49, 50}, nil},
			{"one below, and one upstairs that is kept", layout{below: low, above: joined(weakOne(3, to(s), to(52)), one(4)), roots: []int64{to(48), to(52)}}, []int64{49}, nil},
			{"a note below that leads to one upstairs that is not kept", layout{below: note(50), above: joined(weakOne(3, to(s)), one(4)), roots: up}, []int64{49}, nil},
			{"a note below that leads to one upstairs that is", layout{below: note(50), above: joined(weakOne(3, to(s)), one(4)), roots: []int64{to(48), to(50)}}, nil, []int64{48}},
			{"a note upstairs that leads to one below: the note is Seen still", layout{below: low, above: joined(weakOne(3, to(50)), note(s)), roots: up}, []int64{49}, []int64{50}},
			{"one that is not of Marks is Seen as it was", layout{below: low, above: joined(weakOne(3, to(s)), weakOne(4, to(s))), roots: []int64{to(50)}}, []int64{51}, []int64{48}},
			{"neither is of Marks", layout{below: low, above: joined(weakOne(3, to(s)), weakOne(4, to(s)))}, nil, []int64{48, 50}},
			{"others are Seen as they were", layout{below: low, above: joined(one(5, to(s+2)), weakOne(3, to(s)), ephemOne(6, to(s), to(s+2)), weakOne(4, to(s+2)), weakOne(7, to(s))), roots: []int64{to(48), to(50), to(52), to(56), to(58)}}, []int64{51, 59}, []int64{48, 52, 56}},
			{"a Pinned one", layout{below: low, above: joined(free(2), []int64{pinned + 65 + 512*9, to(s)}), roots: []int64{to(50)}}, []int64{51}, nil},
			{"the last words", layout{below: low, above: joined(free(58), weakOne(3, to(s))), roots: []int64{to(106)}}, []int64{107}, nil},
			{"one below leads up and is in no Seen", layout{below: joined(weakOne(1, to(48)), one(2)), above: one(3), roots: []int64{to(s)}}, []int64{s + 1}, nil},
			{"to itself", layout{above: weakOne(3, to(48)), roots: up}, nil, nil},
		})
	})
}

// FoWeak ones that hold many, one by the other: as many as there are, also where they can't be Shown.
func TestNilledOfMoreThanIsShown(t *testing.T) {
	d := &dice{n: 142}
	for _, n := range []int{1, 2, 199, 200, 201, 202, 300} {
		eachSide(func(side int64) {
			d.eachOrder(pairsOf(200, 400, side), func(places []int64) {
				h := rowOfObjects(side, n, places, n%2 == 0)
				// Up to there all is FoPlain; the one there is FoWeak, and what it leads to is not kept.
				cut := d.roll(int64(n))
				h.Row[places[cut]] += 64
				want := clonedHeap(h)
				if cut < int64(n-1) {
					want.Row[places[cut]+1] = 2
				}
				rightSeen(&want)
				checkNilled(t, watchHeap(h), want)
				checkGrieved(t, watchHeap(h), h)
				checkHolds(t, h)
			})
		})
	}
}

// Many FoEphem ones that wait for one another in a row: none grieves where the first one is open, and all at once where it is not.
func TestGrievedOfLongRowsThatOpenOneAnother(t *testing.T) {
	d := &dice{n: 143}
	for _, n := range []int64{1, 2, 3, 21, 50} {
		for _, at := range []func(int64) int64{
			func(i int64) int64 { return 1 + 3*i },
			func(i int64) int64 { return 1 + 3*(2*n-i) },
		} {
			open, shut := chain(n, at, true), chain(n, at, false)
			eachLaying(d, len(open.Objs), func(l laying) {
				h, _ := l.laid(open)
				checkGrieved(t, watchHeap(h), h)
				h, places := l.laid(shut)
				want := clonedHeap(h)
				for _, o := range shut.Objs {
					if o.Format == impl.FoEphem {
						grieve(&want, places[o.Id])
					}
				}
				checkGrieved(t, watchHeap(h), want)
				checkMournedOnce(t, h)
			})
		}
	}
}

// FoEphem ones each of which waits for the next one, the last one for the first: where one is led to, all but the last of them grieve, one after the other.
func TestGrievedOfLongRings(t *testing.T) {
	d := &dice{n: 144}
	for _, n := range []int64{1, 2, 3, 38, 39, 40, 41, 42} {
		objs, all := []impl.Obj{}, []impl.Ref{}
		for id := int64(1); id <= n; id++ {
			objs = append(objs, hashed(d.roll(3), ephem(id, rObj(id%n+1))))
			all = append(all, rObj(id))
		}
		eachLaying(d, int(n), func(l laying) {
			if n <= 40 {
				h, _ := l.laid(graphOf(objs, sixRoots(), all...))
				checkGrieved(t, watchHeap(h), h)
			}
			h, places := l.laid(graphOf(objs, sixRoots(rObj(1))))
			want := clonedHeap(h)
			for id := int64(1); id < n; id++ {
				grieve(&want, places[id])
			}
			checkGrieved(t, watchHeap(h), want)
			checkMournedOnce(t, h)
		})
	}
}

// All graphs of two Objs with up to two Slots, laid out by turns in each way; their Hashes are alike.
func TestGrievingOfAllSmallGraphs(t *testing.T) {
	refs := []impl.Ref{rNil, rInt(1), rObj(1), rObj(2)}
	grieved, nilled, turn := 0, 0, 0
	for _, a := range objsOver(1, refs, 2) {
		for _, b := range objsOver(2, refs, 2) {
			for _, r := range refs {
				for _, mourned := range [][]impl.Ref{nil, {rObj(2)}} {
					turn++
					l := laying{half: 8, old: 16, side: int64(turn & 1), order: []int{turn >> 2 & 1, 1 - turn>>2&1}, noted: turn&2 != 0}
					h := l.checkLaidGrieving(t, graphOf([]impl.Obj{a, b}, sixRoots(rNil, r), mourned...))
					grieved += len(impl.Grieved(h).Mourned) - len(h.Mourned)
					if !slices.Equal(impl.Nilled(h).Row, h.Row) {
						nilled++
					}
				}
			}
			// So that the next two come to be laid out in another way.
			turn++
		}
	}
	if grieved < 500 || nilled < 500 {
		t.Fatalf("these graphs tell too little: %d grieve, %d are Nilled", grieved, nilled)
	}
}

// All ways in which three FoEphem ones with two Slots can wait for and lead to one another, with Hashes that are alike or not.
func TestGrievingOfThreeEphemOnes(t *testing.T) {
	refs := []impl.Ref{rNil, rObj(1), rObj(2), rObj(3)}
	orders := [][]int{{0, 1, 2}, {2, 1, 0}, {1, 2, 0}}
	hashes := [][3]int64{{7, 7, 7}, {3, 2, 1}, {1, 2, 1}, {2, 1, 1}}
	for i, roots := range [][]impl.Ref{{rObj(1)}, {rObj(2)}, {rObj(3), rObj(1)}} {
		for n := range 1 << 12 {
			at := func(i int) impl.Ref { return refs[n>>(2*i)&3] }
			turn := n + n/64 + i
			hash := hashes[turn/3%4]
			g := graphOf([]impl.Obj{
				hashed(hash[0], ephem(1, at(0), at(1))), hashed(hash[1], ephem(2, at(2), at(3))), hashed(hash[2], ephem(3, at(4), at(5))),
			}, sixRoots(roots...))
			l := laying{half: 8, old: 20, side: int64(turn & 1), order: orders[turn%3], noted: turn&2 != 0}
			l.checkLaidGrieving(t, g)
		}
	}
}

// Graphs by dice, to most of whose Objs only few lead, and whose Hashes are often alike.
func TestGrievingOfManyGraphs(t *testing.T) {
	d := &dice{n: 145}
	grieved := 0
	for i := range int64(400) {
		g := d.sparse(i%24, 1+i%4, i%3)
		if i%4 == 0 && len(g.Objs) > 0 {
			g.Mourned = slices.Repeat([]impl.Ref{rObj(g.Objs[0].Id)}, int(38+i%3))
		}
		for _, order := range d.ordersOf(len(g.Objs)) {
			l := laying{half: 8 + 2*d.roll(40), old: 260, side: d.roll(2), order: order, noted: d.roll(2) == 0}
			h := l.checkLaidGrieving(t, g)
			checkMournedOnce(t, h)
			checkHolds(t, h)
			grieved += len(impl.Grieved(h).Mourned) - len(h.Mourned)
		}
	}
	if grieved < 200 {
		t.Fatalf("these graphs tell too little: %d grieve", grieved)
	}
}

// Each Root, each of Mourned, each Slot and each note of what is furnished, with every word that it may be, where one of the others is FoEphem or FoWeak.
func TestGrievingWithOneWordChanged(t *testing.T) {
	eachSide(func(side int64) {
		s := 12 * side
		right, changed := 0, 0
		for _, place := range wordPlaces(side) {
			for _, word := range rightWords(side) {
				for _, root := range []int64{to(s), to(24), to(40), to(s + 6)} {
					for kind := range int64(4) {
						h := furnished(side)
						h.Roots, h.Mourned = six(2, root), slices.Repeat([]int64{to(36)}, 3)
						// None, who is at s, who is at 40, or both: FoEphem and FoWeak.
						h.Row[s] += 64 * 2 * (kind & 1)
						h.Row[40] += 64 * (kind >> 1)
						*place(&h) = word
						rightSeen(&h)
						if !wantHeapOk(h) {
							checkNoGrieving(t, h)
							continue
						}
						right++
						checkGrieving(t, h)
						if !sameHeap(impl.Nilled(impl.Grieved(h)), h) {
							changed++
						}
					}
				}
			}
		}
		if right < 1000 || changed < 300 {
			t.Fatalf("only %d are right, and %d changed", right, changed)
		}
	})
}

// Four notes, a FoEphem one and a FoWeak one: each note leads to each of them.
func TestGrievingNotesInEveryWay(t *testing.T) {
	eachSide(func(side int64) {
		s := 14 * side
		places := []int64{s, s + 2, 28, 30, s + 4, 32}
		right := 0
		eachShortRow(4, places, func(list []int64) {
			below := joined(note(list[0]), note(list[1]), ephemOne(11, to(s), to(28), to(32)))
			above := joined(note(list[2]), note(list[3]), weakOne(12, to(30), to(s+2)))
			h := heapOf(14, 14, side, below, above)
			for _, root := range []int64{s, s + 2, 28, 30} {
				h.Roots[1] = to(root)
				rightSeen(&h)
				if wantHeapOk(h) {
					right++
					w := watchHeap(h)
					checkGrieved(t, w, wantGrieved(h))
					checkNilled(t, w, wantNilled(h))
					checkAsCollected(t, h)
				} else if list[0] == s {
					checkNoGrieving(t, h)
				}
			}
		})
		if right != 4*432 {
			t.Fatalf("%d ways are right, want %d", right, 4*432)
		}
	})
}

func TestGrievingOfWrongHeaps(t *testing.T) {
	eachSide(func(side int64) {
		eachSpoilt(t, side, func(h impl.Heap) { checkNoGrieving(t, h) })
	})
	checkNoGrieving(t, impl.Heap{})
}

// Right heaps, as they come, with many notes and with few words that lead in, and the same with something spoilt.
func TestGrievingOfManyHeaps(t *testing.T) {
	d := &dice{n: 1414}
	grieved, nilled, wrong := 0, 0, 0
	for i := range 1500 {
		h := d.heap(8+2*d.roll(10), 8+2*d.roll(20), d.roll(3))
		if i%2 == 1 {
			d.noted(&h)
		}
		if i%3 > 0 {
			d.thin(&h)
		}
		checkGrieving(t, h)
		grieved += len(impl.Grieved(h).Mourned) - len(h.Mourned)
		if !slices.Equal(impl.Nilled(h).Row, h.Row) {
			nilled++
		}
		d.spoilHeap(&h)
		if wantHeapOk(h) {
			checkGrieving(t, h)
			continue
		}
		wrong++
		checkNoGrieving(t, h)
	}
	if grieved < 200 || nilled < 100 || wrong < 300 {
		t.Fatalf("%d grieve, %d heaps are Nilled, %d are wrong", grieved, nilled, wrong)
	}
}

func TestGrievingOfGreatHeaps(t *testing.T) {
	d := &dice{n: 141414}
	for i := range 40 {
		h := d.heap(200, 400, []int64{0, 37, 40}[d.roll(3)])
		if i%2 == 1 {
			d.noted(&h)
		}
		if i%3 > 0 {
			d.thin(&h)
		}
		checkGrieving(t, h)
	}
}

// Answers to one heap, one beside the other, have nothing of one another; nor has a heap that is written over afterwards anything of its answers.
func TestGrievingAnswersShareNothing(t *testing.T) {
	eachRoom(func(side, s, n int64) {
		was := layout{below: joined(ephemOne(1, to(s+4), to(48)), one(2)), above: weakOne(3, to(s+4), to(48)), roots: []int64{to(s), to(48)}, mourned: []int64{to(48)}}
		w := watchHeap(was.heap(side))
		wrong := watchHeap(impl.Heap{Roots: six(num(1))})
		calls := []func() []int64{}
		for _, call := range []func(impl.Heap) impl.Heap{impl.Grieved, impl.Nilled} {
			for _, h := range []impl.Heap{w.heap, wrong.heap} {
				calls = append(calls,
					func() []int64 { return call(h).Row },
					func() []int64 { return call(h).Roots },
					func() []int64 { return call(h).Mourned },
					func() []int64 { return call(h).Seen })
			}
		}
		checkListsApart(t, calls, append(slices.Clone(w.lists), wrong.lists...)...)
		grieved, nilled := impl.Grieved(w.heap), impl.Nilled(w.heap)
		one, other := clonedHeap(grieved), clonedHeap(nilled)
		checkHeapApart(t, w.heap)
		if !sameHeap(grieved, one) || !sameHeap(nilled, other) {
			t.Fatalf("the heap, written into, changes an answer:\n%+v\n%+v", grieved, nilled)
		}
		if !slices.Equal(one.Mourned, []int64{to(48), to(s)}) || other.Row[49] != 2 || len(other.Seen) != 0 {
			t.Fatalf("Grieved\n%+v\nNilled\n%+v", one, other)
		}
	})
}
