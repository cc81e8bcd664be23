package tests

import (
	"slices"
	"testing"

	"loop.example/g00337/impl"
)

func TestMarksOfNewHeaps(t *testing.T) {
	for _, c := range [][3]int64{{8, 8, 0}, {8, 10, 3}, {200, 400, 65535}, {200, 8, 1}, {8, 400, 77}} {
		h, _ := impl.NewHeap(c[0], c[1], c[2])
		checkMarks(t, watchHeap(h), nil, nil, 0)
		checkMarking(t, h)
		h.Side = 1
		checkMarks(t, watchHeap(h), nil, nil, 0)
		checkMarking(t, h)
	}
}

func TestFurnishedMarkedByHand(t *testing.T) {
	eachSide(func(side int64) {
		s := 12 * side
		for _, c := range []struct {
			roots, mourned []int64
			marks          []int64
			words          int64
		}{
			{furnished(side).Roots, furnished(side).Mourned, []int64{s, s + 6, 24, 36, 40}, 16},
			{six(), nil, nil, 0},
			{six(num(s), num(24)), nil, nil, 0},
			{six(to(s)), nil, []int64{s, s + 6, 24, 36, 40}, 16},
			{six(to(24)), nil, []int64{24}, 4}, // it waits for who is at s
			{six(), []int64{to(s + 6)}, []int64{s + 6}, 2},
			{six(to(32)), []int64{to(s + 6)}, []int64{s + 6}, 2},
			{six(to(44)), nil, []int64{36}, 2},
			{six(), []int64{to(s + 4)}, []int64{s + 6, 36, 40}, 8},
		} {
			h := furnished(side)
			h.Roots, h.Mourned = c.roots, c.mourned
			checkMarks(t, watchHeap(h), c.marks, without(rightPlaces(side), c.marks), c.words)
			checkMarking(t, h)
		}
	})
}

// Each Root, and each of Mourned, with each word that it may be, alone and beside others that are alike.
func TestMarksFromEachRootAndMourned(t *testing.T) {
	eachRoom(func(side, s, n int64) {
		below := joined(one(1), note(s), note(48), one(2, num(3), 2))
		above := joined(one(3, num(1)), note(s+6), note(50), note(s+2), note(48))
		objects := []int64{s, s + 2, s + 4, s + 6, 48, 50, 52, 54, 56}
		for _, c := range []struct{ w, at, words int64 }{
			{2, -1, 0}, {num(0), -1, 0}, {num(s), -1, 0}, {num(48), -1, 0}, {num(-100000), -1, 0}, {num(100000), -1, 0},
			{to(s), s, 2}, {to(s + 6), s + 6, 4}, {to(48), 48, 2},
			{to(s + 2), s, 2}, {to(s + 4), 48, 2}, {to(50), s + 6, 4}, {to(56), 48, 2},
			{to(52), s + 6, 4}, {to(54), s, 2},
		} {
			marks := []int64{c.at}
			if c.at < 0 {
				marks = nil
			}
			check := func(h impl.Heap) {
				t.Helper()
				checkBoth(t, "a Root or one of Mourned", h, true)
				checkMarks(t, watchHeap(h), marks, without(objects, marks), c.words)
				checkMarking(t, h)
			}
			for root := range 6 {
				h := layout{below: below, above: above}.heap(side)
				h.Roots[root] = c.w
				check(h)
			}
			check(layout{below: below, above: above, roots: slices.Repeat([]int64{c.w}, 6)}.heap(side))
			if c.at < 0 {
				continue
			}
			for _, count := range []int{1, 2, 39, 40} {
				check(layout{below: below, above: above, mourned: slices.Repeat([]int64{c.w}, count)}.heap(side))
			}
			check(layout{below: below, above: above, roots: []int64{num(1), c.w}, mourned: []int64{c.w, to(c.at)}}.heap(side))
		}
	})
}

func TestMarksFromRootsAndMournedByHand(t *testing.T) {
	eachRoom(func(side, s, n int64) {
		three := joined(one(1, to(s+2)), one(2), one(3))
		checkMarkCases(t, side, []markCase{
			{"nobody leads in", layout{below: three, above: one(4, to(s))}, nil, []int64{s, s + 2, s + 4, 48}, 0},
			{"only Mourned leads there", layout{below: three, above: one(4), mourned: []int64{to(s)}}, []int64{s, s + 2}, []int64{s + 4, 48}, 4},
			{"only Mourned leads upstairs", layout{below: three, above: one(4, to(s+4)), mourned: []int64{to(48)}}, []int64{s + 4, 48}, []int64{s, s + 2}, 4},
			{"both", layout{below: three, above: one(4), roots: []int64{to(48)}, mourned: []int64{to(s)}}, []int64{s, s + 2, 48}, []int64{s + 4}, 6},
			{"the last of 40", layout{below: three, mourned: append(slices.Repeat([]int64{to(s + 4)}, 39), to(s+2))}, []int64{s + 2, s + 4}, []int64{s}, 4},
			{"the last Root", layout{below: three, roots: []int64{2, 2, 2, 2, 2, to(s)}}, []int64{s, s + 2}, []int64{s + 4}, 4},
			{"they rise, in whatever order they are led to", layout{below: three, above: joined(one(4), one(5)), roots: []int64{to(50), to(s + 4), to(48), to(s)}, mourned: []int64{to(48), to(s + 2)}}, []int64{s, s + 2, s + 4, 48, 50}, nil, 10},
		})
	})
}

// Objects of every Format, with no Slots and with each number of them, below and upstairs, where one Slot leads on: a FoPlain one keeps by each, a FoWeak one by none, a FoEphem one by all but the first.
func TestMarksByEachSlot(t *testing.T) {
	eachRoom(func(side, s, n int64) {
		for format := range int64(3) {
			for slots := range int64(21) {
				for i := int64(-1); i < slots; i++ {
					if format == impl.FoEphem && slots == 0 {
						continue
					}
					words := slices.Repeat([]int64{2}, int(slots))
					if i >= 0 {
						words[i] = to(48)
					}
					it := shaped(format, 1, words...)
					keeps := i >= 0 && (format == impl.FoPlain || format == impl.FoEphem && i > 0)
					low := markCase{"in the room", layout{below: it, above: one(2), roots: []int64{to(s)}}, []int64{s}, []int64{48}, int64(len(it))}
					high := markCase{"upstairs", layout{above: joined(one(2), it), mourned: []int64{to(50)}}, []int64{50}, []int64{48}, int64(len(it))}
					if keeps {
						low.marks, low.garbage, low.words = []int64{s, 48}, nil, low.words+2
						high.marks, high.garbage, high.words = []int64{48, 50}, nil, high.words+2
					}
					checkMarkCases(t, side, []markCase{low, high})
				}
			}
		}
	})
}

// All Slots lead to one: of a FoEphem one the first does, too, and so it waits for what only it leads to.
func TestMarksByAllSlots(t *testing.T) {
	eachRoom(func(side, s, n int64) {
		for format := range int64(3) {
			for _, slots := range []int64{1, 2, 3, 19, 20} {
				it := shaped(format, 1, slices.Repeat([]int64{to(48)}, int(slots))...)
				c := markCase{"alone", layout{below: it, above: one(2), roots: []int64{to(s)}}, []int64{s}, []int64{48}, int64(len(it))}
				if format == impl.FoPlain {
					c.marks, c.garbage, c.words = []int64{s, 48}, nil, c.words+2
				}
				checkMarkCases(t, side, []markCase{c})
			}
		}
	})
}

func TestMarksOfEveryHead(t *testing.T) {
	for _, head := range rightHeads() {
		if head.Format == 6 || head.Marked || head.Class%33 != 0 || head.Hash%65535 != 0 {
			continue
		}
		eachRoom(func(side, s, n int64) {
			up := headed(head, 48)
			h := layout{above: joined(one(1), up), roots: []int64{2, to(50)}}.heap(side)
			marks, words := []int64{50}, int64(len(up))
			switch {
			case head.Format == impl.FoForward:
				marks, words = []int64{48}, 2
			case head.Format == impl.FoPlain && head.Slots > 0:
				marks, words = []int64{48, 50}, words+2
			}
			checkMarks(t, watchHeap(h), marks, without([]int64{48, 50}, marks), words)
			checkAsReached(t, h)
		})
	}
}

func TestMarksOfPlainOnes(t *testing.T) {
	eachRoom(func(side, s, n int64) {
		checkMarkCases(t, side, []markCase{
			{"one after the other", layout{below: joined(one(1, to(s+2)), one(2, to(s+4)), one(3), one(4)), roots: []int64{to(s)}}, []int64{s, s + 2, s + 4}, []int64{s + 6}, 6},
			{"against the order in which they lie", layout{below: joined(one(1), one(2), one(3, to(s+2)), one(4, to(s+4))), roots: []int64{to(s + 6)}}, []int64{s + 2, s + 4, s + 6}, []int64{s}, 6},
			{"only from there on", layout{below: joined(one(1, to(s+2)), one(2, to(s+4)), one(3)), roots: []int64{to(s + 2)}}, []int64{s + 2, s + 4}, []int64{s}, 4},
			{"round to itself", layout{below: joined(one(1, to(s)), one(2, to(s+2))), roots: []int64{to(s)}}, []int64{s}, []int64{s + 2}, 2},
			{"round to one another", layout{below: joined(one(1, to(s+2)), one(2, to(s)), one(3, to(s+6)), one(4, to(s+4))), roots: []int64{to(s + 2)}}, []int64{s, s + 2}, []int64{s + 4, s + 6}, 4},
			{"upstairs and back", layout{below: joined(one(1, to(48)), one(2, to(50)), one(3)), above: joined(one(4, to(s+2)), one(5, to(s)), one(6)), roots: []int64{to(s)}}, []int64{s, s + 2, 48, 50}, []int64{s + 4, 52}, 8},
			{"below and back", layout{below: joined(one(1, to(50)), one(2)), above: joined(one(3, to(s)), one(4), one(5)), mourned: []int64{to(48)}}, []int64{s, 48, 50}, []int64{s + 2, 52}, 6},
			{"two by one", layout{below: joined(one(1, to(s+4), to(48)), one(2), one(3)), above: one(4), roots: []int64{to(s)}}, []int64{s, s + 4, 48}, []int64{s + 6}, 8},
			{"one by two", layout{below: joined(one(1, to(s+4)), one(2, to(s+4)), one(3)), roots: []int64{to(s), to(s + 2)}}, []int64{s, s + 2, s + 4}, nil, 6},
			{"numbers and Nil keep nothing", layout{below: joined(one(1, num(s+4), 2, num(48)), one(2)), above: one(3), roots: []int64{to(s)}}, []int64{s}, []int64{s + 4, 48}, 4},
			{"Pinned ones are marked as others are", layout{below: one(1, to(50)), above: joined([]int64{pinned, 0}, []int64{pinned + 1, to(52)}, one(2)), roots: []int64{to(s)}}, []int64{s, 50, 52}, []int64{48}, 6},
		})
	})
}

func TestMarksOfWeakOnes(t *testing.T) {
	eachRoom(func(side, s, n int64) {
		both := joined(weakOne(1, to(s+4), to(48)), one(2), one(3, to(48)))
		checkMarkCases(t, side, []markCase{
			{"it leads nowhere on", layout{below: both, above: one(4), roots: []int64{to(s)}}, []int64{s}, []int64{s + 4, s + 6, 48}, 4},
			{"but others do", layout{below: both, above: one(4), roots: []int64{to(s), to(s + 6)}}, []int64{s, s + 6, 48}, []int64{s + 4}, 8},
			{"others ahead of it", layout{below: both, above: one(4), roots: []int64{to(s + 4), to(s)}}, []int64{s, s + 4}, []int64{s + 6, 48}, 6},
			{"Mourned does", layout{below: both, above: one(4), roots: []int64{to(s)}, mourned: []int64{to(48)}}, []int64{s, 48}, []int64{s + 4, s + 6}, 6},
			{"nobody leads to it", layout{below: both, above: one(4), roots: []int64{to(s + 4)}}, []int64{s + 4}, []int64{s, s + 6, 48}, 2},
			{"one leads to another", layout{below: joined(weakOne(1, to(s+2)), weakOne(2, to(s))), roots: []int64{to(s)}}, []int64{s}, []int64{s + 2}, 2},
			{"to itself", layout{below: weakOne(1, to(s)), above: weakOne(2, to(48)), roots: []int64{to(s)}}, []int64{s}, []int64{48}, 2},
			{"to a note", layout{below: joined(weakOne(1, to(48)), one(2)), above: note(s + 2), roots: []int64{to(s)}}, []int64{s}, []int64{s + 2, 48}, 2},
			{"behind a FoPlain one", layout{below: joined(one(1, to(s+2)), weakOne(2, to(s+4)), one(3)), roots: []int64{to(s)}}, []int64{s, s + 2}, []int64{s + 4}, 4},
		})
	})
}

// A FoEphem one at s, whose second Slot leads to s + 4; what its first Slot leads to is at s + 6.
func TestMarksOfEphemOnes(t *testing.T) {
	eachRoom(func(side, s, n int64) {
		it := func(w int64, more ...[]int64) []int64 {
			return joined(ephemOne(1, w, to(s+4)), one(2), one(3), joined(more...))
		}
		from := []int64{to(s)}
		with := func(w int64) []int64 { return []int64{to(s), w} }
		open, shut := []int64{s, s + 4}, []int64{s + 4, s + 6}
		all := []int64{s, s + 4, s + 6}
		checkMarkCases(t, side, []markCase{
			{"Nil", layout{below: it(2), roots: from}, open, []int64{s + 6}, 6},
			{"a number", layout{below: it(num(0)), roots: from}, open, []int64{s + 6}, 6},
			{"a number that is a place", layout{below: it(num(s + 6)), roots: from}, open, []int64{s + 6}, 6},
			{"one that is not marked", layout{below: it(to(s + 6)), roots: from}, []int64{s}, shut, 4},
			{"one that is marked by others, later", layout{below: it(to(s + 6)), roots: with(to(s + 6))}, all, nil, 8},
			{"one that is marked by others, ahead of it", layout{below: it(to(s + 6)), roots: []int64{to(s + 6), to(s)}}, all, nil, 8},
			{"one that Mourned leads to", layout{below: it(to(s + 6)), roots: from, mourned: []int64{to(s + 6)}}, all, nil, 8},
			{"only Mourned leads to it", layout{below: it(to(s + 6)), roots: []int64{to(s + 6)}, mourned: from}, all, nil, 8},
			{"the FoEphem one itself", layout{below: it(to(s)), roots: from}, open, []int64{s + 6}, 6},
			{"one that only another Slot leads to", layout{below: it(to(s + 4)), roots: from}, []int64{s}, shut, 4},
			{"one that another Slot leads to, and a Root", layout{below: it(to(s + 4)), roots: with(to(s + 4))}, open, []int64{s + 6}, 6},
			{"nobody leads to it", layout{below: it(2), roots: []int64{to(s + 6)}}, []int64{s + 6}, []int64{s, s + 4}, 2},
			{"one that only a FoWeak one leads to", layout{below: it(to(s+6), weakOne(4, to(s+6))), roots: with(to(s + 8))}, []int64{s, s + 8}, shut, 6},
			{"one that a FoPlain one leads to, later", layout{below: it(to(s+6), one(4, to(s+6))), roots: with(to(s + 8))}, []int64{s, s + 4, s + 6, s + 8}, nil, 10},
			{"one that a FoPlain one leads to that nobody leads to", layout{below: it(to(s+6), one(4, to(s+6))), roots: from}, []int64{s}, []int64{s + 4, s + 6, s + 8}, 4},
			{"one that is marked at the end of a row", layout{below: it(to(s+6), one(4, to(s+10)), one(5, to(48))), above: one(6, to(s+6)), roots: with(to(s + 8))}, []int64{s, s + 4, s + 6, s + 8, s + 10, 48}, nil, 14},
			{"one upstairs that is not marked", layout{below: it(to(48)), above: one(4), roots: from}, []int64{s}, []int64{s + 4, s + 6, 48}, 4},
			{"one upstairs that is marked", layout{below: it(to(48)), above: one(4), roots: with(to(48))}, []int64{s, s + 4, 48}, []int64{s + 6}, 8},
		})
		checkMarkCases(t, side, []markCase{
			{"a note that leads to one that is not marked", layout{below: it(to(48)), above: note(s + 6), roots: from}, []int64{s}, []int64{s + 4, s + 6, 48}, 4},
			{"a note that leads to one that is", layout{below: it(to(48)), above: note(s + 6), roots: with(to(s + 6))}, all, []int64{48}, 8},
			{"a note to which a Root leads, too", layout{below: it(to(48)), above: note(s + 6), roots: with(to(48))}, all, []int64{48}, 8},
			{"one to which a Root leads over a note", layout{below: it(to(s + 6)), above: note(s + 6), roots: with(to(48))}, all, []int64{48}, 8},
			{"a note that leads to the FoEphem one", layout{below: it(to(48)), above: note(s), roots: from}, open, []int64{s + 6, 48}, 6},
			{"notes, one after the other, that lead to the FoEphem one", layout{below: it(to(48), note(s)), above: note(s + 8), roots: from}, open, []int64{s + 6, s + 8, 48}, 6},
			{"notes, one after the other, that lead to one that is not marked", layout{below: it(to(48), note(s+6)), above: note(s + 8), roots: from}, []int64{s}, []int64{s + 4, s + 6, s + 8, 48}, 4},
			{"the second Slot leads to a note", layout{below: joined(ephemOne(1, 2, to(48)), one(2)), above: note(s + 4), roots: from}, open, []int64{48}, 6},
			{"both Slots lead to notes of one", layout{below: joined(ephemOne(1, to(48), to(50)), one(2)), above: joined(note(s+4), note(s+4)), roots: from}, []int64{s}, []int64{s + 4, 48, 50}, 4},
			{"over notes to itself, and on", layout{below: joined(ephemOne(1, to(48), to(50)), one(2)), above: joined(note(s), note(s+4)), roots: []int64{to(48)}}, open, []int64{48, 50}, 6},
		})
		checkMarkCases(t, side, []markCase{
			{"one that leads to what the first Slot leads to", layout{below: joined(ephemOne(1, to(s+6), to(s+4)), one(2, to(s+6)), one(3)), roots: from}, []int64{s}, shut, 4},
			{"the one of the first Slot leads back", layout{below: joined(ephemOne(1, to(s+6), to(s+4)), one(2), one(3, to(s))), roots: from}, []int64{s}, shut, 4},
			{"it is led to by the one of its first Slot", layout{below: joined(ephemOne(1, to(s+6), to(s+4)), one(2), one(3, to(s))), roots: []int64{to(s + 6)}}, all, nil, 8},
			{"the first Slot alone", layout{below: joined(ephemOne(1, to(s+2)), one(2)), roots: from}, []int64{s}, []int64{s + 2}, 2},
			{"the first Slot alone, to itself", layout{below: joined(ephemOne(1, to(s)), one(2)), roots: from}, []int64{s}, []int64{s + 2}, 2},
			{"the first Slot alone, Nil", layout{below: joined(ephemOne(1, 2), one(2)), roots: from}, []int64{s}, []int64{s + 2}, 2},
			{"upstairs, of one below", layout{below: joined(one(1), one(2)), above: ephemOne(3, to(s), to(s+2)), roots: []int64{to(48)}}, []int64{48}, []int64{s, s + 2}, 4},
			{"upstairs, of one below that is marked", layout{below: joined(one(1), one(2)), above: ephemOne(3, to(s), to(s+2)), roots: []int64{to(48), to(s)}}, []int64{s, s + 2, 48}, nil, 8},
			{"two that wait for one", layout{below: joined(ephemOne(1, to(s+8), to(48)), ephemOne(2, to(s+8), to(50)), one(3)), above: joined(one(4), one(5)), roots: []int64{to(s), to(s + 4), to(s + 8)}}, []int64{s, s + 4, s + 8, 48, 50}, nil, 14},
			{"two that wait for one in vain", layout{below: joined(ephemOne(1, to(s+8), to(48)), ephemOne(2, to(s+8), to(50)), one(3)), above: joined(one(4), one(5)), roots: []int64{to(s), to(s + 4)}}, []int64{s, s + 4}, []int64{s + 8, 48, 50}, 8},
		})
	})
}

// FoEphem ones that wait for one another: each leads to what the next one waits for.
func TestMarksOfEphemOnesThatWaitInARow(t *testing.T) {
	eachRoom(func(side, s, n int64) {
		row := func(a, b, c int64) []int64 {
			return joined(ephemOne(1, to(48+a), to(50+a)), ephemOne(2, to(48+b), to(50+b)), ephemOne(3, to(48+c), to(50+c)))
		}
		keys := joined(one(4), one(5), one(6), one(7))
		three := []int64{to(s), to(s + 4), to(s + 8)}
		all := []int64{s, s + 4, s + 8, 48, 50, 52, 54}
		for _, order := range [][3]int64{{0, 2, 4}, {4, 2, 0}, {2, 4, 0}, {2, 0, 4}, {0, 4, 2}, {4, 0, 2}} {
			below := row(order[0], order[1], order[2])
			checkMarkCases(t, side, []markCase{
				{"the first one's comes last", layout{below: below, above: keys, roots: append(slices.Clone(three), to(48))}, all, nil, 20},
				{"the first one's comes first", layout{below: below, above: keys, roots: append([]int64{to(48)}, three...)}, all, nil, 20},
				{"the first one's by Mourned", layout{below: below, above: keys, roots: three, mourned: []int64{to(48)}}, all, nil, 20},
				{"from the second one on", layout{below: below, above: keys, roots: append(slices.Clone(three), to(50))}, []int64{s, s + 4, s + 8, 50, 52, 54}, []int64{48}, 18},
				{"from the last one on", layout{below: below, above: keys, roots: append(slices.Clone(three), to(52))}, []int64{s, s + 4, s + 8, 52, 54}, []int64{48, 50}, 16},
				{"none", layout{below: below, above: keys, roots: append(slices.Clone(three), to(54))}, []int64{s, s + 4, s + 8, 54}, []int64{48, 50, 52}, 14},
			})
		}
	})
}

func TestMarksOfEphemOnesInARing(t *testing.T) {
	eachRoom(func(side, s, n int64) {
		two := joined(ephemOne(1, to(s+4), to(48)), ephemOne(2, to(s), to(50)))
		keys := joined(ephemOne(1, to(48), to(50)), ephemOne(2, to(50), to(48)))
		each := joined(ephemOne(1, to(s+4), to(s+4)), ephemOne(2, to(s), to(s)))
		pair := joined(one(3), one(4))
		checkMarkCases(t, side, []markCase{
			{"for one another, both led to", layout{below: two, above: pair, roots: []int64{to(s), to(s + 4)}}, []int64{s, s + 4, 48, 50}, nil, 12},
			{"for one another, one led to", layout{below: two, above: pair, roots: []int64{to(s)}}, []int64{s}, []int64{s + 4, 48, 50}, 4},
			{"for one another, the other led to", layout{below: two, above: pair, mourned: []int64{to(s + 4)}}, []int64{s + 4}, []int64{s, 48, 50}, 4},
			{"for what the other one leads to", layout{below: keys, above: pair, roots: []int64{to(s), to(s + 4)}}, []int64{s, s + 4}, []int64{48, 50}, 8},
			{"for what the other one leads to, and a Root does", layout{below: keys, above: pair, roots: []int64{to(s), to(s + 4), to(50)}}, []int64{s, s + 4, 48, 50}, nil, 12},
			{"by both Slots", layout{below: each, roots: []int64{to(s)}}, []int64{s}, []int64{s + 4}, 4},
			{"by both Slots, both led to", layout{below: each, roots: []int64{to(s + 4), to(s)}}, []int64{s, s + 4}, nil, 8},
			{"nobody leads to it", layout{below: each, above: pair, roots: []int64{to(48)}}, []int64{48}, []int64{s, s + 4, 50}, 2},
		})
	})
}

// Who is led to over notes is marked; the notes are not, nor is what else is written in them.
func TestMarksOverNotes(t *testing.T) {
	eachRoom(func(side, s, n int64) {
		it := one(8, num(3))
		checkMarkCases(t, side, []markCase{
			{"one in the room", layout{below: joined(it, note(s)), roots: []int64{to(s + 2)}}, []int64{s}, []int64{s + 2}, 2},
			{"one upstairs", layout{below: it, above: note(s), roots: []int64{to(48)}}, []int64{s}, []int64{48}, 2},
			{"one after the other", layout{below: joined(note(50), it, note(s+2)), above: joined(note(s+4), note(48)), roots: []int64{to(s)}}, []int64{s + 2}, []int64{s, s + 4, 48, 50}, 2},
			{"notes that nobody leads to keep nothing", layout{below: joined(it, note(s)), above: note(s + 2)}, nil, []int64{s, s + 2, 48}, 0},
			{"notes of what is marked are not", layout{below: joined(it, note(s)), above: note(s), roots: []int64{to(s)}}, []int64{s}, []int64{s + 2, 48}, 2},
			{"a Slot leads to one", layout{below: joined(one(1, to(48)), it), above: note(s + 2), roots: []int64{to(s)}}, []int64{s, s + 2}, []int64{48}, 4},
			{"an object that leads to its own note", layout{below: one(1, to(48)), above: note(s), roots: []int64{to(48)}}, []int64{s}, []int64{48}, 2},
			{"a note that was greater", layout{below: joined([]int64{noteHead + 3, to(48), to(s + 4), to(50)}, one(1)), above: joined(it, one(2)), roots: []int64{to(s)}}, []int64{48}, []int64{s, s + 4, 50}, 2},
			{"a Pinned note", layout{above: joined([]int64{noteHead + pinned, to(50)}, it), roots: []int64{to(48)}}, []int64{50}, []int64{48}, 2},
		})
	})
}

// What is free, and what is left over behind Slots, is no object, and keeps nothing.
func TestMarksOfNoObjects(t *testing.T) {
	eachRoom(func(side, s, n int64) {
		checkMarkCases(t, side, []markCase{
			{"free chunks between", layout{above: joined(free(4, to(54), to(58)), one(1, to(56)), free(2), one(2), free(6, to(56))), roots: []int64{to(52)}}, []int64{52, 56}, nil, 4},
			{"free chunks lead nowhere", layout{below: one(1), above: joined(free(4, to(s), to(s)), one(2)), roots: []int64{to(52)}}, []int64{52}, []int64{s}, 2},
			{"all upstairs is free", layout{below: joined(one(1), one(2)), roots: []int64{to(s)}}, []int64{s}, []int64{s + 2}, 2},
			{"the last words upstairs", layout{above: joined(free(56), one(1), one(2)), mourned: []int64{to(106)}}, []int64{106}, []int64{104}, 2},
			{"left over", layout{below: joined([]int64{65536, to(s + 6)}, []int64{2, 2, 2, to(s + 6)}, one(1)), roots: []int64{to(s), to(s + 2)}}, []int64{s, s + 2}, []int64{s + 6}, 6},
			{"left over, of FoEphem", layout{below: joined([]int64{64*2 + 2, 2, 2, to(s + 4)}, one(1)), roots: []int64{to(s)}}, []int64{s}, []int64{s + 4}, 4},
			{"nothing in the room", layout{above: one(1)}, nil, []int64{48}, 0},
		})
	})
}

// Behind Top all words are 0, as those of an object without Slots are: yet there is none.
func TestMarksUpToTop(t *testing.T) {
	eachRoom(func(side, s, n int64) {
		for top := int64(0); top <= 24; top += 2 {
			h := layout{below: zeros(int(top)), above: zeros(60), mourned: []int64{to(106)}}.heap(side)
			marks, garbage := []int64{106}, []int64{}
			for at := s; at < s+top; at += 2 {
				garbage = append(garbage, at)
			}
			for at := int64(48); at < 106; at += 2 {
				garbage = append(garbage, at)
			}
			checkMarks(t, watchHeap(h), marks, garbage, 2)
			checkMarking(t, h)
			if top > 0 {
				last := s + top - 2
				h.Roots[0] = to(last)
				checkMarks(t, watchHeap(h), []int64{last, 106}, without(garbage, []int64{last}), 4)
				checkMarking(t, h)
			}
			h.Roots[0] = to(s + top)
			// Behind a second half that is full, upstairs begins.
			if s+top < 48 {
				checkBoth(t, "a Root leads behind Top", h, false)
				checkNoMarking(t, h)
			}
		}
	})
}

// Notes one after the other through all of a heap, whatever their order: the object at their end alone is marked.
func TestMarksOverLongWays(t *testing.T) {
	d := &dice{n: 13}
	for _, c := range [][2]int64{{8, 8}, {10, 30}, {100, 8}, {8, 300}, {200, 400}} {
		eachSide(func(side int64) {
			d.eachOrder(pairsOf(c[0], c[1], side), func(places []int64) {
				h := heapOf(c[0], c[1], side, zeros(int(c[0])), zeros(int(c[1])))
				last := len(places) - 1
				for i, at := range places[:last] {
					h.Row[at], h.Row[at+1] = noteHead+int64(i%2), to(places[i+1])
				}
				end := places[last]
				h.Row[end], h.Row[end+1] = 1, to(places[0])
				rightSeen(&h)
				objects := slices.Sorted(slices.Values(places))
				checkMarks(t, watchHeap(h), nil, objects, 0)
				for _, from := range []int{0, last / 2, last} {
					h.Mourned = []int64{to(places[from])}
					checkMarks(t, watchHeap(h), []int64{end}, without(objects, []int64{end}), 2)
					checkParts(t, h)
					checkAsReached(t, h)
				}
			})
		})
	}
}

// More are led to than can be Shown: they are marked all the same.
func TestMarksOfMoreThanIsShown(t *testing.T) {
	eachSide(func(side int64) {
		for _, n := range []int{1, 2, 199, 200, 201, 202, 299, 300} {
			for order := range 2 {
				places := pairsOf(200, 400, side)
				if order == 1 {
					slices.Reverse(places)
				}
				h := rowOfObjects(side, n, places, n%2 == 0)
				marks := slices.Sorted(slices.Values(places[:n]))
				garbage := slices.Sorted(slices.Values(places[n:]))
				checkMarks(t, watchHeap(h), marks, garbage, int64(2*n))
				checkParts(t, h)
				checkAsReached(t, h)
				if shown := len(impl.Shown(h).Objs); n <= 200 && shown != n || n > 200 && shown != 0 {
					t.Fatalf("%d objects, of which %d are Shown", n, shown)
				}
			}
		}
	})
}

// eachLaying lays graphs of n Objs into great heaps on both sides, in three orders, with words that lead straight and over notes.
func eachLaying(d *dice, n int, look func(l laying)) {
	eachSide(func(side int64) {
		for _, order := range d.ordersOf(n) {
			for _, noted := range []bool{false, true} {
				look(laying{half: 200, old: 400, side: side, order: order, noted: noted})
			}
		}
	})
}

// Many FoEphem ones that wait for one another in a row: all are open where the first one is, and none where it is not.
func TestMarksOfLongRowsOfEphemOnes(t *testing.T) {
	d := &dice{n: 131}
	for _, n := range []int64{1, 2, 3, 21, 50} {
		for _, at := range []func(int64) int64{
			func(i int64) int64 { return 1 + 3*i },
			func(i int64) int64 { return 1 + 3*(2*n-i) },
		} {
			open, shut := chain(n, at, true), chain(n, at, false)
			eachLaying(d, len(open.Objs), func(l laying) {
				if h := l.checkLaid(t, open); len(impl.Marks(h)) != len(open.Objs) {
					t.Fatalf("%d in a row: %d of %d are marked", n, len(impl.Marks(h)), len(open.Objs))
				}
				// Those that wait and those by which they are led to; not what they wait for.
				if h := l.checkLaid(t, shut); len(impl.Marks(h)) != len(open.Objs)-int(n)-1 {
					t.Fatalf("%d in a row: %d of %d are marked", n, len(impl.Marks(h)), len(open.Objs))
				}
			})
		}
	}
}

// FoEphem ones that are led to one by the other, each of which waits for one that is led to last of all.
func TestMarksOfEphemOnesThatAwaitTheLast(t *testing.T) {
	d := &dice{n: 132}
	for _, n := range []int64{2, 3, 90} {
		objs := []impl.Obj{}
		for id := int64(1); id < n; id++ {
			objs = append(objs, ephem(id, rObj(n), rObj(id+1)))
		}
		g := graphOf(append(objs, plain(n)), sixRoots(rObj(1)))
		eachLaying(d, int(n), func(l laying) {
			g.Roots, g.Mourned = sixRoots(rObj(1)), nil
			if h := l.checkLaid(t, g); len(impl.Marks(h)) != 1 {
				t.Fatalf("of %d that await the last are marked %v", n, impl.Marks(h))
			}
			g.Roots, g.Mourned = sixRoots(rObj(1)), []impl.Ref{rObj(n)}
			if h := l.checkLaid(t, g); len(impl.Marks(h)) != int(n) {
				t.Fatalf("of %d that await the last, which is led to, are marked %v", n, impl.Marks(h))
			}
		})
	}
}

// FoEphem ones each of which waits for the next one, the last one for the first: who is led to is marked, and what the one ahead of it leads to.
func TestMarksOfLongRingsOfEphemOnes(t *testing.T) {
	d := &dice{n: 133}
	for _, n := range []int64{1, 2, 3, 40} {
		objs, all := []impl.Obj{}, []impl.Ref{}
		for id := int64(1); id <= n; id++ {
			objs = append(objs, ephem(id, rObj(id%n+1), rObj(n+id)))
			all = append(all, rObj(id))
		}
		for id := n + 1; id <= 2*n; id++ {
			objs = append(objs, plain(id))
		}
		eachLaying(d, int(2*n), func(l laying) {
			g := graphOf(objs, sixRoots(), all...)
			if h := l.checkLaid(t, g); len(impl.Marks(h)) != int(2*n) {
				t.Fatalf("of a ring of %d, all led to, are marked %v", n, impl.Marks(h))
			}
			g = graphOf(objs, sixRoots(rObj(n)))
			want := 1
			if n == 1 {
				want = 2 // it waits for itself
			}
			if h := l.checkLaid(t, g); len(impl.Marks(h)) != want {
				t.Fatalf("of a ring of %d, one led to, are marked %v", n, impl.Marks(h))
			}
		})
	}
}

// All graphs of two Objs with up to two Slots, laid out by turns in each way.
func TestMarksOfAllSmallGraphs(t *testing.T) {
	layings := []laying{}
	for i := range 8 {
		l := laying{half: 8, old: 16, side: int64(i & 1), order: []int{0, 1}, noted: i&2 != 0}
		if i&4 != 0 {
			l.order = []int{1, 0}
		}
		layings = append(layings, l)
	}
	refs := []impl.Ref{rNil, rInt(1), rObj(1), rObj(2)}
	turn := 0
	for _, a := range objsOver(1, refs, 2) {
		for _, b := range objsOver(2, refs, 2) {
			for _, r := range refs {
				for _, mourned := range [][]impl.Ref{nil, {rObj(1)}, {rObj(2)}} {
					layings[turn%8].checkLaid(t, graphOf([]impl.Obj{a, b}, sixRoots(rNil, r), mourned...))
					turn++
				}
			}
			// So that the next two come to be laid out in another way.
			turn++
		}
	}
}

// All ways in which three FoEphem ones with two Slots can wait for and lead to one another.
func TestMarksOfThreeEphemOnes(t *testing.T) {
	refs := []impl.Ref{rNil, rObj(1), rObj(2), rObj(3)}
	orders := [][]int{{0, 1, 2}, {2, 1, 0}, {1, 2, 0}}
	for i, roots := range [][]impl.Ref{{rObj(1)}, {rObj(2)}, {rObj(3)}, {rObj(3), rObj(1)}} {
		for n := range 1 << 12 {
			at := func(i int) impl.Ref { return refs[n>>(2*i)&3] }
			g := graphOf([]impl.Obj{ephem(1, at(0), at(1)), ephem(2, at(2), at(3)), ephem(3, at(4), at(5))}, sixRoots(roots...))
			turn := n + n/64 + i
			l := laying{half: 8, old: 20, side: int64(turn & 1), order: orders[turn%3], noted: turn&2 != 0}
			l.checkLaid(t, g)
		}
	}
}

// Graphs by dice, to most of whose Objs only few lead.
func TestMarksOfManyGraphs(t *testing.T) {
	d := &dice{n: 134}
	marks, waiting := 0, 0
	for i := range int64(600) {
		g := d.sparse(i%24, 1+i%4, i%3)
		for _, order := range d.ordersOf(len(g.Objs)) {
			l := laying{half: 8 + 2*d.roll(40), old: 260, side: d.roll(2), order: order, noted: d.roll(2) == 0}
			h := l.checkLaid(t, g)
			checkParts(t, h)
			checkAsReached(t, h)
			marks += len(impl.Marks(h))
			waiting += len(impl.Grieving(impl.Shown(h)))
		}
	}
	if marks < 1000 || waiting < 200 {
		t.Fatalf("these graphs tell too little: %d are marked, %d wait in vain", marks, waiting)
	}
}

// Each Root, each of Mourned, each Slot and each note of what is furnished, with every word that it may be.
func TestMarkingWithOneWordChanged(t *testing.T) {
	eachSide(func(side int64) {
		s := 12 * side
		words := []int64{2, num(0), num(s), num(-100000)}
		for _, at := range rightPlaces(side) {
			words = append(words, to(at))
		}
		places := []func(h *impl.Heap) *int64{}
		for i := range 6 {
			places = append(places, func(h *impl.Heap) *int64 { return &h.Roots[i] })
		}
		for i := range 3 {
			places = append(places, func(h *impl.Heap) *int64 { return &h.Mourned[i] })
		}
		for _, at := range []int64{s + 1, s + 2, s + 5, s + 7, 25, 26, 33, 39, 41, 42, 43, 45} {
			places = append(places, func(h *impl.Heap) *int64 { return &h.Row[at] })
		}
		right := 0
		for _, place := range places {
			for _, word := range words {
				// But for one Root, and who is at 36, nobody leads in at first: so each word tells.
				for _, root := range []int64{2, to(s), to(24), to(40), to(44), to(s + 6)} {
					h := furnished(side)
					h.Roots, h.Mourned = six(2, root), slices.Repeat([]int64{to(36)}, 3)
					*place(&h) = word
					rightSeen(&h)
					if wantHeapOk(h) {
						right++
						checkMarking(t, h)
						checkLeastMarks(t, h)
					} else {
						checkNoMarking(t, h)
					}
				}
			}
		}
		if right < 1000 {
			t.Fatalf("only %d are right", right)
		}
	})
}

// Four notes and two objects, a FoEphem one and a FoPlain one: each note leads to each of them.
func TestMarkingNotesInEveryWay(t *testing.T) {
	eachSide(func(side int64) {
		s := 14 * side
		places := []int64{s, s + 2, 28, 30, s + 4, 32}
		right := 0
		eachShortRow(4, places, func(list []int64) {
			below := joined(note(list[0]), note(list[1]), ephemOne(11, to(s), to(28), to(32)))
			above := joined(note(list[2]), note(list[3]), one(12, to(30), to(s+2)))
			h := heapOf(14, 14, side, below, above)
			for _, root := range []int64{s, s + 2, 28, 30} {
				h.Roots[1] = to(root)
				rightSeen(&h)
				if wantHeapOk(h) {
					right++
					checkMarks(t, watchHeap(h), wantMarks(h), wantGarbage(h), wantLiveWords(h))
					checkAsReached(t, h)
				} else if list[0] == s {
					checkNoMarking(t, h)
				}
			}
		})
		// So many ways are forests with the two objects as their roots, each from four places on: 2 times 6 to the power of 3.
		if right != 4*432 {
			t.Fatalf("%d ways are right, want %d", right, 4*432)
		}
	})
}

func TestMarkingOfWrongHeaps(t *testing.T) {
	eachSide(func(side int64) {
		eachSpoilt(t, side, func(h impl.Heap) { checkNoMarking(t, h) })
	})
	checkNoMarking(t, impl.Heap{})
}

// Right heaps, as they come, with many notes and with few words that lead in, and the same with something spoilt.
func TestMarkingOfManyHeaps(t *testing.T) {
	d := &dice{n: 1313}
	left, waiting, wrong, least := 0, 0, 0, 0
	for i := range 1500 {
		h := d.heap(8+2*d.roll(10), 8+2*d.roll(20), d.roll(3))
		if i%2 == 1 {
			d.noted(&h)
		}
		if i%3 > 0 {
			d.thin(&h)
		}
		checkMarking(t, h)
		left += len(bareGraph(h).Objs) - len(impl.Marks(h))
		waiting += len(impl.Grieving(impl.Shown(h)))
		if len(bareGraph(h).Objs) <= 8 {
			least++
			checkLeastMarks(t, h)
		}
		d.spoilHeap(&h)
		if wantHeapOk(h) {
			checkMarking(t, h)
			continue
		}
		wrong++
		checkNoMarking(t, h)
	}
	if left < 500 || waiting < 100 || wrong < 300 || least < 300 {
		t.Fatalf("%d objects are not marked, %d wait in vain, %d heaps are wrong, %d are small", left, waiting, wrong, least)
	}
}

func TestMarkingOfGreatHeaps(t *testing.T) {
	d := &dice{n: 131313}
	for i := range 60 {
		h := d.heap(200, 400, 40*d.roll(2))
		if i%2 == 1 {
			d.noted(&h)
		}
		if i%3 > 0 {
			d.thin(&h)
		}
		checkMarking(t, h)
	}
}

// A Slot in which what is Fetched is Stored again, and an object that is Tenured: the same are marked, in as many words.
func TestMarkingAfterOthers(t *testing.T) {
	d := &dice{n: 13131}
	tenured := 0
	for range 200 {
		h := d.heap(8+2*d.roll(20), 40+2*d.roll(60), d.roll(3))
		d.thin(&h)
		for _, at := range impl.Objects(h) {
			if w, is := impl.Fetched(h, at, 0); is {
				stored, _ := impl.Stored(h, at, 0, w)
				if one, other := impl.Marks(h), impl.Marks(stored); !slices.Equal(one, other) {
					t.Fatalf("%+v\nMarks %v, Stored %v", h, one, other)
				}
			}
			made, is := impl.Tenured(h, at)
			if !is {
				continue
			}
			tenured++
			checkMarking(t, made)
			if one, other := impl.LiveWords(h), impl.LiveWords(made); one != other || !slices.Contains(impl.Garbage(made), at) {
				t.Fatalf("%+v\nLiveWords %d, Tenured at %d %d, Garbage %v", h, one, at, other, impl.Garbage(made))
			}
			h = made
		}
	}
	if tenured < 300 {
		t.Fatalf("only %d are Tenured", tenured)
	}
}

// Answers to one heap, one beside the other, have nothing of one another; nor has a heap that is written over afterwards anything of its answers.
func TestMarkingAnswersShareNothing(t *testing.T) {
	eachSide(func(side int64) {
		s := 12 * side
		w := watchHeap(furnished(side))
		wrong := watchHeap(impl.Heap{Roots: six(num(1))})
		calls := []func() []int64{
			func() []int64 { return impl.Marks(w.heap) },
			func() []int64 { return impl.Garbage(w.heap) },
			func() []int64 { return impl.Marks(wrong.heap) },
			func() []int64 { return impl.Garbage(wrong.heap) },
			func() []int64 { return impl.Objects(w.heap) },
		}
		checkListsApart(t, calls, append(w.lists, wrong.lists...)...)
		marks, garbage, words := impl.Marks(w.heap), impl.Garbage(w.heap), impl.LiveWords(w.heap)
		checkHeapApart(t, w.heap)
		if !slices.Equal(marks, []int64{s, s + 6, 24, 36, 40}) || !slices.Equal(garbage, []int64{s + 4, 32, 38, 44}) || words != 16 {
			t.Fatalf("the heap, written into, changes an answer: %v, %v, %d", marks, garbage, words)
		}
	})
}
