package tests

import (
	"math"
	"slices"
	"testing"

	"loop.example/g00337/impl"
)

// eachRoom tells where the room is and where it comes to be, of halves of 24 words.
func eachRoom(look func(side, s, n int64)) {
	eachSide(func(side int64) { look(side, 24*side, 24-24*side) })
}

// filled is an object with this word in each of so many Slots.
func filled(hash, slots, w int64) []int64 {
	return one(hash, slices.Repeat([]int64{w}, int(slots))...)
}

func TestScavengedOfNewHeaps(t *testing.T) {
	for _, c := range [][3]int64{{8, 8, 0}, {8, 10, 3}, {200, 400, 65535}, {200, 8, 1}, {8, 400, 77}} {
		h, _ := impl.NewHeap(c[0], c[1], c[2])
		want := clonedHeap(h)
		want.Side = 1
		checkScavenged(t, watchHeap(h), want)
		checkCarried(t, watchHeap(h), 0)
		checkScavenged(t, watchHeap(want), h)
		checkCarried(t, watchHeap(want), 0)
		checkScavenging(t, h)
	}
}

func TestFurnishedScavengedByHand(t *testing.T) {
	eachSide(func(side int64) {
		n := 12 - 12*side
		want := heapOf(12, 30, 1-side, joined(
			[]int64{2, to(40), to(24), 4}, // n: over the note that was, and what is left over is as it was
			[]int64{65 + 512*7 + 65536*9, num(5)},
		), furnished(side).Row[24:])
		want.Row[25] = to(n)
		want.Row[33] = to(n + 4)
		want.Roots = []int64{to(n), to(24), num(3), 2, to(36), to(40)}
		want.Mourned = []int64{to(24), to(n + 4), to(24)}
		want.Seen = []int64{24, 32}
		checkScavenged(t, watchHeap(furnished(side)), want)
		checkCarried(t, watchHeap(furnished(side)), 6)
		checkScavenging(t, furnished(side))
	})
}

func TestScavengedWithNothingInTheRoom(t *testing.T) {
	eachRoom(func(side, s, n int64) {
		above := joined(one(1, to(48), to(52)), note(54), one(2), note(52))
		checkCarryCases(t, side, []carryCase{
			{"nothing at all", layout{}, layout{}, nil},
			{"numbers and Nil", layout{roots: []int64{num(0), 2, num(s), num(-100000), num(100000), num(-1)}}, layout{roots: []int64{num(0), 2, num(s), num(-100000), num(100000), num(-1)}}, nil},
			{"Roots and Mourned lead upstairs", layout{above: one(1, to(48)), roots: []int64{to(48), 2, to(48)}, mourned: []int64{to(48)}}, layout{above: one(1, to(48)), roots: []int64{to(48), 2, to(48)}, mourned: []int64{to(48)}}, nil},
			{"and to notes upstairs", layout{above: above, roots: []int64{to(56), to(52), to(54), to(48)}, mourned: []int64{to(52), to(56)}}, layout{above: above, roots: []int64{to(54), to(54), to(54), to(48)}, mourned: []int64{to(54), to(54)}}, nil},
		})
	})
}

func TestScavengedLetsGo(t *testing.T) {
	eachRoom(func(side, s, n int64) {
		all := one(9, to(s+2), to(s+2))
		checkCarryCases(t, side, []carryCase{
			{"nobody leads there", layout{below: joined(one(1), one(2, num(3)), one(3))}, layout{}, nil},
			{"they lead to one another", layout{below: joined(one(1, to(s+2)), one(2, to(s)), one(3, to(s+4)))}, layout{}, nil},
			{"they lead to who is kept", layout{below: joined(one(1, to(s+2)), one(2, num(2)), one(3, to(s+2))), roots: []int64{2, to(s + 2)}}, layout{below: one(2, num(2)), roots: []int64{2, to(n)}}, nil},
			{"they lead upstairs", layout{below: joined(one(1, to(48)), one(2, to(48))), above: one(3), roots: []int64{to(48)}}, layout{above: one(3), roots: []int64{to(48)}}, nil},
			{"notes that nobody leads to", layout{below: joined(note(s+2), one(1), note(48)), above: one(3), roots: []int64{to(s + 2)}}, layout{below: one(1), above: one(3), roots: []int64{to(n)}}, nil},
			{"the first, the last and one between", layout{below: joined(one(1), one(2), all, one(3), one(4), one(5)), roots: []int64{to(s + 8), to(s + 2)}}, layout{below: joined(one(3), one(2)), roots: []int64{to(n), to(n + 2)}}, nil},
			{"a number that would lead there", layout{below: joined(one(1), one(2)), above: one(3, num(s), num(s+1)), roots: []int64{num(s), num(s + 2)}}, layout{above: one(3, num(s), num(s+1)), roots: []int64{num(s), num(s + 2)}}, nil},
		})
	})
}

// Seen chunks keep what they lead to, whoever leads to them.
func TestScavengedKeepsWhatIsSeen(t *testing.T) {
	eachRoom(func(side, s, n int64) {
		checkCarryCases(t, side, []carryCase{
			{"an object that nobody leads to", layout{below: joined(one(1), one(2)), above: one(3, 2, to(s+2))}, layout{below: one(2), above: one(3, 2, to(n))}, []int64{48}},
			{"a note that nobody leads to", layout{below: joined(one(1), one(2)), above: note(s + 2)}, layout{below: one(2), above: note(n)}, []int64{48}},
			{"a Pinned one", layout{below: joined(one(1), one(2)), above: []int64{pinned + 1, to(s + 2)}}, layout{below: one(2), above: []int64{pinned + 1, to(n)}}, []int64{48}},
			{"not what is free", layout{below: joined(one(1), one(2)), above: joined(free(6, to(s), to(s+2)), one(3))}, layout{above: joined(free(6, to(s), to(s+2)), one(3))}, nil},
		})
	})
}

// Roots, then Mourned, then the chunks of Seen, then who was carried: those that lie last are led to first.
func TestScavengedInOrder(t *testing.T) {
	eachRoom(func(side, s, n int64) {
		below := joined(one(1), one(2), one(3), one(4), one(5), one(6), one(7), one(8))
		checkCarryCases(t, side, []carryCase{
			{"all Roots", layout{below: below, roots: []int64{to(s + 10), to(s + 4), to(s + 6), to(s), to(s + 8), to(s + 2)}},
				layout{below: joined(one(6), one(3), one(4), one(1), one(5), one(2)), roots: []int64{to(n), to(n + 2), to(n + 4), to(n + 6), to(n + 8), to(n + 10)}}, nil},
			{"Roots, Mourned, Seen", layout{below: below, above: joined(one(11, to(s+2), num(1), to(s+10)), one(12, to(s))), roots: []int64{2, to(s + 14), num(1), to(s + 12)}, mourned: []int64{to(s + 8), to(s + 4)}},
				layout{below: joined(one(8), one(7), one(5), one(3), one(2), one(6), one(1)), above: joined(one(11, to(n+8), num(1), to(n+10)), one(12, to(n+12))), roots: []int64{2, to(n), num(1), to(n + 2)}, mourned: []int64{to(n + 4), to(n + 6)}}, []int64{48, 52}},
			{"a note of Seen has its turn by its place", layout{below: below, above: joined(one(11, to(s+4)), note(s+2), one(12, to(s)))},
				layout{below: joined(one(3), one(2), one(1)), above: joined(one(11, to(n)), note(n+2), one(12, to(n+4)))}, []int64{48, 50, 52}},
			{"who was carried, as they lie", layout{below: joined(one(1, to(s+8), to(s+4)), one(2, to(s+12)), one(3), one(4, to(s+10)), one(5), one(6, to(s+6)), one(7)), roots: []int64{to(s)}},
				layout{below: joined(one(1, to(n+4), to(n+6)), one(4, to(n+8)), one(2, to(n+10)), one(5), one(6, to(n+12)), one(3)), roots: []int64{to(n)}}, nil},
			{"Seen ahead of who was carried", layout{below: joined(one(1, to(s+2)), one(2), one(3)), above: one(11, to(s+4)), roots: []int64{to(s)}},
				layout{below: joined(one(1, to(n+4)), one(3), one(2)), above: one(11, to(n+2)), roots: []int64{to(n)}}, []int64{48}},
			{"Mourned ahead of who was carried", layout{below: joined(one(1, to(s+2)), one(2), one(3)), roots: []int64{to(s)}, mourned: []int64{to(s + 4)}},
				layout{below: joined(one(1, to(n+4)), one(3), one(2)), roots: []int64{to(n)}, mourned: []int64{to(n + 2)}}, nil},
			{"all by Mourned", layout{below: below, mourned: []int64{to(s + 14), to(s + 14), to(s + 2), to(s + 14)}},
				layout{below: joined(one(8), one(2)), mourned: []int64{to(n), to(n), to(n + 2), to(n)}}, nil},
		})
	})
}

func TestScavengedCarriesOnce(t *testing.T) {
	eachRoom(func(side, s, n int64) {
		checkCarryCases(t, side, []carryCase{
			{"all Roots", layout{below: joined(one(1), one(2)), roots: slices.Repeat([]int64{to(s + 2)}, 6)}, layout{below: one(2), roots: slices.Repeat([]int64{to(n)}, 6)}, nil},
			{"Roots, Mourned, Seen and Slots", layout{below: joined(one(1), one(2, to(s+2), to(s+2))), above: joined(one(3, to(s+2), to(s+2)), note(s+2)), roots: []int64{2, to(s + 2)}, mourned: []int64{to(s + 2), to(s + 2)}},
				layout{below: one(2, to(n), to(n)), above: joined(one(3, to(n), to(n)), note(n)), roots: []int64{2, to(n)}, mourned: []int64{to(n), to(n)}}, []int64{48, 52}},
			{"over notes and without", layout{below: joined(note(s+4), note(s), one(2, to(s+2), to(s))), above: joined(note(s+2), one(3, to(48), to(s+4), to(s))), roots: []int64{to(48), to(s + 4), to(s)}},
				layout{below: one(2, to(n), to(n)), above: joined(note(n), one(3, to(n), to(n), to(n))), roots: []int64{to(n), to(n), to(n)}}, []int64{48, 50}},
			{"to themselves", layout{below: joined(one(1), one(2, to(s+2)), one(3, to(s+4))), roots: []int64{to(s + 4), to(s + 2)}}, layout{below: joined(one(3, to(n)), one(2, to(n+2))), roots: []int64{to(n), to(n + 2)}}, nil},
			{"round about", layout{below: joined(one(1, to(s+2)), one(2, to(s+4)), one(3, to(s))), roots: []int64{to(s + 2)}}, layout{below: joined(one(2, to(n+2)), one(3, to(n+4)), one(1, to(n))), roots: []int64{to(n)}}, nil},
			{"up and down", layout{below: joined(one(1, to(48)), one(2)), above: joined(one(3, to(s))), mourned: []int64{to(s)}}, layout{below: one(1, to(48)), above: one(3, to(n)), mourned: []int64{to(n)}}, []int64{48}},
		})
	})
}

func TestScavengedOverNotes(t *testing.T) {
	eachRoom(func(side, s, n int64) {
		it, other := one(8, num(3)), one(9, num(4))
		checkCarryCases(t, side, []carryCase{
			{"in the room, to the room", layout{below: joined(note(s+2), it), roots: []int64{to(s)}}, layout{below: it, roots: []int64{to(n)}}, nil},
			{"in the room, to one ahead", layout{below: joined(it, note(s)), roots: []int64{to(s + 2)}}, layout{below: it, roots: []int64{to(n)}}, nil},
			{"in the room, upstairs", layout{below: note(48), above: it, roots: []int64{to(s)}, mourned: []int64{to(s)}}, layout{above: it, roots: []int64{to(48)}, mourned: []int64{to(48)}}, nil},
			{"one after the other", layout{below: joined(note(s+2), note(s+4), it), roots: []int64{to(s)}, mourned: []int64{to(s + 2)}}, layout{below: it, roots: []int64{to(n)}, mourned: []int64{to(n)}}, nil},
			{"one after the other, upstairs in the end", layout{below: joined(note(s+2), note(48)), above: it, roots: []int64{to(s)}}, layout{above: it, roots: []int64{to(48)}}, nil},
			{"from the room upstairs and back", layout{below: joined(note(48), it), above: note(s + 2), roots: []int64{to(s)}}, layout{below: it, above: note(n), roots: []int64{to(n)}}, []int64{48}},
			{"up, down and up", layout{below: joined(note(48), note(50)), above: joined(note(s+2), it), roots: []int64{to(s)}}, layout{above: joined(note(50), it), roots: []int64{to(50)}}, nil},
			{"up and down, twice", layout{below: joined(note(48), note(50), it), above: joined(note(s+2), note(s+4)), roots: []int64{to(s), to(s + 2)}}, layout{below: it, above: joined(note(n), note(n)), roots: []int64{to(n), to(n)}}, []int64{48, 50}},
			{"upstairs, to the room", layout{below: it, above: note(s), roots: []int64{to(48)}}, layout{below: it, above: note(n), roots: []int64{to(n)}}, []int64{48}},
			{"upstairs, to a note of the room that leads upstairs", layout{below: note(50), above: joined(note(s), it)}, layout{above: joined(note(50), it)}, nil},
			{"upstairs, upstairs: it stays", layout{below: it, above: joined(note(50), note(s)), roots: []int64{to(48)}}, layout{below: it, above: joined(note(50), note(n)), roots: []int64{to(n)}}, []int64{50}},
			{"upstairs, one after the other", layout{above: joined(note(50), note(52), it), roots: []int64{to(48)}}, layout{above: joined(note(50), note(52), it), roots: []int64{to(52)}}, nil},
			{"Slots of who is carried", layout{below: joined(one(1, to(s+4), to(48), to(s+6)), note(s+8), note(50), it), above: joined(note(s+4), other), roots: []int64{to(s)}},
				layout{below: joined(one(1, to(n+4), to(n+4), to(50)), it), above: joined(note(n+4), other), roots: []int64{to(n)}}, []int64{48}},
			{"Slots of who is Seen", layout{below: joined(note(s+4), note(52), it), above: joined(one(1, to(s), to(s+2), to(56)), other, one(2), note(54))},
				layout{below: it, above: joined(one(1, to(n), to(52), to(54)), other, one(2), note(54))}, []int64{48}},
		})
	})
}

// Who upstairs knows nobody below stays as it is, also where it leads to a note.
func TestScavengedLeavesWhatIsNotSeen(t *testing.T) {
	eachRoom(func(side, s, n int64) {
		it := one(8)
		checkCarryCases(t, side, []carryCase{
			{"to a note that is Seen", layout{below: joined(one(1), it), above: joined(note(s+2), one(2, to(48), to(48))), roots: []int64{to(50)}},
				layout{below: it, above: joined(note(n), one(2, to(48), to(48))), roots: []int64{to(50)}}, []int64{48}},
			{"to a note that is not", layout{below: it, above: joined(note(50), one(2), one(3, to(48))), roots: []int64{to(52), to(s)}},
				layout{below: it, above: joined(note(50), one(2), one(3, to(48))), roots: []int64{to(52), to(n)}}, nil},
			{"one is Seen, the next to it is not", layout{below: it, above: joined(one(2, to(54), to(s)), one(3, to(54)), note(52))},
				layout{below: it, above: joined(one(2, to(52), to(n)), one(3, to(54)), note(52))}, []int64{48}},
			{"what lies in free chunks", layout{below: it, above: joined(free(8, to(s), 1, -1, to(s), num(1), math.MinInt64), one(2)), roots: []int64{to(s)}},
				layout{below: it, above: joined(free(8, to(s), 1, -1, to(s), num(1), math.MinInt64), one(2)), roots: []int64{to(n)}}, nil},
		})
	})
}

func TestScavengedSeesNoLonger(t *testing.T) {
	eachRoom(func(side, s, n int64) {
		checkCarryCases(t, side, []carryCase{
			{"all led over notes to upstairs", layout{below: joined(note(52), note(s)), above: joined(one(1, to(s), to(s+2)), one(2))}, layout{above: joined(one(1, to(52), to(52)), one(2))}, nil},
			{"one Slot of two", layout{below: joined(note(52), one(3)), above: joined(one(1, to(s), to(s+2)), one(2))}, layout{below: one(3), above: joined(one(1, to(52), to(n)), one(2))}, []int64{48}},
			{"to itself", layout{below: note(48), above: one(1, to(s))}, layout{above: one(1, to(48))}, nil},
			{"the first, not the second", layout{below: joined(note(52), one(3)), above: joined(one(1, to(s)), one(4, to(s+2)), one(2))}, layout{below: one(3), above: joined(one(1, to(52)), one(4, to(n)), one(2))}, []int64{50}},
			{"the second, not the first", layout{below: joined(note(52), one(3)), above: joined(one(1, to(s+2)), one(4, to(s)), one(2))}, layout{below: one(3), above: joined(one(1, to(n)), one(4, to(52)), one(2))}, []int64{48}},
			{"a note, not the object beside it", layout{below: joined(note(52), one(3)), above: joined(note(s), one(4, to(s+2)), one(2))}, layout{below: one(3), above: joined(note(52), one(4, to(n)), one(2))}, []int64{50}},
			{"the last of 20", layout{below: joined(note(48), one(3)), above: one(1, append(slices.Repeat([]int64{to(s)}, 19), to(s+2))...)}, layout{below: one(3), above: one(1, append(slices.Repeat([]int64{to(48)}, 19), to(n))...)}, []int64{48}},
		})
	})
}

// Each Format keeps all that its Slots lead to: who is let go is not told here.
func TestScavengedOfEveryFormat(t *testing.T) {
	eachRoom(func(side, s, n int64) {
		for _, format := range []int64{impl.FoPlain, impl.FoWeak, impl.FoEphem} {
			head := 2 + 64*format + 512*99 + 65536*65535
			leads := func(a, b int64) []int64 { return []int64{head, to(a), to(b), 0} }
			checkCarryCases(t, side, []carryCase{
				{"in the room", layout{below: joined(one(1), leads(s+8, s+6), one(2), one(3)), roots: []int64{to(s + 2)}}, layout{below: joined(leads(n+4, n+6), one(3), one(2)), roots: []int64{to(n)}}, nil},
				{"upstairs", layout{below: joined(one(1), one(2), one(3)), above: leads(s+4, s)}, layout{below: joined(one(3), one(1)), above: leads(n, n+2)}, []int64{48}},
				{"led to by Mourned", layout{below: joined(one(1), leads(48, s)), above: one(2), mourned: []int64{to(s + 2)}}, layout{below: joined(leads(48, n+4), one(1)), above: one(2), mourned: []int64{to(n)}}, nil},
				{"over notes", layout{below: joined(leads(48, s+4), note(50), one(1)), above: joined(note(s+6), one(2)), roots: []int64{to(s)}}, layout{below: joined(leads(n+4, 50), one(1)), above: joined(note(n+4), one(2)), roots: []int64{to(n)}}, []int64{48}},
			})
		}
	})
}

// Every right head of the room goes over as it is, with all its words.
func TestScavengedOfEveryHead(t *testing.T) {
	for _, head := range rightHeads() {
		if head.Format > impl.FoEphem || head.Marked || head.Pinned || head.Class%33 != 0 || head.Hash%65535 != 0 {
			continue
		}
		eachRoom(func(side, s, n int64) {
			below := headed(head, s)
			then := headed(head, n)
			if head.Slots%2 == 0 {
				then[head.Slots+1] = to(s) // left over: it is as it was
			}
			h := layout{below: below, roots: []int64{2, to(s)}}.heap(side)
			want := layout{below: then, roots: []int64{2, to(n)}}.heap(1 - side)
			checkScavenged(t, watchHeap(h), want)
			checkCarried(t, watchHeap(h), int64(len(below)))
			checkScavenging(t, h)
		})
	}
}

func TestScavengedOfManySlots(t *testing.T) {
	eachRoom(func(side, s, n int64) {
		for slots := range int64(21) {
			for _, w := range []int64{2, num(0), num(s), num(-100000), num(100000), to(48)} {
				checkCarryCases(t, side, []carryCase{
					{"the same words", layout{below: joined(one(1), filled(2, slots, w)), above: one(3), roots: []int64{to(s + 2)}}, layout{below: filled(2, slots, w), above: one(3), roots: []int64{to(n)}}, nil},
				})
			}
			checkCarryCases(t, side, []carryCase{
				{"to itself", layout{below: joined(one(1), filled(2, slots, to(s+2))), mourned: []int64{to(s + 2)}}, layout{below: filled(2, slots, to(n)), mourned: []int64{to(n)}}, nil},
				{"over a note", layout{below: joined(note(s+2), filled(2, slots, to(s))), roots: []int64{to(s)}}, layout{below: filled(2, slots, to(n)), roots: []int64{to(n)}}, nil},
				{"over a note, upstairs", layout{below: joined(note(48), filled(2, slots, to(s))), above: one(3), roots: []int64{to(s + 2)}}, layout{below: filled(2, slots, to(48)), above: one(3), roots: []int64{to(n)}}, nil},
			})
			if slots > 0 {
				last := append(slices.Repeat([]int64{num(7)}, int(slots)-1), to(s))
				lastThen := append(slices.Repeat([]int64{num(7)}, int(slots)-1), to(n))
				checkCarryCases(t, side, []carryCase{
					{"the last Slot alone", layout{below: joined(one(1), one(4)), above: one(3, last...)}, layout{below: one(1), above: one(3, lastThen...)}, []int64{48}},
				})
			}
		}
	})
}

// What is left over behind the Slots is carried as it is, led to or not; so what lies behind a note upstairs stays.
func TestScavengedWithWordsLeftOver(t *testing.T) {
	eachRoom(func(side, s, n int64) {
		for _, w := range []int64{0, 1, 2, -1, to(s), to(s + 2), to(n), to(48), to(s + 1), num(3), freeHead, noteHead, marked, math.MinInt64, math.MaxInt64} {
			checkCarryCases(t, side, []carryCase{
				{"no Slots", layout{below: joined(one(1), []int64{65536, w}), roots: []int64{to(s + 2)}}, layout{below: []int64{65536, w}, roots: []int64{to(n)}}, nil},
				{"two Slots", layout{below: joined(one(1), []int64{2, to(s + 2), 2, w}), roots: []int64{to(s + 2)}}, layout{below: []int64{2, to(n), 2, w}, roots: []int64{to(n)}}, nil},
				{"upstairs, not Seen", layout{below: one(1), above: []int64{0, w, 2, 2, 2, w}}, layout{above: []int64{0, w, 2, 2, 2, w}}, nil},
				{"upstairs, Seen", layout{below: joined(one(1), one(2)), above: []int64{2, to(s + 2), 2, w}}, layout{below: one(2), above: []int64{2, to(n), 2, w}}, []int64{48}},
				{"behind a note upstairs", layout{below: joined(one(1), one(2)), above: []int64{noteHead + 3, to(s + 2), w, w}, roots: []int64{to(48)}}, layout{below: one(2), above: []int64{noteHead + 3, to(n), w, w}, roots: []int64{to(n)}}, []int64{48}},
				{"behind a note in the room", layout{below: joined([]int64{noteHead + 5, to(s + 6), w, w, w, w}, one(2)), roots: []int64{to(s)}}, layout{below: one(2), roots: []int64{to(n)}}, nil},
			})
		}
	})
}

// fullRoom is a room that is full of objects of two words, each of which leads to the next in this order; the last one leads to the first.
func fullRoom(half, side int64, places []int64) impl.Heap {
	h := heapOf(half, 8, side, zeros(int(half)), nil)
	for i, at := range places {
		h.Row[at], h.Row[at+1] = 1+65536*int64(i), to(places[(i+1)%len(places)])
	}
	return h
}

func TestScavengedOfAFullRoom(t *testing.T) {
	d := &dice{n: 11}
	for _, half := range []int64{8, 10, 12, 100, 198, 200} {
		eachSide(func(side int64) {
			d.eachOrder(pairsOf(half, 0, side), func(places []int64) {
				h := fullRoom(half, side, places)
				none := heapOf(half, 8, 1-side, nil, nil)
				checkScavenged(t, watchHeap(h), none)
				checkCarried(t, watchHeap(h), 0)
				checkTwice(t, h)
				// From any of them all the others are come to, and they come to lie in their order.
				for _, from := range []int{0, 1, len(places) / 2, len(places) - 1} {
					h.Roots[4] = to(places[from])
					want := fullRoom(half, 1-side, pairsOf(half, 0, 1-side))
					for i := range places {
						want.Row[half*(1-side)+2*int64(i)] = 1 + 65536*int64((from+i)%len(places))
					}
					want.Roots[4] = to(half * (1 - side))
					checkScavenged(t, watchHeap(h), want)
					checkCarried(t, watchHeap(h), half)
					checkTwice(t, h)
				}
			})
		})
	}
}

// One object that takes all the room, and one word less than that.
func TestScavengedOfOneGreatObject(t *testing.T) {
	for _, half := range []int64{8, 20, 22} {
		eachSide(func(side int64) {
			s, n := half*side, half*(1-side)
			for _, slots := range []int64{half - 1, half - 2} {
				if slots > 20 {
					continue
				}
				for _, kept := range []bool{false, true} {
					h, want := heapOf(half, 8, side, filled(5, slots, to(s)), nil), heapOf(half, 8, 1-side, nil, nil)
					if kept {
						h.Mourned = []int64{to(s)}
						want = heapOf(half, 8, 1-side, filled(5, slots, to(n)), nil)
						want.Mourned = []int64{to(n)}
					}
					checkScavenged(t, watchHeap(h), want)
					checkCarried(t, watchHeap(h), want.Top)
					checkScavenging(t, h)
				}
			}
		})
	}
}

// All ways in which six Roots can lead to three objects, one of them over a note: the order is that in which they are first led to.
func TestScavengedByEveryRoots(t *testing.T) {
	eachRoom(func(side, s, n int64) {
		below := joined(one(1), one(2, num(1)), note(s+6), one(3))
		hash := map[int64]int64{to(s): 1, to(s + 2): 2, to(s + 4): 3, to(s + 6): 3}
		eachShortRow(6, []int64{2, to(s), to(s + 2), to(s + 4), to(s + 6)}, func(roots []int64) {
			h := layout{below: below, roots: roots}.heap(side)
			then := layout{}
			came := map[int64]int64{}
			for _, w := range roots {
				k := hash[w]
				if k != 0 && came[k] == 0 {
					came[k] = to(n + int64(len(then.below)))
					then.below = joined(then.below, [][]int64{one(1), one(2, num(1)), one(3)}[k-1])
				}
				then.roots = append(then.roots, max(came[k], 2))
			}
			if got, want := impl.Scavenged(h), then.heap(1-side); !sameHeap(got, want) {
				t.Fatalf("Roots %v: Scavenged =\n%+v\nwant\n%+v", roots, got, want)
			}
			if got := impl.Carried(h); got != int64(len(then.below)) {
				t.Fatalf("Roots %v: Carried = %d", roots, got)
			}
		})
	})
}

// All ways in which the Slots of two objects below, of one upstairs and a Root can lead to each of them and to notes.
func TestScavengedInEveryWay(t *testing.T) {
	eachRoom(func(side, s, n int64) {
		words := []int64{2, to(s), to(s + 4), to(s + 6), to(48), to(52)}
		eachShortRow(6, words, func(w []int64) {
			below := joined(one(1, w[0], w[1]), note(52), one(2, w[2]))
			above := joined(one(3, w[3], w[4]), note(s+6))
			h := layout{below: below, above: above, roots: []int64{2, w[5]}}.heap(side)
			got, want := impl.Scavenged(h), wantScavenged(h)
			if !sameHeap(got, want) || impl.Carried(h) != want.Top {
				t.Fatalf("%+v\nScavenged =\n%+v\nwant\n%+v", h, got, want)
			}
		})
	})
}

// Each Root, each of Mourned, each Slot and each note of what is furnished, with every word that it may be.
func TestScavengingWithOneWordChanged(t *testing.T) {
	eachSide(func(side int64) {
		s := 12 * side
		words := []int64{2, num(0), num(s), num(-100000), to(28), to(s + 1)}
		for _, at := range rightPlaces(side) {
			words = append(words, to(at))
		}
		places := []func(h *impl.Heap) *int64{}
		for i := range 6 {
			places = append(places, func(h *impl.Heap) *int64 { return &h.Roots[i] })
		}
		for i := range 3 {
			places = append(places, func(h *impl.Heap) *int64 { return &h.Mourned[i] })
		}
		for at := range furnished(side).Row {
			places = append(places, func(h *impl.Heap) *int64 { return &h.Row[at] })
		}
		right := 0
		for _, place := range places {
			for _, word := range words {
				h := furnished(side)
				*place(&h) = word
				rightSeen(&h)
				if wantHeapOk(h) {
					right++
					checkScavenging(t, h)
				} else {
					checkNoScavenging(t, h)
				}
			}
		}
		if right < 300 {
			t.Fatalf("only %d are right", right)
		}
	})
}

// Four notes and two objects, of which all Roots, Mourned and Slots lead to each: each note leads to each of them.
func TestScavengingNotesInEveryWay(t *testing.T) {
	eachSide(func(side int64) {
		s := 14 * side
		places := []int64{s, s + 2, 28, 30, s + 4, 32}
		slots := []int64{to(s), to(s + 2), to(28), to(30), to(32), to(s + 4)}
		right := 0
		eachShortRow(4, places, func(list []int64) {
			below := joined(note(list[0]), note(list[1]), one(11, slots...))
			above := joined(note(list[2]), note(list[3]), one(12, slots...))
			h := heapOf(14, 14, side, below, above)
			h.Roots, h.Mourned = slices.Clone(slots), slices.Clone(slots)
			rightSeen(&h)
			if wantHeapOk(h) {
				right++
				checkScavenging(t, h)
				// The notes below are gone, whatever they led to.
				checkCarried(t, watchHeap(h), 8)
			} else if list[0] == s {
				checkNoScavenging(t, h)
			}
		})
		if right != 432 {
			t.Fatalf("%d ways are right, want 432", right)
		}
	})
}

// Notes one after the other through all of a heap, whatever their order: at most the one object is carried.
func TestScavengedOverLongWays(t *testing.T) {
	d := &dice{n: 111}
	for _, c := range [][2]int64{{8, 8}, {10, 30}, {100, 8}, {8, 200}} {
		eachSide(func(side int64) {
			d.eachOrder(pairsOf(c[0], c[1], side), func(places []int64) {
				h := heapOf(c[0], c[1], side, zeros(int(c[0])), zeros(int(c[1])))
				last := len(places) - 1
				for i, at := range places[:last] {
					h.Row[at], h.Row[at+1] = noteHead+int64(i%2), to(places[i+1])
				}
				end := places[last]
				h.Row[end], h.Row[end+1] = 1+512*8+65536*88, to(places[0])
				h.Roots[2], h.Mourned = to(places[0]), []int64{to(places[last/2])}
				rightSeen(&h)
				want := int64(0)
				if end < 2*c[0] {
					want = 2
				}
				checkCarried(t, watchHeap(h), want)
				checkScavenging(t, h)
			})
		})
	}
}

// More are led to than can be Shown: they are carried all the same.
func TestScavengedOfMoreThanIsShown(t *testing.T) {
	eachSide(func(side int64) {
		for _, n := range []int{1, 99, 100, 101, 199, 200, 201, 202, 299, 300} {
			places := pairsOf(200, 400, side)
			if n%2 == 1 {
				slices.Reverse(places)
			}
			h := rowOfObjects(side, n, places, n%3 == 0)
			w := watchHeap(h)
			want := wantScavenged(h)
			checkScavenged(t, w, want)
			checkCarried(t, w, want.Top)
			s := checkCheney(t, h)
			if zero := sameGraph(impl.Shown(s), impl.Graph{}); zero != (n > 200) {
				t.Fatalf("%d objects: what is Scavenged shows the zero Graph: %v", n, zero)
			}
			if places[0] < 400 && s.Top != int64(2*min(n, 100)) {
				t.Fatalf("%d objects: Top %d", n, s.Top)
			}
		}
	})
}

func TestScavengingOfWrongHeaps(t *testing.T) {
	eachSide(func(side int64) {
		s := 12 * side
		for _, spoilt := range []func(h *impl.Heap){
			func(h *impl.Heap) { h.Seen = nil },
			func(h *impl.Heap) { h.Seen = []int64{24} },
			func(h *impl.Heap) { h.Seen = []int64{24, 32, 40} },
			func(h *impl.Heap) { h.Seen = []int64{32, 24} },
			func(h *impl.Heap) { h.Seen = []int64{24, 24, 32} },
			func(h *impl.Heap) { h.Seen = []int64{s, 24, 32} },
			func(h *impl.Heap) { h.Seed = -1 },
			func(h *impl.Heap) { h.Seed = 65536 },
			func(h *impl.Heap) { h.Roots = h.Roots[:5] },
			func(h *impl.Heap) { h.Roots = append(h.Roots, 2) },
			func(h *impl.Heap) { h.Roots = nil },
			func(h *impl.Heap) { h.Roots[5] = 0 },
			func(h *impl.Heap) { h.Roots[0] = to(28) },
			func(h *impl.Heap) { h.Roots[0] = to(12 - s) },
			func(h *impl.Heap) { h.Mourned[0] = 2 },
			func(h *impl.Heap) { h.Mourned[0] = num(1) },
			func(h *impl.Heap) { h.Mourned = slices.Repeat([]int64{to(24)}, 41) },
			func(h *impl.Heap) { h.Row[s+1] = to(s + 1) },
			func(h *impl.Heap) { h.Row[39] = to(44) },
			func(h *impl.Heap) { h.Row[39] = to(38) },
			func(h *impl.Heap) { h.Row[39] = 2 },
			func(h *impl.Heap) { h.Row[s+4] += pinned },
			func(h *impl.Heap) { h.Row[24] += marked },
			func(h *impl.Heap) { h.Row[s+9] = 1 },
			func(h *impl.Heap) { h.Row[12-s] = 1 },
			func(h *impl.Heap) { h.Row[49] = 8 },
			func(h *impl.Heap) { h.Top = 7 },
			func(h *impl.Heap) { h.Top = 6 },
			func(h *impl.Heap) { h.Top = 14 },
			func(h *impl.Heap) { h.Top = -2 },
			func(h *impl.Heap) { h.Side = 1 - h.Side },
			func(h *impl.Heap) { h.Side = 2 },
			func(h *impl.Heap) { h.Side = -1 },
			func(h *impl.Heap) { h.Half = 0 },
			func(h *impl.Heap) { h.Half = math.MaxInt64 },
			func(h *impl.Heap) { h.Old = math.MinInt64 },
			func(h *impl.Heap) { h.Row = h.Row[:53] },
			func(h *impl.Heap) { h.Row = nil },
			func(h *impl.Heap) { *h = impl.Heap{} },
			func(h *impl.Heap) { *h = impl.Heap{Roots: six(num(1))} },
		} {
			h := furnished(side)
			spoilt(&h)
			checkBoth(t, "spoilt", h, false)
			checkNoScavenging(t, h)
		}
	})
}

// Right heaps, as they come and with many notes, and the same with something spoilt.
func TestScavengingOfManyHeaps(t *testing.T) {
	d := &dice{n: 1111}
	all, none, some, lost, wrong := 0, 0, 0, 0, 0
	for range 1500 {
		h := d.heap(8+2*d.roll(10), 8+2*d.roll(20), d.roll(5))
		checkScavenging(t, h)
		d.noted(&h)
		checkScavenging(t, h)
		made := impl.Scavenged(h)
		switch {
		case h.Top == made.Top:
			all++
		case made.Top == 0:
			none++
		default:
			some++
		}
		if !slices.Equal(made.Seen, h.Seen) {
			lost++
		}
		d.spoilHeap(&h)
		if wantHeapOk(h) {
			checkScavenging(t, h)
		} else {
			wrong++
			checkNoScavenging(t, h)
		}
	}
	for _, n := range []int{all, none, some, lost, wrong} {
		if n < 50 {
			t.Fatalf("of 1500: all carried %d, none %d, some %d; Seen is less %d; wrong %d", all, none, some, lost, wrong)
		}
	}
}

func TestScavengingOfGreatHeaps(t *testing.T) {
	d := &dice{n: 2222}
	for i := range 40 {
		h := d.heap(200, 400, 40)
		if i%2 == 1 {
			d.noted(&h)
		}
		checkScavenging(t, h)
	}
}

// Answers to one heap, one beside the other, have nothing of one another; nor has a heap that is written over afterwards anything of its answers.
func TestScavengingAnswersShareNothing(t *testing.T) {
	eachSide(func(side int64) {
		empty, _ := impl.NewHeap(8, 8, 1)
		for _, h := range []impl.Heap{furnished(side), wantScavenged(furnished(side)), empty} {
			w := watchHeap(h)
			calls := []func() []int64{
				func() []int64 { return impl.Scavenged(w.heap).Row },
				func() []int64 { return impl.Scavenged(w.heap).Roots },
				func() []int64 { return impl.Scavenged(w.heap).Mourned },
				func() []int64 { return impl.Scavenged(w.heap).Seen },
				func() []int64 { return impl.Scavenged(impl.Heap{}).Row },
				func() []int64 { return impl.Straightened(w.heap).Row },
			}
			checkListsApart(t, calls, w.lists...)
			made, want := impl.Scavenged(w.heap), wantScavenged(w.was)
			checkHeapApart(t, impl.Scavenged(w.heap))
			w.check(t)
			checkHeapApart(t, w.heap)
			if !sameHeap(made, want) {
				t.Fatalf("the heap, written into, changes an answer: %+v, want %+v", made, want)
			}
		}
	})
}
