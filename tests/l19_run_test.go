package tests

import (
	"math"
	"slices"
	"sync"
	"testing"

	"loop.example/g00337/impl"
)

func TestRunConstants(t *testing.T) {
	kinds := []int64{impl.AcNew, impl.AcInt, impl.AcNil, impl.AcCopy, impl.AcFetch, impl.AcStore, impl.AcScavenge, impl.AcFull, impl.AcSwap, impl.AcReplace, impl.AcMourn, impl.AcTenure, impl.AcHash, impl.AcSame}
	if !slices.Equal(kinds, []int64{1, 2, 3, 4, 5, 6, 7, 8, 9, 10, 11, 12, 13, 14}) {
		t.Error(kinds)
	}
}

// One act after the other, from a new heap on, with all that is told and each Canon by hand.
func TestActsByHand(t *testing.T) {
	r := newRun(t, 8, 8, 0)
	for _, step := range []struct {
		act   impl.Act
		told  int64
		canon string
	}{
		{impl.Act{Kind: impl.AcNew, A: 0, B: 5, C: 2, N: 2}, 0, "1o n n n n n\n5 2 13849 n n\n"},
		{impl.Act{Kind: impl.AcNew, A: 1, B: 6}, 0, "1o 2o n n n n\n5 2 13849 n n\n6 0 48742\n"},
		{impl.Act{Kind: impl.AcStore, A: 0, B: 1, N: 0}, 0, "1o 2o n n n n\n5 2 13849 2o n\n6 0 48742\n"},
		{impl.Act{Kind: impl.AcTenure, A: 1}, 0, "1o 2o n n n n\n5 2 13849 2o n\n6 0 48742\n"},
		{impl.Act{Kind: impl.AcTenure, A: 1}, -1, "1o 2o n n n n\n5 2 13849 2o n\n6 0 48742\n"},
		{impl.Act{Kind: impl.AcFetch, A: 2, B: 0, N: 0}, 0, "1o 2o 2o n n n\n5 2 13849 2o n\n6 0 48742\n"},
		{impl.Act{Kind: impl.AcSame, A: 1, B: 2}, 1, "1o 2o 2o n n n\n5 2 13849 2o n\n6 0 48742\n"},
		{impl.Act{Kind: impl.AcSame, A: 1, B: 0}, 0, "1o 2o 2o n n n\n5 2 13849 2o n\n6 0 48742\n"},
		{impl.Act{Kind: impl.AcHash, A: 2}, 48742, "1o 2o 2o n n n\n5 2 13849 2o n\n6 0 48742\n"},
		{impl.Act{Kind: impl.AcHash, A: 3}, -1, "1o 2o 2o n n n\n5 2 13849 2o n\n6 0 48742\n"},
		{impl.Act{Kind: impl.AcNil, A: 1}, 0, "1o n 2o n n n\n5 2 13849 2o n\n6 0 48742\n"},
		{impl.Act{Kind: impl.AcInt, A: 2, N: -7}, 0, "1o n -7i n n n\n5 2 13849 2o n\n6 0 48742\n"},
		{impl.Act{Kind: impl.AcInt, A: 2, N: 100001}, -1, "1o n -7i n n n\n5 2 13849 2o n\n6 0 48742\n"},
		{impl.Act{Kind: impl.AcMourn, A: 2}, -1, "1o n -7i n n n\n5 2 13849 2o n\n6 0 48742\n"},
		{impl.Act{Kind: impl.AcScavenge}, 0, "1o n -7i n n n\n5 2 13849 2o n\n6 0 48742\n"},
		{impl.Act{Kind: impl.AcFull}, 0, "1o n -7i n n n 1o\n5 0 13849 2o n\n6 0 48742\n"},
		{impl.Act{Kind: impl.AcMourn, A: 5}, 0, "1o n -7i n n 1o\n5 0 13849 2o n\n6 0 48742\n"},
		{impl.Act{Kind: impl.AcCopy, A: 4, B: 2}, 0, "1o n -7i n -7i 1o\n5 0 13849 2o n\n6 0 48742\n"},
		{impl.Act{Kind: impl.AcNew, A: 1, B: 9, C: 1, N: 1, Flag: true}, 0, "1o 2o -7i n -7i 1o\n5 0 13849 3o n\n9 1 31223 n\n6 0 48742\n"},
		{impl.Act{Kind: impl.AcSwap, A: 0, B: 1}, 3, "1o 2o -7i n -7i 1o\n5 0 13849 3o n\n9 1 31223 n\n6 0 48742\n"},
		{impl.Act{Kind: impl.AcReplace, A: 0, B: 1}, 0, "1o 1o -7i n -7i 1o\n9 1 31223 n\n"},
		{impl.Act{Kind: impl.AcReplace, A: 0, B: 1}, 2, "1o 1o -7i n -7i 1o\n9 1 31223 n\n"},
		{impl.Act{Kind: impl.AcNew, A: 3, N: 20}, 1, "1o 1o -7i n -7i 1o\n9 1 31223 n\n"},
		{impl.Act{Kind: impl.AcNew, A: 3, N: 2, Flag: true}, 0, "1o 1o -7i 2o -7i 1o\n9 1 31223 n\n0 0 17180 n n\n"},
		{impl.Act{Kind: impl.AcNew, A: 4, N: 3, Flag: true}, 1, "1o 1o -7i 2o -7i 1o\n9 1 31223 n\n0 0 17180 n n\n"},
		{impl.Act{Kind: impl.AcNil, A: 3}, 0, "1o 1o -7i n -7i 1o\n9 1 31223 n\n"},
		{impl.Act{Kind: impl.AcNew, A: 3, N: 3, Flag: true}, 2, "1o 1o -7i 2o -7i 1o\n9 1 31223 n\n0 0 13925 n n n\n"},
		{impl.Act{Kind: impl.AcSwap, A: 3, B: 0}, 3, "1o 1o -7i 2o -7i 1o\n9 1 31223 n\n0 0 13925 n n n\n"},
		{impl.Act{Kind: 15}, -1, "1o 1o -7i 2o -7i 1o\n9 1 31223 n\n0 0 13925 n n n\n"},
	} {
		told := r.happenByHand(step.act)
		if canon := impl.Canon(r.g); told != step.told || canon != step.canon {
			t.Fatalf("after %+v it tells %d, and shows %q\nwant %d, %q", step.act, told, canon, step.told, step.canon)
		}
	}
	r.checkPlayed()
}

// What comes into Root A, and from where.
func TestActsOnRoots(t *testing.T) {
	eachRoom(func(side, s, n int64) {
		a, b := one(1, num(3)), weakOne(2, to(s), 2, to(s+6))
		was := layout{below: joined(a, b, note(s)), above: one(4, to(s+6)), roots: []int64{to(s), to(s + 2), to(s + 6), num(9), 2, to(48)}, mourned: []int64{to(s + 6), to(s), to(48)}}
		then := func(root, w int64) layout {
			made := was
			made.roots = slices.Clone(was.roots)
			made.roots[root] = w
			return made
		}
		seen := []int64{48}
		less := then(4, to(s+6))
		less.mourned = was.mourned[1:]
		last := layout{above: a, mourned: []int64{to(48)}}
		none := layout{above: a, roots: []int64{2, to(48)}}
		checkActCases(t, side, []actCase{
			{"a number", was, impl.Act{Kind: impl.AcInt, A: 0, N: 7}, then(0, num(7)), seen, false, 0},
			{"0, which is no Nil", was, impl.Act{Kind: impl.AcInt, A: 4}, then(4, num(0)), seen, false, 0},
			{"the greatest number", was, impl.Act{Kind: impl.AcInt, A: 5, N: 100000}, then(5, num(100000)), seen, false, 0},
			{"the least number", was, impl.Act{Kind: impl.AcInt, A: 1, N: -100000}, then(1, num(-100000)), seen, false, 0},
			{"one past the greatest", was, impl.Act{Kind: impl.AcInt, N: 100001}, was, nil, false, -1},
			{"one past the least", was, impl.Act{Kind: impl.AcInt, N: -100001}, was, nil, false, -1},
			{"a number past the last Root", was, impl.Act{Kind: impl.AcInt, A: 6, N: 7}, was, nil, false, -1},
			{"Nil", was, impl.Act{Kind: impl.AcNil, A: 2}, then(2, 2), seen, false, 0},
			{"Nil where it is", was, impl.Act{Kind: impl.AcNil, A: 4}, was, seen, false, 0},
			{"Nil ahead of the first Root", was, impl.Act{Kind: impl.AcNil, A: -1}, was, nil, false, -1},
			{"a copy", was, impl.Act{Kind: impl.AcCopy, A: 4, B: 5}, then(4, to(48)), seen, false, 0},
			{"a copy leads over the note, too", was, impl.Act{Kind: impl.AcCopy, A: 0, B: 2}, then(0, to(s+6)), seen, false, 0},
			{"a copy of a number", was, impl.Act{Kind: impl.AcCopy, A: 5, B: 3}, then(5, num(9)), seen, false, 0},
			{"a copy of Nil", was, impl.Act{Kind: impl.AcCopy, A: 0, B: 4}, then(0, 2), seen, false, 0},
			{"a copy of itself", was, impl.Act{Kind: impl.AcCopy, A: 2, B: 2}, was, seen, false, 0},
			{"a copy of no Root", was, impl.Act{Kind: impl.AcCopy, A: 0, B: 6}, was, nil, false, -1},
			{"a copy to no Root", was, impl.Act{Kind: impl.AcCopy, A: 6, B: 0}, was, nil, false, -1},
			{"a Slot", was, impl.Act{Kind: impl.AcFetch, A: 4, B: 1, N: 0}, then(4, to(s)), seen, false, 0},
			{"a Slot that is Nil", was, impl.Act{Kind: impl.AcFetch, A: 0, B: 1, N: 1}, then(0, 2), seen, false, 0},
			{"a Slot, Followed", was, impl.Act{Kind: impl.AcFetch, A: 4, B: 1, N: 2}, then(4, to(s)), seen, false, 0},
			{"a Slot upstairs, Followed", was, impl.Act{Kind: impl.AcFetch, A: 4, B: 5, N: 0}, then(4, to(s)), seen, false, 0},
			{"a Slot of one over a note", was, impl.Act{Kind: impl.AcFetch, A: 4, B: 2, N: 0}, then(4, num(3)), seen, false, 0},
			{"a Slot of its own", was, impl.Act{Kind: impl.AcFetch, A: 1, B: 1, N: 0}, then(1, to(s)), seen, false, 0},
			{"a Slot past the last", was, impl.Act{Kind: impl.AcFetch, A: 4, B: 1, N: 3}, was, nil, false, -1},
			{"a Slot past the last of one upstairs, where a word is left over", was, impl.Act{Kind: impl.AcFetch, A: 4, B: 5, N: 1}, was, nil, false, -1},
			{"a Slot ahead of the first", was, impl.Act{Kind: impl.AcFetch, A: 4, B: 1, N: -1}, was, nil, false, -1},
			{"a Slot of a number", was, impl.Act{Kind: impl.AcFetch, A: 4, B: 3}, was, nil, false, -1},
			{"a Slot of Nil", was, impl.Act{Kind: impl.AcFetch, A: 0, B: 4}, was, nil, false, -1},
			{"a Slot of no Root", was, impl.Act{Kind: impl.AcFetch, A: 0, B: -1}, was, nil, false, -1},
			{"a Slot to no Root", was, impl.Act{Kind: impl.AcFetch, A: -1, B: 0}, was, nil, false, -1},
			{"the first of Mourned", was, impl.Act{Kind: impl.AcMourn, A: 4}, less, seen, false, 0},
			{"the last of Mourned", last, impl.Act{Kind: impl.AcMourn, A: 1}, none, nil, false, 0},
			{"the first of Mourned to no Root", was, impl.Act{Kind: impl.AcMourn, A: 6}, was, nil, false, -1},
			{"none is in Mourned", none, impl.Act{Kind: impl.AcMourn, A: 0}, none, nil, false, -1},
		})
	})
}

// What comes into a Slot, and who sees somebody below then.
func TestActsOnSlots(t *testing.T) {
	eachRoom(func(side, s, n int64) {
		a, b := one(1, num(3)), weakOne(2, 2, 2)
		roots := []int64{to(s), to(48), to(s + 2), num(9), 2, to(s + 4)}
		was := func(below, above []int64) layout { return layout{below: below, above: above, roots: roots} }
		as := was(joined(a, note(s), note(48)), b)
		checkActCases(t, side, []actCase{
			{"a number", as, impl.Act{Kind: impl.AcStore, A: 0, B: 3}, was(joined(one(1, num(9)), note(s), note(48)), b), nil, false, 0},
			{"Nil", as, impl.Act{Kind: impl.AcStore, A: 0, B: 4}, was(joined(one(1, 2), note(s), note(48)), b), nil, false, 0},
			{"itself", as, impl.Act{Kind: impl.AcStore, A: 0, B: 0}, was(joined(one(1, to(s)), note(s), note(48)), b), nil, false, 0},
			{"one upstairs", as, impl.Act{Kind: impl.AcStore, A: 0, B: 1}, was(joined(one(1, to(48)), note(s), note(48)), b), nil, false, 0},
			{"one below into one upstairs", as, impl.Act{Kind: impl.AcStore, A: 1, B: 0, N: 1}, was(joined(a, note(s), note(48)), weakOne(2, 2, to(s))), []int64{48}, false, 0},
			{"a note below into one upstairs", as, impl.Act{Kind: impl.AcStore, A: 1, B: 5, N: 0}, was(joined(a, note(s), note(48)), weakOne(2, to(s+4), 2)), []int64{48}, false, 0},
			{"over a note into one in the room", as, impl.Act{Kind: impl.AcStore, A: 2, B: 3}, was(joined(one(1, num(9)), note(s), note(48)), b), nil, false, 0},
			{"over a note into one upstairs", as, impl.Act{Kind: impl.AcStore, A: 5, B: 3, N: 1}, was(joined(a, note(s), note(48)), weakOne(2, 2, num(9))), nil, false, 0},
			{"past the last Slot", as, impl.Act{Kind: impl.AcStore, A: 0, B: 3, N: 1}, as, nil, false, -1},
			{"past the last Slot, where a word is left over", as, impl.Act{Kind: impl.AcStore, A: 1, B: 3, N: 2}, as, nil, false, -1},
			{"ahead of the first Slot", as, impl.Act{Kind: impl.AcStore, A: 0, B: 3, N: -1}, as, nil, false, -1},
			{"into a number", as, impl.Act{Kind: impl.AcStore, A: 3, B: 0}, as, nil, false, -1},
			{"into Nil", as, impl.Act{Kind: impl.AcStore, A: 4, B: 0}, as, nil, false, -1},
			{"into none", as, impl.Act{Kind: impl.AcStore, A: 6, B: 0}, as, nil, false, -1},
			{"ahead of the first Root", as, impl.Act{Kind: impl.AcStore, A: 0, B: -1}, as, nil, false, -1},
			{"past the last Root", as, impl.Act{Kind: impl.AcStore, A: 0, B: 6}, as, nil, false, -1},
		})
	})
}

// What is made, carried, becomes another or goes upstairs.
func TestActsOnObjects(t *testing.T) {
	eachRoom(func(side, s, n int64) {
		a, b := one(1, num(3)), weakOne(2, to(s), 2)
		up, roots := nailed(one(4)), []int64{to(s), to(s + 2), to(48), num(1), 2}
		asked := newOne{class: 5, format: 1, slots: 3}
		held := asked
		held.pinned = true
		was := layout{below: joined(a, b), above: up, roots: roots}
		full := layout{below: joined(filled(1, 19, 2), note(48)), above: joined(filled(4, 19, 2), filled(5, 19, 2), filled(6, 17, 2)), roots: []int64{to(s), to(48), to(68), to(88)}}
		loose := layout{below: full.below, above: joined(full.above, free(2)), roots: []int64{to(s), to(48), to(68)}}
		moved := layout{below: joined(filled(1, 19, 2), asked.body()), above: full.above, roots: []int64{to(n), to(48), to(68), to(88), 2, to(n + 20)}}
		after := layout{below: filled(1, 19, 2), above: joined(filled(4, 19, 2), filled(5, 19, 2), held.body()), roots: []int64{to(n), to(48), to(68), 2, 2, to(88)}}
		act := impl.Act{Kind: impl.AcNew, A: 5, B: 5, C: 1, N: 3}
		pin := act
		pin.Flag = true
		tenured := layout{below: joined(leftNote(1, 50), b), above: joined(up, a), roots: roots}
		over := layout{below: joined(a, b, note(s)), above: up, roots: []int64{to(s + 6)}}
		overThen := layout{below: joined(leftNote(1, 50), b, note(s)), above: joined(up, a), roots: []int64{to(s + 6)}}
		checkActCases(t, side, []actCase{
			{"a new one", was, act, layout{below: joined(a, b, asked.body()), above: up, roots: append(slices.Clone(roots), to(s+6))}, nil, false, 0},
			{"a new one, pinned", was, pin, layout{below: joined(a, b), above: joined(up, held.body()), roots: append(slices.Clone(roots), to(50))}, nil, false, 0},
			{"a new one, once Scavenged", full, act, moved, nil, true, 0},
			{"a new one, after Full", loose, pin, after, nil, true, 2},
			{"a new one, where there is no room", full, pin, full, nil, false, 1},
			{"a new one of no Class", was, impl.Act{Kind: impl.AcNew, A: 5, B: 100}, was, nil, false, 3},
			{"a new one of no Root", was, impl.Act{Kind: impl.AcNew, A: 6}, was, nil, false, 3},
			{"Scavenged", loose, impl.Act{Kind: impl.AcScavenge}, layout{below: filled(1, 19, 2), above: loose.above, roots: []int64{to(n), to(48), to(68)}}, nil, true, 0},
			{"Full", loose, impl.Act{Kind: impl.AcFull}, layout{below: filled(1, 19, 2), above: joined(filled(4, 19, 2), filled(5, 19, 2)), roots: []int64{to(n), to(48), to(68)}}, nil, true, 0},
			{"Swapped", was, impl.Act{Kind: impl.AcSwap, A: 0, B: 1}, layout{below: joined(leftNote(1, s+8), leftNote(2, s+6), a, b), above: up, roots: roots}, nil, false, 0},
			{"Swapped with none", was, impl.Act{Kind: impl.AcSwap, A: 0, B: 3}, was, nil, false, 1},
			{"Swapped with itself", was, impl.Act{Kind: impl.AcSwap, A: 1, B: 1}, was, nil, false, 2},
			{"Swapped with a Pinned one", was, impl.Act{Kind: impl.AcSwap, A: 0, B: 2}, was, nil, false, 3},
			{"Swapped, where there is no place", full, impl.Act{Kind: impl.AcSwap, A: 0, B: 1}, full, nil, false, 4},
			{"Replaced", was, impl.Act{Kind: impl.AcReplace, A: 0, B: 2}, layout{below: joined(leftNote(1, 48), b), above: up, roots: roots}, nil, false, 0},
			{"Replaced by none", was, impl.Act{Kind: impl.AcReplace, A: 0, B: 4}, was, nil, false, 1},
			{"Replaced by itself", was, impl.Act{Kind: impl.AcReplace, A: 2, B: 2}, was, nil, false, 2},
			{"Replaced, where it is Pinned", was, impl.Act{Kind: impl.AcReplace, A: 2, B: 0}, was, nil, false, 3},
			{"Tenured", was, impl.Act{Kind: impl.AcTenure, A: 0}, tenured, nil, false, 0},
			{"Tenured, it knows somebody below", was, impl.Act{Kind: impl.AcTenure, A: 1}, layout{below: joined(a, leftNote(2, 50)), above: joined(up, b), roots: roots}, []int64{50}, false, 0},
			{"Tenured over a note", over, impl.Act{Kind: impl.AcTenure, A: 0}, overThen, nil, false, 0},
			{"Tenured twice", overThen, impl.Act{Kind: impl.AcTenure, A: 0}, overThen, nil, false, -1},
			{"Tenured of one upstairs", was, impl.Act{Kind: impl.AcTenure, A: 2}, was, nil, false, -1},
			{"Tenured of a number", was, impl.Act{Kind: impl.AcTenure, A: 3}, was, nil, false, -1},
			{"Tenured of none", was, impl.Act{Kind: impl.AcTenure, A: 4}, was, nil, false, -1},
			{"Tenured of no Root", was, impl.Act{Kind: impl.AcTenure, A: -1}, was, nil, false, -1},
			{"Tenured, where there is no place", full, impl.Act{Kind: impl.AcTenure, A: 0}, full, nil, false, -1},
		})
	})
}

// What is only asked changes nothing.
func TestActsThatAsk(t *testing.T) {
	eachRoom(func(side, s, n int64) {
		h := layout{below: joined(one(7), note(s), one(8)), above: joined(note(s+2), one(9)), roots: []int64{to(s), to(s + 2), to(48), to(50), 2, num(3)}, mourned: []int64{to(s)}}.heap(side)
		for root, hash := range []int64{7, 7, 7, 9, -1, -1} {
			if told := checkAct(t, h, impl.Act{Kind: impl.AcHash, A: int64(root)}); told != hash {
				t.Fatalf("the Hash of Root %d is told as %d, want %d", root, told, hash)
			}
		}
		h.Roots[4], h.Roots[5] = 2, 2
		others := clonedHeap(h)
		others.Roots[3], others.Roots[4], others.Roots[5] = to(s+4), num(3), num(3)
		for _, h := range []impl.Heap{h, others} {
			eachTwo(func(a, b int64) {
				want := int64(0)
				switch {
				case a < 0 || a > 5 || b < 0 || b > 5:
					want = -1
				case a < 3 && b < 3 || a == 3 && b == 3:
					want = 1
				}
				if told := checkAct(t, h, impl.Act{Kind: impl.AcSame, A: a, B: b}); told != want {
					t.Fatalf("that Roots %d and %d lead to one is told as %d, want %d", a, b, told, want)
				}
			})
		}
	})
}

// All Kinds with all pairs of Roots, and with Roots far out of range.
func TestActsOfAnyRoots(t *testing.T) {
	eachSide(func(side int64) {
		h := furnished(side)
		empty := heapOf(8, 8, side, nil, nil)
		eachKind(func(kind int64) {
			eachTwo(func(a, b int64) { checkAct(t, h, impl.Act{Kind: kind, A: a, B: b, N: (a + b) % 3}) })
			for _, far := range someEnds {
				checkAct(t, h, impl.Act{Kind: kind, A: far, B: 5})
				checkAct(t, h, impl.Act{Kind: kind, A: 0, B: far})
				checkAct(t, empty, impl.Act{Kind: kind, A: far, B: far, C: far, N: far})
			}
			for root := range int64(6) {
				checkAct(t, empty, impl.Act{Kind: kind, A: root, B: 5 - root, N: 1})
			}
		})
	})
}

// Classes, Formats, numbers of Slots, Slots and numbers at and past both ends of their ranges.
func TestActsOfAnyNumbers(t *testing.T) {
	h := furnished(1)
	h.Roots[2] = to(40)
	for _, n := range someNumbers {
		for _, a := range []impl.Act{
			{Kind: impl.AcNew, B: n}, {Kind: impl.AcNew, C: n, N: 1}, {Kind: impl.AcNew, N: n}, {Kind: impl.AcNew, C: 2, N: n}, {Kind: impl.AcNew, N: n, Flag: true},
			{Kind: impl.AcInt, A: 3, N: n}, {Kind: impl.AcFetch, A: 3, N: n}, {Kind: impl.AcFetch, A: 3, B: 2, N: n}, {Kind: impl.AcStore, A: 0, B: 1, N: n}, {Kind: impl.AcStore, A: 2, B: 3, N: n},
			{Kind: n}, {Kind: n, A: 1, B: 5},
		} {
			checkAct(t, h, a)
			g := plainGraph()
			for told := int64(-2); told <= 4; told++ {
				checkGAct(t, g, a, told)
			}
		}
	}
	great := heapOf(200, 400, 0, nil, nil)
	for slots := int64(-1); slots <= 22; slots++ {
		for format := int64(-1); format <= 4; format++ {
			for _, class := range []int64{-1, 0, 99, 100} {
				a := impl.Act{Kind: impl.AcNew, A: 2, B: class, C: format, N: slots, Flag: slots%2 == 0}
				want, told := wantHappen(great, a)
				checkHappen(t, watchHeap(great), a, want, told)
				checkGAct(t, graphOf(nil, sixRoots()), a, told)
			}
		}
	}
}

// What an act has that it does not ask for changes nothing.
func TestActsAskForNothingElse(t *testing.T) {
	h, g := furnished(0), plainGraph()
	h.Mourned, g.Roots[0] = h.Mourned[:2], rObj(1)
	spoils := []func(a *impl.Act, n int64){
		func(a *impl.Act, n int64) { a.A = n },
		func(a *impl.Act, n int64) { a.B = n },
		func(a *impl.Act, n int64) { a.C = n },
		func(a *impl.Act, n int64) { a.N = n },
		func(a *impl.Act, n int64) { a.Flag = true },
	}
	// By Kind, what of A, B, C, N and Flag is asked for.
	asked := map[int64][]int{1: {0, 1, 2, 3, 4}, 2: {0, 3}, 3: {0}, 4: {0, 1}, 5: {0, 1, 3}, 6: {0, 1, 3}, 9: {0, 1}, 10: {0, 1}, 11: {0}, 12: {0}, 13: {0}, 14: {0, 1}}
	for kind := range int64(16) {
		a := impl.Act{Kind: kind, A: 0, B: 5, N: 1}
		want, told := impl.Happen(h, a)
		graph, tells := impl.GHappen(g, a, 0)
		for i, spoil := range spoils {
			if slices.Contains(asked[kind], i) {
				continue
			}
			for _, n := range someNumbers {
				other := a
				spoil(&other, n)
				checkHappen(t, watchHeap(h), other, want, told)
				checkGHappen(t, watchGraph(g), other, 0, graph, tells)
			}
		}
	}
}

// GHappen is handed all codes there are, and others, with all Kinds and pairs of Roots.
func TestGActsOfAnyTold(t *testing.T) {
	full := graphOf([]impl.Obj{
		obj(1, 5, impl.FoEphem, 11, rObj(4), rObj(1)),
		obj(2, 6, impl.FoWeak, 12, rObj(6), rObj(1)),
		obj(4, 7, impl.FoPlain, 13),
		obj(6, 8, impl.FoPlain, 14, rObj(1)),
	}, sixRoots(rObj(1), rObj(2), rNil, rInt(5), rObj(2)), rObj(2), rObj(1))
	for _, g := range []impl.Graph{plainGraph(), full, graphOf(nil, sixRoots())} {
		eachKind(func(kind int64) {
			for told := int64(-3); told <= 6; told++ {
				eachTwo(func(a, b int64) { checkGAct(t, g, impl.Act{Kind: kind, A: a, B: b, N: told % 2}, told) })
			}
			for _, told := range someNumbers {
				checkGAct(t, g, impl.Act{Kind: kind, A: 1, B: 0, N: 1}, told)
				checkGAct(t, g, impl.Act{Kind: kind, A: 0, B: 4, C: 2}, told)
			}
		})
	}
}

// The graph has all the Objs that there may be, or the last Id: there is room for a new one only where it is Collected first, or none.
func TestGActsOfAFullGraph(t *testing.T) {
	d := &dice{n: 191}
	g := d.graph(200, 2, 3)
	g.Next = g.Objs[199].Id + 1
	chain := cloned(g)
	for i := range chain.Objs {
		chain.Objs[i].Format, chain.Objs[i].Slots = impl.FoPlain, []impl.Ref{rObj(chain.Objs[(i+1)%200].Id)}
	}
	chain.Roots[5] = rObj(chain.Objs[7].Id)
	last := cloned(plainGraph())
	last.Next = impl.MaxId
	made := 0
	for _, g := range []impl.Graph{g, chain, last, d.graph(199, 3, 40), d.sparse(200, 3, 39)} {
		for told := int64(-1); told <= 4; told++ {
			for _, a := range []impl.Act{{Kind: impl.AcNew, A: 3}, {Kind: impl.AcNew, A: 6}, {Kind: impl.AcNew, A: 5, C: 2, N: 20}, {Kind: impl.AcNew, C: 2}} {
				checkGAct(t, g, a, told)
				if then, _ := impl.GHappen(g, a, told); then.Next > g.Next {
					made++
				}
			}
		}
	}
	if made < 4 {
		t.Fatalf("only %d are made", made)
	}
}

// Graphs as they come, with all Kinds and codes; and the same with something spoilt.
func TestGActsOfManyGraphs(t *testing.T) {
	d := &dice{n: 192}
	could, not, wrong := 0, 0, 0
	for i := range 1500 {
		g := d.graph(1+d.roll(7), 4, d.roll(3))
		if i%2 == 0 {
			g = d.sparse(1+d.roll(9), 4, d.roll(41))
		}
		for range 12 {
			if checkGAct(t, g, d.anyAct(), d.roll(5)) == -1 {
				not++
			} else {
				could++
			}
		}
		spoil(d, &g)
		if !wantGraphOk(g) {
			wrong++
			checkNoGHappening(t, g)
		}
	}
	if could < 5000 || not < 1000 || wrong < 300 {
		t.Fatalf("%d could be, %d not, %d graphs are wrong", could, not, wrong)
	}
}

// Right heaps, as they come, with and without many notes and Pinned ones; and the same with something spoilt.
func TestActsOfManyHeaps(t *testing.T) {
	d := &dice{n: 193}
	told, wrong := newTally(), 0
	for i := range 600 {
		h := d.mixedHeap(i)
		for kind := range int64(16) {
			told.add(kind, checkAct(t, h, d.act(kind)))
		}
		great := d.act(impl.AcNew)
		great.N = 8 + d.roll(13)
		told.add(great.Kind, checkAct(t, h, great))
		d.spoilHeap(&h)
		if wantHeapOk(h) {
			checkAct(t, h, d.anyAct())
			continue
		}
		wrong++
		checkNoHappening(t, h)
	}
	told.check(t, 25, 5, 10)
	if wrong < 150 {
		t.Fatalf("only %d are wrong", wrong)
	}
}

// Great heaps; and such in which more are led to than can be Shown: all of it happens there, too, but nothing is the Same as that.
func TestActsOfGreatHeaps(t *testing.T) {
	d := &dice{n: 194}
	for i := range 6 {
		h := d.heap(200, 400, []int64{0, 37, 40}[i%3])
		if i%2 == 1 {
			unnailed(&h)
		}
		for kind := range int64(16) {
			checkAct(t, h, d.act(kind))
		}
	}
	for _, n := range []int{199, 200, 201, 250} {
		side := int64(n % 2)
		h := rowOfObjects(side, n, pairsOf(200, 400, side), false)
		h.Roots[1] = h.Roots[0]
		g := byCanon(bareGraph(h))
		checkSame(t, h, g, n <= 200)
		checkSame(t, h, impl.Graph{}, false)
		for kind := range int64(16) {
			checkAct(t, h, impl.Act{Kind: kind, A: 1, B: 0})
		}
	}
}

// AS IF THERE WERE NO ADDRESSES: whatever happens to a new heap, it is the Same as the graph, and tells the same, act by act.
func TestAsIfThereWereNoAddresses(t *testing.T) {
	d := &dice{n: 195}
	told, mourned := newTally(), 0
	for i := range 400 {
		r := newRun(t, 8+2*d.roll(20), 8+2*d.roll(30), d.roll(65536))
		for _, a := range d.acts(100) {
			if i%8 == 0 {
				told.add(a.Kind, r.happenByHand(a))
			} else {
				told.add(a.Kind, r.happen(a))
			}
			mourned = max(mourned, len(r.g.Mourned))
		}
		checkSees(t, r.h)
		r.checkPlayed()
	}
	told.check(t, 200, 10, 15)
	if mourned < 3 {
		t.Fatalf("at most %d are mourned at once", mourned)
	}
}

// All runs of up to five of these acts, from the smallest heap that there is.
func TestEveryShortRun(t *testing.T) {
	acts := []impl.Act{
		{Kind: impl.AcNew, A: 0, B: 1, C: impl.FoPlain, N: 1},
		{Kind: impl.AcNew, A: 1, B: 2, C: impl.FoEphem, N: 2},
		{Kind: impl.AcNew, A: 1, B: 3, C: impl.FoWeak, N: 1},
		{Kind: impl.AcNew, A: 0, B: 4, N: 2, Flag: true},
		{Kind: impl.AcStore, A: 1, B: 0},
		{Kind: impl.AcStore, A: 0, B: 1},
		{Kind: impl.AcNil, A: 0},
		{Kind: impl.AcCopy, A: 1, B: 0},
		{Kind: impl.AcFetch, A: 0, B: 1},
		{Kind: impl.AcScavenge},
		{Kind: impl.AcFull},
		{Kind: impl.AcSwap, A: 0, B: 1},
		{Kind: impl.AcReplace, A: 0, B: 1},
		{Kind: impl.AcMourn, A: 0},
		{Kind: impl.AcTenure, A: 1},
	}
	var from func(r actRun, left int)
	from = func(r actRun, left int) {
		for _, a := range acts {
			next := r
			next.acts, next.all = slices.Clip(r.acts), slices.Clip(r.all)
			next.happen(a)
			if left > 1 {
				from(next, left-1)
			}
		}
	}
	from(*newRun(t, 8, 8, 77), 5)
}

// Those that wait in vain are mourned, and come out of Mourned as they came in: in order of Hash.
func TestActsOfThoseThatGrieve(t *testing.T) {
	for _, seed := range []int64{0, 1, 77, 65535} {
		r := newRun(t, 200, 400, seed)
		hashes := []int64{}
		for range 5 {
			r.happen(impl.Act{Kind: impl.AcNew, A: 0, C: impl.FoEphem, N: 2})
			hashes = append(hashes, r.happen(impl.Act{Kind: impl.AcHash, A: 0}))
			r.happen(impl.Act{Kind: impl.AcNew, A: 1})
			r.happen(impl.Act{Kind: impl.AcStore, A: 0, B: 1, N: 0})
			r.happen(impl.Act{Kind: impl.AcStore, A: 0, B: 2, N: 1})
			r.happen(impl.Act{Kind: impl.AcCopy, A: 2, B: 0})
		}
		r.happen(impl.Act{Kind: impl.AcNil, A: 0})
		r.happen(impl.Act{Kind: impl.AcNil, A: 1})
		r.happen(impl.Act{Kind: impl.AcFull})
		if told := r.happen(impl.Act{Kind: impl.AcMourn, A: 6}); told != -1 {
			t.Fatalf("to no Root tells %d", told)
		}
		// Each one is led to by the second Slot of the one made after it, which waits in vain itself: they grieve one after the other.
		slices.Reverse(hashes)
		for i := range 7 {
			told := r.happenByHand(impl.Act{Kind: impl.AcMourn, A: 5})
			if is := i < len(hashes); is != (told == 0) {
				t.Fatalf("the one at %d is told as %d", i, told)
			}
			if i < len(hashes) && r.happen(impl.Act{Kind: impl.AcHash, A: 5}) != hashes[i] {
				t.Fatalf("the one at %d has the Hash %d, want %d", i, r.all[len(r.all)-1], hashes[i])
			}
		}
		r.checkPlayed()
	}
}

// No acts, as many as there may be, and one more; what could not be is told as well.
func TestPlayAtItsEdges(t *testing.T) {
	d := &dice{n: 196}
	eachSide(func(side int64) {
		for _, h := range []impl.Heap{furnished(side), heapOf(8, 8, side, nil, nil)} {
			w := watchHeap(h)
			checkPlay(t, w, nil, h, nil)
			checkPlay(t, w, []impl.Act{}, h, nil)
			list := d.acts(202)
			for _, n := range []int{1, 2, 100, 199, 200} {
				if told := checkPlays(t, h, list[:n]); len(told) != n {
					t.Fatalf("%d acts tell %d", n, len(told))
				}
			}
			checkPlay(t, w, list[:201], impl.Heap{}, nil)
			checkPlay(t, w, list, impl.Heap{}, nil)
			checkPlay(t, w, slices.Repeat(list, 10), impl.Heap{}, nil)
			none := slices.Repeat([]impl.Act{{}}, 200)
			checkPlay(t, w, none, h, slices.Repeat([]int64{-1}, 200))
			checkPlay(t, w, slices.Repeat([]impl.Act{{Kind: math.MaxInt64}}, 201), impl.Heap{}, nil)
		}
	})
}

func TestPlayOfManyHeaps(t *testing.T) {
	d := &dice{n: 197}
	for i := range 200 {
		h := d.mixedHeap(i)
		checkPlays(t, h, d.acts(int(d.roll(40))))
	}
}

// Many play at once, and none of them knows of the others.
func TestPlayAtOnce(t *testing.T) {
	d := &dice{n: 198}
	r := newRun(t, 40, 60, 5)
	for _, a := range d.acts(100) {
		r.happen(a)
	}
	heaps, tellings := make([]impl.Heap, 20), make([][]int64, 20)
	var all sync.WaitGroup
	for i := range heaps {
		all.Go(func() { heaps[i], tellings[i] = impl.Play(r.new, r.acts) })
	}
	all.Wait()
	for i := range heaps {
		if !sameHeap(heaps[i], r.h) || !slices.Equal(tellings[i], r.all) {
			t.Fatalf("the one at %d told %v, want %v", i, tellings[i], r.all)
		}
	}
}

// A heap and what it shows are the Same under other Ids, and with Objs that nobody comes to; once one word or number of the heap is another one they are only where it shows nothing else.
func TestSameOfHeapsThatDiffer(t *testing.T) {
	d := &dice{n: 199}
	eachSide(func(side int64) {
		h := furnished(side)
		g := impl.Shown(h)
		checkSame(t, h, g, true)
		checkSame(t, impl.Straightened(h), g, true)
		for range 20 {
			checkSame(t, h, d.otherIds(g, d.roll(4)), true)
		}
		same, other, wrong := 0, 0, 0
		look := func(made impl.Heap) {
			want := wantSame(made, g)
			checkSame(t, made, g, want)
			switch {
			case want:
				same++
			case wantHeapOk(made):
				other++
			default:
				wrong++
			}
		}
		words := append(wordsFor(h), 0, 1, 3, 64, noteHead, noteHead+1, pinned+2, 65+512*7+65536*9, 65+512*8+65536*9, 1+512*7+65536*9, 65+512*7+65536*8)
		for at := range h.Row {
			for _, w := range words {
				made := clonedHeap(h)
				made.Row[at] = w
				rightSeen(&made)
				look(made)
			}
		}
		for _, list := range []func(h *impl.Heap) []int64{func(h *impl.Heap) []int64 { return h.Roots }, func(h *impl.Heap) []int64 { return h.Mourned }} {
			for at := range list(&h) {
				for _, w := range words {
					made := clonedHeap(h)
					list(&made)[at] = w
					look(made)
				}
			}
		}
		for _, n := range append([]int64{h.Seed}, someNumbers...) {
			made := clonedHeap(h)
			made.Seed = n
			look(made)
		}
		for _, mourned := range [][]int64{nil, h.Mourned[:2], h.Mourned[1:], append(slices.Clone(h.Mourned), to(24))} {
			made := clonedHeap(h)
			made.Mourned = mourned
			look(made)
		}
		if same < 300 || other < 300 || wrong < 300 {
			t.Fatalf("%d are the Same, %d show something else, %d are wrong", same, other, wrong)
		}
	})
}

// One thing of the graph is another one: so it is all along the edges of what a graph may be, and by dice.
func TestSameOfGraphsThatDiffer(t *testing.T) {
	d := &dice{n: 200}
	h, _ := laying{half: 20, old: 20, side: 1, order: []int{2, 0, 4, 1, 3}, noted: true}.laid(plainGraph())
	checkSame(t, h, plainGraph(), true)
	same, other := 0, 0
	for _, c := range edgesOfGraphs() {
		g := plainGraph()
		c.change(&g)
		want := wantSame(h, g)
		checkSame(t, h, g, want)
		if want {
			same++
		} else if c.want {
			other++
		}
	}
	if same < 10 || other < 100 {
		t.Fatalf("%d are the Same, %d are others", same, other)
	}
	for range 400 {
		g := d.graph(1+d.roll(6), 3, d.roll(3))
		orders := d.ordersOf(len(g.Objs))
		h, _ := laying{half: 40, old: 60, side: d.roll(2), order: orders[d.roll(3)], noted: d.roll(2) == 0}.laid(g)
		h.Seed = g.Seed
		checkSame(t, h, g, true)
		spoil(d, &g)
		checkSame(t, h, g, wantSame(h, g))
	}
}

func TestActsOfWrongHeaps(t *testing.T) {
	eachSide(func(side int64) {
		eachSpoilt(t, side, func(h impl.Heap) { checkNoHappening(t, h) })
		eachSpoiltWithRoom(t, side, func(right, wrong impl.Heap) {
			for kind := range int64(16) {
				checkAct(t, right, impl.Act{Kind: kind, A: 0, B: 1})
			}
			checkNoHappening(t, wrong)
			// Right in all but one thing, it is not the Same as what it would show.
			checkSame(t, wrong, impl.Shown(right), false)
		})
	})
	checkNoHappening(t, impl.Heap{})
	checkNoHappening(t, impl.Heap{Half: 8, Old: 8, Row: free(8), Roots: six()})
	for _, n := range someEnds {
		checkNoHappening(t, impl.Heap{Half: n, Old: n, Row: joined(zeros(16), free(8)), Side: n, Top: n, Roots: six(), Seed: n})
	}
}

func TestGActsOfWrongGraphs(t *testing.T) {
	for _, c := range edgesOfGraphs() {
		g := plainGraph()
		c.change(&g)
		if !c.want {
			checkNoGHappening(t, g)
			continue
		}
		for kind := range int64(16) {
			checkGAct(t, g, impl.Act{Kind: kind, A: 1, B: 3}, kind%3)
		}
	}
	checkNoGHappening(t, impl.Graph{})
	checkNoGHappening(t, impl.Graph{Roots: sixRoots(), Next: 1, Seed: -1})
}

// Answers to one heap, one beside the other, have nothing of one another; nor has a heap that is written over afterwards anything of its answers.
func TestActAnswersShareNothing(t *testing.T) {
	eachRoom(func(side, s, n int64) {
		was := layout{below: joined(one(1, num(3)), weakOne(2, to(s), 2)), above: nailed(one(4, to(s))), roots: []int64{to(s), to(s + 2), to(48), num(4)}, mourned: []int64{to(48), to(s)}}
		w := watchHeap(was.heap(side))
		wrong := watchHeap(impl.Heap{Roots: six(num(1)), Mourned: []int64{4}, Seen: []int64{5}, Row: []int64{6}})
		list := watchActs([]impl.Act{{Kind: impl.AcNew, A: 4, N: 2}, {Kind: impl.AcSwap, A: 0, B: 4}, {Kind: impl.AcMourn, A: 5}, {Kind: 99}})
		many := watchActs(slices.Repeat([]impl.Act{{Kind: impl.AcNil}}, 201))
		for kind := range int64(16) {
			for _, a := range []impl.Act{{Kind: kind, A: 0, B: 1}, {Kind: kind, A: 6, B: -1}} {
				calls := []func() []int64{}
				for _, h := range []impl.Heap{w.heap, wrong.heap} {
					calls = append(calls,
						func() []int64 { return first(impl.Happen(h, a)).Row },
						func() []int64 { return first(impl.Happen(h, a)).Roots },
						func() []int64 { return first(impl.Happen(h, a)).Mourned },
						func() []int64 { return first(impl.Happen(h, a)).Seen },
						func() []int64 { return second(impl.Play(h, list.list)) },
						func() []int64 { return second(impl.Play(h, many.list)) },
						func() []int64 { return first(impl.Play(h, list.list[:kind%5])).Mourned })
				}
				checkListsApart(t, calls, append(slices.Clone(w.lists), wrong.lists...)...)
				list.check(t)
				many.check(t)
			}
			made, told := impl.Happen(w.heap, impl.Act{Kind: kind, A: 0, B: 1})
			played, all := impl.Play(w.heap, []impl.Act{{Kind: kind, A: 0, B: 1}})
			other := watchHeap(was.heap(side))
			checkHeapApart(t, w.heap)
			checkHeapApart(t, played)
			overwrite(all)
			want, tells := wantHappen(other.heap, impl.Act{Kind: kind, A: 0, B: 1})
			if told != tells || !sameHeap(made, want) || len(made.Mourned) == 0 || len(made.Seen) == 0 {
				t.Fatalf("Kind %d: an answer became %d\n%+v\nwant %d\n%+v", kind, told, made, tells, want)
			}
			w = other
		}
	})
}

// An answer that is grown or written into, and a graph that is, changes nothing that was answered ahead.
func TestGActAnswersShareNothing(t *testing.T) {
	w := watchGraph(plainGraph())
	answers, were := []impl.Graph{}, []impl.Graph{}
	for kind := range int64(16) {
		for _, a := range []impl.Act{{Kind: kind, A: 1, B: 3}, {Kind: kind, A: 6, B: -1}, {Kind: kind, A: 3, B: 1, C: 1, N: 2}} {
			for told := range int64(4) {
				answers = append(answers, first(impl.GHappen(w.graph, a, told)))
				were = append(were, first(impl.GHappen(w.graph, a, told)))
			}
		}
	}
	checkAnswersApart(t, w, answers)
	wants := []impl.Graph{}
	for _, g := range were {
		wants = append(wants, cloned(g))
	}
	checkApart(t, w.graph)
	for i, g := range were {
		if !sameGraph(g, wants[i]) {
			t.Fatalf("the graph, written into, changes an answer: %v, was %v", g, wants[i])
		}
	}
}
