package tests

import (
	"math"
	"slices"
	"testing"

	"loop.example/g00337/impl"
)

func TestBecomeConstants(t *testing.T) {
	if impl.BeOk != 0 || impl.BeBad != 1 || impl.BeSame != 2 || impl.BePinned != 3 || impl.BeFull != 4 {
		t.Error(impl.BeOk, impl.BeBad, impl.BeSame, impl.BePinned, impl.BeFull)
	}
}

// eachTwo asks for all pairs of Roots, also of those past both ends of their range, and of one with itself.
func eachTwo(look func(a, b int64)) {
	for a := int64(-2); a <= 7; a++ {
		for b := int64(-2); b <= 7; b++ {
			look(a, b)
		}
	}
}

func TestBecomingOfNewHeaps(t *testing.T) {
	for _, c := range [][3]int64{{8, 8, 0}, {8, 10, 3}, {200, 400, 65535}, {200, 8, 1}, {8, 400, 77}} {
		h, _ := impl.NewHeap(c[0], c[1], c[2])
		other := clonedHeap(h)
		other.Side = 1
		for _, h := range []impl.Heap{h, other} {
			eachTwo(func(a, b int64) {
				if codes := checkBecoming(t, h, a, b); codes != (becameCodes{1, 1}) {
					t.Fatalf("%d and %d of a new heap tell %+v", a, b, codes)
				}
			})
		}
	}
}

// Who is made and stored, then Swapped, then Replaced: each time the answer in all its words, and each code by its number.
func TestBecomingByHand(t *testing.T) {
	h, _ := impl.NewHeap(10, 8, 0)
	h, _ = impl.Allocated(h, 0, 5, impl.FoWeak, 1, false)
	h, _ = impl.Allocated(h, 4, 6, impl.FoEphem, 2, false)
	h, _ = impl.Stored(h, 0, 0, to(0))
	h, _ = impl.Stored(h, 2, 1, to(0))
	weak, ephem := []int64{1 + 64 + 512*5 + 65536*13849, to(0)}, []int64{2 + 64*2 + 512*6 + 65536*48742, 2, to(0), 0}
	want := heapOf(10, 8, 0, joined(leftNote(1, 20), leftNote(2, 6), weak), ephem)
	want.Roots, want.Seed, want.Seen = six(to(0), 2, 2, 2, to(2)), 48742, []int64{20}
	got, code := impl.Swapped(h, 0, 4)
	if code != 0 || !sameHeap(got, want) {
		t.Fatalf("Swapped it is\n%+v, %d\nwant\n%+v", got, code, want)
	}
	// Both Slots led to the object of Root 0, and lead to the other one's now.
	for _, slot := range [][2]int64{{6, 0}, {20, 1}} {
		checkFetched(t, watchHeap(got), slot[0], slot[1], to(20), true)
	}
	want.Row[20], want.Row[21], want.Row[22] = noteHead+2, to(6), 0
	got, code = impl.Replaced(got, 0, 4)
	if code != 0 || !sameHeap(got, want) {
		t.Fatalf("Replaced it is\n%+v, %d\nwant\n%+v", got, code, want)
	}
	held, _ := impl.Allocated(h, 1, 0, impl.FoPlain, 2, true)
	full, _ := impl.Allocated(held, 2, 0, impl.FoPlain, 2, true)
	for _, c := range []struct {
		name string
		h    impl.Heap
		b    int64
		want becameCodes
	}{
		{"BeBad", h, 1, becameCodes{1, 1}},
		{"BeSame", got, 4, becameCodes{2, 2}},
		{"BePinned", held, 1, becameCodes{3, 0}},
		{"BeFull", full, 4, becameCodes{4, 0}},
	} {
		if codes := checkBecoming(t, c.h, 0, c.b); codes != c.want {
			t.Fatalf("%s: they tell %+v, want %+v", c.name, codes, c.want)
		}
	}
	if codes := checkBecoming(t, held, 1, 0); codes != (becameCodes{3, 3}) {
		t.Fatalf("BePinned: they tell %+v", codes)
	}
}

// Of what is furnished Root 0 leads into the room, 1 to one that is Pinned, 4 over a note and 5 to others upstairs, 2 and 3 to none.
func TestFurnishedBecomes(t *testing.T) {
	leads := []int64{0, 1, 4, 5}
	eachSide(func(side int64) {
		eachTwo(func(a, b int64) {
			want := becameCodes{0, 0}
			switch {
			case !slices.Contains(leads, a) || !slices.Contains(leads, b):
				want = becameCodes{1, 1}
			case a == b:
				want = becameCodes{2, 2}
			case a == 1:
				want = becameCodes{3, 3}
			case b == 1:
				want = becameCodes{3, 0}
			}
			if codes := checkBecoming(t, furnished(side), a, b); codes != want {
				t.Fatalf("%d and %d tell %+v, want %+v", a, b, codes, want)
			}
		})
		s := 12 * side
		// Four words are left in the room, and just four are free upstairs.
		want := furnished(side)
		copy(want.Row[s+8:], []int64{2, to(s + 4), to(24), 4})
		copy(want.Row[28:], []int64{3, to(32), num(-7), to(38)})
		copy(want.Row[s:], leftNote(2, 28))
		copy(want.Row[40:], leftNote(3, s+8))
		want.Top, want.Seen = 12, []int64{24, 32, 40}
		checkBecame(t, "Swapped", impl.Swapped, watchHeap(furnished(side)), 0, 5, want, 0)
		want = furnished(side)
		copy(want.Row[36:], leftNote(0, s))
		want.Seen = []int64{24, 32, 36}
		checkBecame(t, "Replaced", impl.Replaced, watchHeap(furnished(side)), 4, 0, want, 0)
	})
}

// A Root far out of range, one that is Nil and one that is a number lead to none, whatever the other one is.
func TestBecomingOfNone(t *testing.T) {
	eachRoom(func(side, s, n int64) {
		l := layout{below: joined(one(1), note(50)), above: joined(note(s), nailed(one(2))), roots: []int64{to(s), to(s + 2), 2, num(s), num(0), num(-100000)}}
		none := append([]int64{-1, 2, 3, 4, 5, 6}, someEnds...)
		for _, a := range none {
			for _, b := range append([]int64{0, 1}, none...) {
				for _, order := range [][2]int64{{a, b}, {b, a}} {
					if codes := checkBecoming(t, l.heap(side), order[0], order[1]); codes != (becameCodes{1, 1}) {
						t.Fatalf("%v tell %+v", order, codes)
					}
				}
			}
		}
	})
}

// Both Roots lead to one object, by way of notes or not: it is neither Swapped nor Replaced, Pinned or not, with a place for it or not.
func TestBecomingOfOneObject(t *testing.T) {
	eachRoom(func(side, s, n int64) {
		a, up := one(1, num(7)), nailed(one(2, num(8)))
		below := joined(a, note(s), note(s+2))
		above := joined(note(s+4), one(3))
		full := joined(filled(1, 20, 2), one(2))
		taken := joined(filled(4, 19, 2), filled(5, 19, 2), filled(6, 19, 2))
		same := layout{}
		cases := []becomeCase{
			{"the same Root", layout{below: a, roots: []int64{to(s)}}, 0, 0, same, nil, 2},
			{"two Roots", layout{below: a, roots: []int64{to(s), to(s)}}, 0, 1, same, nil, 2},
			{"the first Root and the last", layout{below: a, roots: six(to(s), 2, 2, 2, 2, to(s))}, 0, 5, same, nil, 2},
			{"upstairs", layout{above: a, roots: []int64{2, to(48), to(48)}}, 1, 2, same, nil, 2},
			{"one by way of a note", layout{below: below, roots: []int64{to(s), to(s + 2)}}, 0, 1, same, nil, 2},
			{"both by way of a note", layout{below: below, roots: []int64{to(s + 2), to(s + 2)}}, 0, 1, same, nil, 2},
			{"both by way of several notes", layout{below: below, above: above, roots: []int64{to(48), to(s + 4)}}, 0, 1, same, nil, 2},
			{"the same Root, by way of notes", layout{below: below, above: above, roots: []int64{to(48)}}, 0, 0, same, nil, 2},
			{"it is Pinned", layout{above: up, roots: []int64{to(48), to(48)}}, 0, 1, same, nil, 2},
			{"it is Pinned, by way of a note", layout{below: note(48), above: up, roots: []int64{to(48), to(s)}}, 0, 1, same, nil, 2},
			{"there is no place", layout{below: full, above: taken, roots: []int64{to(s), to(s)}}, 0, 1, same, nil, 2},
			{"but one is no Root", layout{above: up, roots: []int64{to(48), to(48)}}, 0, 6, same, nil, 1},
			{"but one leads to none", layout{above: up, roots: []int64{to(48), to(48)}}, 1, 2, same, nil, 1},
		}
		checkBecomeCases(t, side, impl.Swapped, cases)
		checkBecomeCases(t, side, impl.Replaced, cases)
	})
}

// Where the copies come to stand: a's first, each in the room where there is so much, else upstairs where it fits best.
func TestSwappedToPlaces(t *testing.T) {
	eachRoom(func(side, s, n int64) {
		a, b := one(1, num(3)), one(2, num(4), num(5), 2) // 2 words and 4
		both, up := []int64{to(s), to(s + 2)}, []int64{to(48), to(50)}
		taken := joined(filled(4, 19, 2), filled(5, 19, 2), filled(6, 19, 2))
		much, full := filled(3, 15, 2), filled(3, 17, 2)
		big, more, rest := filled(4, 19, 2), filled(5, 19, 2), filled(6, 13, 2)
		checkBecomeCases(t, side, impl.Swapped, []becomeCase{
			{"both in the room", layout{below: joined(a, b), roots: both}, 0, 1, layout{below: joined(leftNote(1, s+8), leftNote(3, s+6), a, b), roots: both}, nil, 0},
			{"both in the room, the other one first", layout{below: joined(a, b), roots: both}, 1, 0, layout{below: joined(leftNote(1, s+6), leftNote(3, s+10), b, a), roots: both}, nil, 0},
			{"both upstairs, to the room", layout{above: joined(a, b), roots: up}, 0, 1, layout{below: joined(a, b), above: joined(leftNote(1, s+2), leftNote(3, s)), roots: up}, []int64{48, 50}, 0},
			{"one in each", layout{below: a, above: b, roots: []int64{to(s), to(48)}}, 0, 1, layout{below: joined(leftNote(1, s+4), a, b), above: leftNote(3, s+2), roots: []int64{to(s), to(48)}}, []int64{48}, 0},
			{"one in each, the one upstairs first", layout{below: a, above: b, roots: []int64{to(s), to(48)}}, 1, 0, layout{below: joined(leftNote(1, s+2), b, a), above: leftNote(3, s+6), roots: []int64{to(s), to(48)}}, []int64{48}, 0},
			{"the room is full, both go upstairs", layout{below: joined(a, b, full), roots: both}, 0, 1, layout{below: joined(leftNote(1, 50), leftNote(3, 48), full), above: joined(a, b), roots: both}, nil, 0},
			{"the room has just so much for both", layout{below: joined(a, b, filled(3, 11, 2)), above: taken, roots: both}, 0, 1, layout{below: joined(leftNote(1, s+20), leftNote(3, s+18), filled(3, 11, 2), a, b), above: taken, roots: both}, nil, 0},
			{"the room has just so much for a's", layout{below: joined(a, b, much), roots: both}, 0, 1, layout{below: joined(leftNote(1, 48), leftNote(3, s+22), much, a), above: b, roots: both}, nil, 0},
			{"the room has just so much for b's", layout{below: joined(a, b, much), roots: both}, 1, 0, layout{below: joined(leftNote(1, 48), leftNote(3, s+22), much, a), above: b, roots: both}, nil, 0},
			{"upstairs has just so much for each", layout{below: joined(a, b, full), above: joined(big, free(4), more, free(2), rest), roots: both}, 0, 1, layout{below: joined(leftNote(1, 68), leftNote(3, 92), full), above: joined(big, b, more, a, rest), roots: both}, nil, 0},
			{"upstairs has one chunk for both", layout{below: joined(a, b, full), above: joined(big, free(6), more, rest), roots: both}, 0, 1, layout{below: joined(leftNote(1, 70), leftNote(3, 68), full), above: joined(big, a, b, more, rest), roots: both}, nil, 0},
			{"a's leaves of the first what fits b's best", layout{below: joined(a, b, full), above: joined(free(6), big, free(8), more, filled(6, 5, 2)), roots: both}, 0, 1, layout{below: joined(leftNote(1, 50), leftNote(3, 48), full), above: joined(a, b, big, free(8), more, filled(6, 5, 2)), roots: both}, nil, 0},
			{"what lay in a free chunk stays in the rest of it", layout{below: joined(a, b, full), above: free(60, slices.Repeat([]int64{77}, 58)...), roots: both}, 0, 1, layout{below: joined(leftNote(1, 50), leftNote(3, 48), full), above: joined(a, b, free(54, slices.Repeat([]int64{77}, 52)...)), roots: both}, nil, 0},
			{"only b's ahead of a's: then there is a place for both", layout{below: joined(a, b, filled(3, 13, 2)), above: joined(big, more, filled(6, 17, 2)), roots: both}, 1, 0, layout{below: joined(leftNote(1, s+20), leftNote(3, 106), filled(3, 13, 2), b), above: joined(big, more, filled(6, 17, 2), a), roots: both}, nil, 0},
		})
	})
}

// Without a place for both it is as it is, wherever a's copy would have gone.
func TestSwappedWithoutPlaces(t *testing.T) {
	eachRoom(func(side, s, n int64) {
		a, b := one(1, num(3)), one(2, num(4), num(5), 2)
		both := []int64{to(s), to(s + 2)}
		big, more := filled(4, 19, 2), filled(5, 19, 2)
		taken, two := joined(big, more, filled(6, 19, 2)), joined(big, more, filled(6, 17, 2))
		full := filled(3, 17, 2)
		same := layout{}
		checkBecomeCases(t, side, impl.Swapped, []becomeCase{
			{"for none", layout{below: joined(a, b, full), above: taken, roots: both}, 0, 1, same, nil, 4},
			{"for none, both upstairs", layout{below: joined(filled(3, 20, 2), one(7)), above: joined(a, b, big, more, filled(6, 13, 2)), roots: []int64{to(48), to(50)}}, 0, 1, same, nil, 4},
			{"for a's alone, in the room", layout{below: joined(a, b, filled(3, 15, 2)), above: taken, roots: both}, 0, 1, same, nil, 4},
			{"for a's alone, upstairs", layout{below: joined(a, b, full), above: two, roots: both}, 0, 1, same, nil, 4},
			{"for b's alone, in the room", layout{below: joined(a, b, filled(3, 15, 2)), above: taken, roots: both}, 1, 0, same, nil, 4},
			{"for b's alone, upstairs", layout{below: joined(a, b, full), above: two, roots: both}, 1, 0, same, nil, 4},
			{"for b's only where a's takes no room from it", layout{below: joined(a, b, filled(3, 13, 2)), above: taken, roots: both}, 0, 1, same, nil, 4},
			{"for b's only where a's takes none from it upstairs", layout{below: joined(a, b, full), above: joined(big, more, free(4), filled(6, 15, 2)), roots: both}, 0, 1, same, nil, 4},
			{"two words too few for b's, in the room and upstairs", layout{below: joined(a, b, filled(3, 13, 2)), above: two, roots: both}, 0, 1, same, nil, 4},
			{"a's takes all of it from b's", layout{below: joined(a, b, full), above: joined(big, more, free(4), filled(6, 15, 2)), roots: both}, 1, 0, same, nil, 4},
			{"free ones side by side are not one", layout{below: joined(a, b, full), above: joined(big, more, free(2), free(2), free(2), filled(6, 13, 2)), roots: both}, 0, 1, same, nil, 4},
			{"what nobody wants is in the way still", layout{below: joined(a, b, full), above: joined(slices.Repeat(note(s), 10), big, more), roots: both}, 0, 1, same, nil, 4},
			{"where they stood is no place for them", layout{below: joined(filled(1, 9, 2), filled(2, 9, 2), one(3, 2, 2)), above: taken, roots: []int64{to(s), to(s + 10)}}, 0, 1, same, nil, 4},
		})
	})
}

// Who is Pinned is not Swapped, and not Replaced; another one may be Replaced by it.
func TestBecomingOfPinnedOnes(t *testing.T) {
	eachRoom(func(side, s, n int64) {
		a, b := one(1, num(3)), one(2, num(4), num(5), 2)
		upA, upB := nailed(a), nailed(b)
		up := []int64{to(48), to(50)}
		full, taken := joined(filled(3, 20, 2), one(4)), joined(filled(4, 19, 2), filled(5, 19, 2), filled(6, 13, 2))
		same := layout{}
		checkBecomeCases(t, side, impl.Swapped, []becomeCase{
			{"a's", layout{above: joined(upA, b), roots: up}, 0, 1, same, nil, 3},
			{"b's", layout{above: joined(upA, b), roots: up}, 1, 0, same, nil, 3},
			{"both", layout{above: joined(upA, upB), roots: up}, 0, 1, same, nil, 3},
			{"a's, and b's in the room", layout{below: b, above: upA, roots: []int64{to(48), to(s)}}, 0, 1, same, nil, 3},
			{"b's, and a's in the room", layout{below: b, above: upA, roots: []int64{to(48), to(s)}}, 1, 0, same, nil, 3},
			{"a's, over notes", layout{below: note(50), above: joined(upA, note(48), b), roots: []int64{to(s), to(52)}}, 0, 1, same, nil, 3},
			{"and there is no place", layout{below: full, above: joined(upA, b, taken), roots: up}, 0, 1, same, nil, 3},
			{"neither, but a note that is", layout{above: joined(nailed(note(50)), a, b), roots: []int64{to(48), to(52)}}, 0, 1, layout{below: joined(a, b), above: joined(nailed(note(50)), leftNote(1, s+2), leftNote(3, s)), roots: []int64{to(48), to(52)}}, []int64{50, 52}, 0},
		})
		checkBecomeCases(t, side, impl.Replaced, []becomeCase{
			{"a's", layout{above: joined(upA, b), roots: up}, 0, 1, same, nil, 3},
			{"b's", layout{above: joined(upA, b), roots: up}, 1, 0, layout{above: joined(upA, leftNote(3, 48)), roots: up}, nil, 0},
			{"both", layout{above: joined(upA, upB), roots: up}, 0, 1, same, nil, 3},
			{"a's, and b's in the room", layout{below: b, above: upA, roots: []int64{to(48), to(s)}}, 0, 1, same, nil, 3},
			{"b's, and a's in the room", layout{below: b, above: upA, roots: []int64{to(48), to(s)}}, 1, 0, layout{below: leftNote(3, 48), above: upA, roots: []int64{to(48), to(s)}}, nil, 0},
			{"a's, over notes", layout{below: note(50), above: joined(upA, note(48), b), roots: []int64{to(s), to(52)}}, 0, 1, same, nil, 3},
			{"b's, and there is no place", layout{below: full, above: joined(upA, b, taken), roots: up}, 1, 0, layout{below: full, above: joined(upA, leftNote(3, 48), taken), roots: up}, nil, 0},
			{"neither, but a note that is", layout{above: joined(nailed(note(50)), a, b), roots: []int64{to(48), to(52)}}, 0, 1, layout{above: joined(nailed(note(50)), leftNote(1, 52), b), roots: []int64{to(48), to(52)}}, nil, 0},
		})
	})
}

// Nobody is told: Roots, Mourned, Slots and notes say what they said, and lead to the copies from then on.
func TestSwappedAndNobodyIsTold(t *testing.T) {
	eachRoom(func(side, s, n int64) {
		a, b := one(1, num(3)), one(2, num(4), num(5), 2)
		both := []int64{to(s), to(s + 2)}
		went := joined(leftNote(1, s+8), leftNote(3, s+6))
		up := []int64{to(48), to(50)}
		full := filled(3, 19, 2)
		checkBecomeCases(t, side, impl.Swapped, []becomeCase{
			{"no Slots", layout{below: joined(one(1), one(2)), roots: both}, 0, 1, layout{below: joined(leftNote(0, s+6), leftNote(0, s+4), one(1), one(2)), roots: both}, nil, 0},
			{"it leads to itself", layout{below: joined(one(1, to(s)), b), roots: both}, 0, 1, layout{below: joined(went, one(1, to(s)), b), roots: both}, nil, 0},
			{"both lead to themselves", layout{below: joined(one(1, to(s)), one(2, to(s+2), 2, to(s+2))), roots: both}, 0, 1, layout{below: joined(went, one(1, to(s)), one(2, to(s+2), 2, to(s+2))), roots: both}, nil, 0},
			{"they lead to each other", layout{below: joined(one(1, to(s+2)), one(2, to(s), 2, 2)), roots: both}, 0, 1, layout{below: joined(went, one(1, to(s+2)), one(2, to(s), 2, 2)), roots: both}, nil, 0},
			{"it leads to itself upstairs", layout{above: joined(one(1, to(48)), b), roots: up}, 0, 1, layout{below: joined(one(1, to(48)), b), above: joined(leftNote(1, s+2), leftNote(3, s)), roots: up}, []int64{48, 50}, 0},
			{"one is in Mourned", layout{below: joined(a, b), roots: both, mourned: []int64{to(s)}}, 0, 1, layout{below: joined(went, a, b), roots: both, mourned: []int64{to(s)}}, nil, 0},
			{"both are in Mourned, and again", layout{below: joined(a, b), roots: both, mourned: []int64{to(s + 2), to(s), to(s + 2)}}, 0, 1, layout{below: joined(went, a, b), roots: both, mourned: []int64{to(s + 2), to(s), to(s + 2)}}, nil, 0},
			{"one upstairs leads to one of them", layout{below: joined(a, b), above: one(3, to(s)), roots: both}, 0, 1, layout{below: joined(went, a, b), above: one(3, to(s)), roots: both}, []int64{48}, 0},
			{"one upstairs leads to both", layout{below: joined(a, b), above: one(3, to(s+2), to(s)), roots: append(both[:2:2], to(48))}, 1, 0, layout{below: joined(leftNote(1, s+6), leftNote(3, s+10), b, a), above: one(3, to(s+2), to(s)), roots: append(both[:2:2], to(48))}, []int64{48}, 0},
			{"all Roots lead to them", layout{below: joined(a, b), roots: []int64{to(s), to(s + 2), to(s + 2), to(s), to(s), to(s + 2)}}, 3, 5, layout{below: joined(went, a, b), roots: []int64{to(s), to(s + 2), to(s + 2), to(s), to(s), to(s + 2)}}, nil, 0},
			{"over notes", layout{below: joined(a, note(s), b, note(48)), above: note(s + 4), roots: []int64{to(s + 2), to(s + 8)}}, 0, 1, layout{below: joined(leftNote(1, s+12), note(s), leftNote(3, s+10), note(48), a, b), above: note(s + 4), roots: []int64{to(s + 2), to(s + 8)}}, []int64{48}, 0},
			{"weak ones and those that wait", layout{below: joined(weakOne(1, to(s+2)), ephemOne(2, to(s), 2, to(s+2))), roots: both}, 0, 1, layout{below: joined(went, weakOne(1, to(s+2)), ephemOne(2, to(s), 2, to(s+2))), roots: both}, nil, 0},
			{"who was Seen is upstairs still, elsewhere", layout{below: joined(a, full, one(7)), above: one(2, to(s), 2, 2), roots: []int64{to(s), to(48)}}, 0, 1, layout{below: joined(leftNote(1, 54), full, one(7)), above: joined(leftNote(3, 52), a, one(2, to(s), 2, 2)), roots: []int64{to(s), to(48)}}, []int64{54}, 0},
			{"who was not Seen leaves a note that is", layout{below: joined(filled(3, 20, 2)), above: joined(a, b), roots: up}, 0, 1, layout{below: joined(filled(3, 20, 2), a), above: joined(leftNote(1, 54), leftNote(3, s+22), b), roots: up}, []int64{50}, 0},
			{"who was not Seen below is upstairs", layout{below: joined(one(1, to(s+2)), b, filled(3, 17, 2)), roots: both}, 0, 1, layout{below: joined(leftNote(1, 50), leftNote(3, 48), filled(3, 17, 2)), above: joined(one(1, to(s+2)), b), roots: both}, []int64{48}, 0},
		})
	})
}

// Who is Replaced leaves a note, and all else stays, be there a place for anything or not.
func TestReplacedByHand(t *testing.T) {
	eachRoom(func(side, s, n int64) {
		a, b := one(1, num(3)), one(2, num(4), num(5), 2)
		both, up := []int64{to(s), to(s + 2)}, []int64{to(48), to(50)}
		full := filled(3, 17, 2)
		taken := joined(filled(4, 19, 2), filled(5, 19, 2), filled(6, 19, 2))
		checkBecomeCases(t, side, impl.Replaced, []becomeCase{
			{"both in the room", layout{below: joined(a, b), roots: both}, 0, 1, layout{below: joined(leftNote(1, s+2), b), roots: both}, nil, 0},
			{"the other one", layout{below: joined(a, b), roots: both}, 1, 0, layout{below: joined(a, leftNote(3, s)), roots: both}, nil, 0},
			{"both upstairs", layout{above: joined(a, b), roots: up}, 0, 1, layout{above: joined(leftNote(1, 50), b), roots: up}, nil, 0},
			{"a's upstairs, b's in the room", layout{below: b, above: a, roots: []int64{to(48), to(s)}}, 0, 1, layout{below: b, above: leftNote(1, s), roots: []int64{to(48), to(s)}}, []int64{48}, 0},
			{"a's in the room, b's upstairs", layout{below: b, above: a, roots: []int64{to(48), to(s)}}, 1, 0, layout{below: leftNote(3, 48), above: a, roots: []int64{to(48), to(s)}}, nil, 0},
			{"there is no place", layout{below: joined(a, b, full), above: taken, roots: both}, 0, 1, layout{below: joined(leftNote(1, s+2), b, full), above: taken, roots: both}, nil, 0},
			{"no Slots", layout{below: joined(one(1), one(2)), roots: both}, 0, 1, layout{below: joined(leftNote(0, s+2), one(2)), roots: both}, nil, 0},
			{"all Slots", layout{below: joined(filled(1, 20, to(s)), one(2)), roots: []int64{to(s), to(s + 22)}}, 0, 1, layout{below: joined(leftNote(20, s+22), one(2)), roots: []int64{to(s), to(s + 22)}}, nil, 0},
			{"by one of all Slots", layout{below: joined(filled(1, 20, to(s)), one(2)), roots: []int64{to(s), to(s + 22)}}, 1, 0, layout{below: joined(filled(1, 20, to(s)), leftNote(0, s)), roots: []int64{to(s), to(s + 22)}}, nil, 0},
			{"it led to itself", layout{below: joined(one(1, to(s)), b), roots: both}, 0, 1, layout{below: joined(leftNote(1, s+2), b), roots: both}, nil, 0},
			{"b's leads to itself", layout{below: joined(a, one(2, to(s+2), 2, 2)), roots: both}, 0, 1, layout{below: joined(leftNote(1, s+2), one(2, to(s+2), 2, 2)), roots: both}, nil, 0},
			{"they lead to each other", layout{below: joined(one(1, to(s+2)), one(2, to(s), 2, 2)), roots: both}, 0, 1, layout{below: joined(leftNote(1, s+2), one(2, to(s), 2, 2)), roots: both}, nil, 0},
			{"one is in Mourned", layout{below: joined(a, b), roots: both, mourned: []int64{to(s), to(s)}}, 0, 1, layout{below: joined(leftNote(1, s+2), b), roots: both, mourned: []int64{to(s), to(s)}}, nil, 0},
			{"the other is in Mourned", layout{below: joined(a, b), roots: both, mourned: []int64{to(s + 2)}}, 0, 1, layout{below: joined(leftNote(1, s+2), b), roots: both, mourned: []int64{to(s + 2)}}, nil, 0},
			{"one upstairs leads to both", layout{below: joined(a, b), above: one(3, to(s), to(s+2)), roots: both}, 0, 1, layout{below: joined(leftNote(1, s+2), b), above: one(3, to(s), to(s+2)), roots: both}, []int64{48}, 0},
			{"over notes", layout{below: joined(a, note(s), b, note(48)), above: note(s + 4), roots: []int64{to(s + 2), to(s + 8)}}, 0, 1, layout{below: joined(leftNote(1, s+4), note(s), b, note(48)), above: note(s + 4), roots: []int64{to(s + 2), to(s + 8)}}, []int64{48}, 0},
			{"over notes, the other one", layout{below: joined(a, note(s), b, note(48)), above: note(s + 4), roots: []int64{to(s + 2), to(s + 8)}}, 1, 0, layout{below: joined(a, note(s), leftNote(3, s), note(48)), above: note(s + 4), roots: []int64{to(s + 2), to(s + 8)}}, []int64{48}, 0},
			{"who was Seen is Seen no more", layout{below: b, above: joined(one(1, to(s)), one(3), one(4, to(s))), roots: up}, 0, 1, layout{below: b, above: joined(leftNote(1, 50), one(3), one(4, to(s))), roots: up}, []int64{52}, 0},
			{"who was Seen is Seen still", layout{below: b, above: joined(one(4, to(s)), one(1, to(s))), roots: []int64{to(50), to(s)}}, 0, 1, layout{below: b, above: joined(one(4, to(s)), leftNote(1, s)), roots: []int64{to(50), to(s)}}, []int64{48, 50}, 0},
			{"who led to others leads to them no more", layout{below: joined(one(1, to(s+2)), one(5), b), roots: []int64{to(s), to(s + 4)}}, 0, 1, layout{below: joined(leftNote(1, s+4), one(5), b), roots: []int64{to(s), to(s + 4)}}, nil, 0},
			{"weak ones and those that wait", layout{below: joined(weakOne(1, to(s+2)), ephemOne(2, to(s), 2, to(s+2))), roots: both}, 0, 1, layout{below: joined(leftNote(1, s+2), ephemOne(2, to(s), 2, to(s+2))), roots: both}, nil, 0},
		})
	})
}

// Whatever is left over behind the Slots goes along with the copy, and behind the note all is 0.
func TestBecomingWithWordsLeftOver(t *testing.T) {
	eachRoom(func(side, s, n int64) {
		for _, w := range []int64{0, 1, 2, -1, to(s), to(48), to(s + 1), num(3), freeHead, noteHead, marked, math.MinInt64, math.MaxInt64} {
			a, b := []int64{65536, w}, []int64{2, num(9), 2, w}
			both, up := []int64{to(s), to(s + 2)}, []int64{to(48), to(50)}
			checkBecomeCases(t, side, impl.Swapped, []becomeCase{
				{"below", layout{below: joined(a, b), roots: both}, 0, 1, layout{below: joined(leftNote(0, s+8), leftNote(2, s+6), a, b), roots: both}, nil, 0},
				{"upstairs", layout{above: joined(a, b), roots: up}, 0, 1, layout{below: joined(a, b), above: joined(leftNote(0, s+2), leftNote(2, s)), roots: up}, []int64{48, 50}, 0},
			})
			checkBecomeCases(t, side, impl.Replaced, []becomeCase{
				{"below", layout{below: joined(a, b), roots: both}, 1, 0, layout{below: joined(a, leftNote(2, s)), roots: both}, nil, 0},
				{"upstairs", layout{above: joined(a, b), roots: up}, 0, 1, layout{above: joined(leftNote(0, 50), b), roots: up}, nil, 0},
			})
		}
	})
}

// Every right head that is not Pinned is copied as it is; its note has its Slots and nothing else.
func TestSwappedOfEveryHead(t *testing.T) {
	for _, head := range rightHeads() {
		if head.Format > impl.FoEphem || head.Marked || head.Pinned || head.Class%33 != 0 || head.Hash%65535 != 0 {
			continue
		}
		eachRoom(func(side, s, n int64) {
			body, other := headed(head, s), one(7, num(1))
			checkBecomeCases(t, side, impl.Swapped, []becomeCase{
				{"the room is full", layout{below: joined(body, other, zeros(22-len(body))), roots: []int64{to(s), to(s + int64(len(body)))}}, 0, 1,
					layout{below: joined(leftNote(head.Slots, 48+int64(len(body))), leftNote(1, 48), zeros(22-len(body))), above: joined(body, other), roots: []int64{to(s), to(s + int64(len(body)))}}, seenIf(head.Slots > 0, 48), 0},
			})
		})
	}
}

func seenIf(is bool, at int64) []int64 {
	if is {
		return []int64{at}
	}
	return nil
}

// Two objects of any Slots, with just so much left in the room and free upstairs for one, for the other, for both, two words less, and nothing.
func TestSwappedOfEachSlots(t *testing.T) {
	d := &dice{n: 181}
	told := map[int64]int{}
	for one := range int64(21) {
		for _, other := range []int64{0, 1, 2, 3, 19, 20} {
			a, b := one/2*2+2, other/2*2+2
			for _, room := range []int64{0, a - 2, a, b, a + b - 2, a + b} {
				for _, up := range []int64{0, a - 2, b, a, a + b - 2, a + b} {
					f := fitting{slots: [2]int64{one, other}, left: room, free: up}
					codes := checkBecoming(t, f.heap(d), 0, 5)
					told[codes.swapped]++
					if want := f.code(); codes != (becameCodes{want, 0}) {
						t.Fatalf("%+v tells %+v, want %d", f, codes, want)
					}
				}
			}
		}
	}
	if told[impl.BeOk] < 1000 || told[impl.BeFull] < 1000 {
		t.Fatalf("these tell too little: %v", told)
	}
}

// fitting is how many Slots the objects of Roots 0 and 5 have, and how many words are left for them in the room and free upstairs.
type fitting struct {
	slots      [2]int64
	left, free int64
}

// heap has each of the two in the room or upstairs, between others of two words.
func (f fitting) heap(d *dice) impl.Heap {
	parts := [2][]int64{one(9), one(9)}
	roots, side := six(), d.roll(2)
	for i, slots := range f.slots {
		part := d.roll(2)
		roots[5*i] = to(int64(len(parts[part])) + []int64{100 * side, 200}[part])
		parts[part] = joined(parts[part], filled(int64(i), slots, num(5)), one(9))
	}
	above := filledUp(parts[1], 100-f.free)
	if f.free > 0 {
		above = joined(above, free(int(f.free)))
	}
	h := heapOf(100, 100, side, filledUp(parts[0], 100-f.left), above)
	h.Roots = roots
	return h
}

// filledUp is so many words, where behind the part is nothing but objects.
func filledUp(part []int64, n int64) []int64 {
	for n-int64(len(part)) >= 20 {
		part = joined(part, filled(8, 19, 2))
	}
	return joined(part, zeros(int(n)-len(part)))
}

func (f fitting) code() int64 {
	left, free := f.left, f.free
	for _, slots := range f.slots {
		size := slots/2*2 + 2
		switch {
		case size <= left:
			left -= size
		case size <= free:
			free -= size
		default:
			return impl.BeFull
		}
	}
	return impl.BeOk
}

// All ways in which three Slots of two objects, a Root, Mourned and a Slot upstairs can be Nil or lead to either, to another or to a note.
func TestBecomingInEveryWay(t *testing.T) {
	eachRoom(func(side, s, n int64) {
		words := []int64{2, to(s), to(s + 2), to(48), to(s + 6)}
		eachShortRow(5, words, func(w []int64) {
			h := layout{below: joined(one(1, w[0]), one(2, w[1], w[2]), note(s)), above: one(3, w[3]), roots: []int64{to(s), to(s + 2), w[4]}, mourned: []int64{to(s + 6), to(s + 2)}}.heap(side)
			for _, order := range [][2]int64{{0, 1}, {1, 0}} {
				for _, c := range []struct {
					call, byHand      becomes
					graph, graphAlike gBecomes
				}{{impl.Swapped, wantSwapped, impl.GSwapped, wantGSwapped}, {impl.Replaced, wantReplaced, impl.GReplaced, wantGReplaced}} {
					made, code := c.call(h, order[0], order[1])
					want, _ := c.byHand(h, order[0], order[1])
					if code != impl.BeOk || !sameHeap(made, want) || !impl.HeapOk(made) {
						t.Fatalf("%+v\n%v became\n%+v, %d\nwant\n%+v", h, order, made, code, want)
					}
					checkShowsAs(t, h, made, order[0], order[1], c.graph, c.graphAlike)
				}
			}
		})
	})
}

// All rows of up to four free chunks, objects, Pinned ones and notes upstairs beside a room with few words left, with words by dice that often lead over notes.
func TestBecomingOfEveryRow(t *testing.T) {
	d := &dice{n: 182}
	pieces := [][]int64{free(2), free(6, 7), one(1, 2), weakOne(2, 2, 2), nailed(one(3, 2)), ephemOne(4, 2, 2), {noteHead + 2, 4, 4, 4}}
	told := map[becameCodes]int{}
	for n := range 5 {
		eachRowOf(n, pieces, func(row []int64) {
			side := d.roll(2)
			h := heapOf(14, max(8, int64(len(row))), side, joined(one(5, 2), note(14*side), weakOne(6, 2), ephemOne(7, 2, 2)), row)
			d.furnishWords(&h)
			d.detours(&h)
			for range 3 {
				told[checkBecoming(t, h, d.roll(6), d.roll(6))]++
			}
		})
	}
	for _, codes := range []becameCodes{{0, 0}, {1, 1}, {2, 2}, {3, 3}, {3, 0}, {4, 0}} {
		if told[codes] < 100 {
			t.Fatalf("these rows tell too little: %v", told)
		}
	}
}

// More are led to than can be Shown, or as many: it is Swapped and Replaced all the same.
func TestBecomingOfMoreThanIsShown(t *testing.T) {
	d := &dice{n: 183}
	for _, n := range []int{199, 200, 201, 250} {
		eachSide(func(side int64) {
			d.eachOrder(pairsOf(200, 400, side), func(places []int64) {
				h := rowOfObjects(side, n, places, n%2 == 0)
				h.Roots[1], h.Roots[2] = to(places[0]), to(places[n/2])
				checkBecame(t, "Swapped", impl.Swapped, watchHeap(h), 1, 2, h, impl.BeFull)
				if codes := checkBecoming(t, h, 2, 1); codes.replaced != impl.BeOk {
					t.Fatalf("%d objects: %+v", n, codes)
				}
				// Once through the house those that nobody leads to are gone, and so there is a place.
				made := impl.Full(h)
				if codes := checkBecoming(t, made, 1, 2); codes != (becameCodes{0, 0}) {
					t.Fatalf("%d objects, once through the house: %+v", n, codes)
				}
			})
		})
	}
}

// Right heaps, as they come, with and without many notes and Pinned ones; and the same with something spoilt.
func TestBecomingOfManyHeaps(t *testing.T) {
	d := &dice{n: 1818}
	told, wrong := map[becameCodes]int{}, 0
	for i := range 700 {
		h := d.mixedHeap(i)
		for range 8 {
			told[checkBecoming(t, h, d.roll(6), d.roll(6))]++
		}
		told[checkBecoming(t, h, d.roll(8)-1, d.roll(8)-1)]++
		d.spoilHeap(&h)
		if wantHeapOk(h) {
			told[checkBecoming(t, h, d.roll(6), d.roll(6))]++
			continue
		}
		wrong++
		checkNoBecoming(t, h)
	}
	for _, codes := range []becameCodes{{0, 0}, {1, 1}, {2, 2}, {3, 3}, {3, 0}, {4, 0}} {
		if told[codes] < 50 || wrong < 150 {
			t.Fatalf("these heaps tell too little: %v, %d are wrong", told, wrong)
		}
	}
}

func TestBecomingOfGreatHeaps(t *testing.T) {
	d := &dice{n: 181818}
	for i := range 16 {
		h := d.heap(200, 400, []int64{0, 37, 40}[d.roll(3)])
		if i%5 == 1 {
			d.noted(&h)
		}
		if i%4 > 1 {
			unnailed(&h)
		}
		for range 3 {
			checkBecoming(t, h, d.roll(6), d.roll(6))
		}
	}
}

// becomeRun is a heap and the graph that it shows, which become others as well.
type becomeRun struct{ allocRun }

// become is the same of both; where the heap has no place for it, or holds one of them, nothing is done.
func (r *becomeRun) become(a, b int64, call becomes, graph gBecomes) int64 {
	r.t.Helper()
	made, code := call(r.h, a, b)
	g, is := graph(r.g, a, b)
	if is == (code == impl.BeBad || code == impl.BeSame) {
		r.t.Fatalf("%+v\nof %d and %d it tells %d, the graph\n%v\n%v", r.h, a, b, code, r.g, is)
	}
	r.h = made
	if code == impl.BeOk {
		r.g = g
	}
	r.check("became")
	return code
}

func (r *becomeRun) carry(d *dice) {
	r.t.Helper()
	if d.roll(3) == 0 {
		r.h, r.g = impl.Full(r.h), impl.Collected(r.g)
		r.check("Full")
		return
	}
	r.h = impl.Scavenged(r.h)
	r.check("Scavenged")
}

// What becomes, is Allocated, Stored, dropped, Tenured, Scavenged and Full by turns from a new heap on: at each step it shows what the graph is, to which the same happened.
func TestBecomingAsInTheGraph(t *testing.T) {
	d := &dice{n: 184}
	told := map[becameCodes]int{}
	for range 40 {
		half, old, seed := 8+2*d.roll(24), 8+2*d.roll(30), d.roll(65536)
		h, _ := impl.NewHeap(half, old, seed)
		g, _ := impl.NewGraph(seed)
		r := &becomeRun{allocRun{t, h, g}}
		for range 60 {
			n := d.newOne(5)
			n.pinned = d.roll(12) == 0
			r.allocate(n)
			r.step(d)
			swapped := r.become(d.roll(7), d.roll(6), impl.Swapped, impl.GSwapped)
			r.step(d)
			replaced := int64(impl.BeBad)
			if d.roll(4) == 0 {
				replaced = r.become(d.roll(6), d.roll(7), impl.Replaced, impl.GReplaced)
			}
			told[becameCodes{swapped, replaced}]++
			if d.roll(5) == 0 {
				r.carry(d)
			}
		}
	}
	swapped, replaced := map[int64]int{}, map[int64]int{}
	for codes, n := range told {
		swapped[codes.swapped] += n
		replaced[codes.replaced] += n
	}
	for code := range int64(5) {
		if swapped[code] < 50 || replaced[code] < 10 && code != impl.BeFull {
			t.Fatalf("these turns tell too little: Swapped %v, Replaced %v", swapped, replaced)
		}
	}
}

func TestBecomingOfWrongHeaps(t *testing.T) {
	eachSide(func(side int64) {
		eachSpoilt(t, side, func(h impl.Heap) { checkNoBecoming(t, h) })
		eachSpoiltWithRoom(t, side, func(right, wrong impl.Heap) {
			for _, order := range [][2]int64{{0, 1}, {1, 0}} {
				if codes := checkBecoming(t, right, order[0], order[1]); codes != (becameCodes{0, 0}) {
					t.Fatalf("%+v\n%v tell %+v", right, order, codes)
				}
			}
			checkNoBecoming(t, wrong)
		})
	})
	checkNoBecoming(t, impl.Heap{})
	checkNoBecoming(t, impl.Heap{Half: 8, Old: 8, Row: free(8), Roots: six()})
	for _, n := range someEnds {
		checkNoBecoming(t, impl.Heap{Half: n, Old: n, Row: joined(zeros(16), free(8)), Side: n, Top: n, Roots: six(), Seed: n})
		checkNoBecoming(t, impl.Heap{Half: 8, Old: 8, Row: joined(zeros(16), free(8)), Top: n, Roots: six()})
	}
}

// becomings are a heap and two Roots for each code, with Mourned and Seen that are not empty.
func becomings(side int64) []struct {
	was  layout
	a, b int64
	call becomes
	code int64
} {
	s := 24 * side
	a, b := one(1, num(3)), one(2, to(s), num(5), 2)
	full := filled(3, 17, 2)
	roots, mourned := []int64{to(s), to(s + 2), to(48), num(4)}, []int64{to(48), to(s)}
	up := nailed(one(4, to(s)))
	taken := joined(up, filled(5, 19, 2), filled(6, 19, 2), filled(7, 17, 2))
	return []struct {
		was  layout
		a, b int64
		call becomes
		code int64
	}{
		{layout{below: joined(a, b), above: up, roots: roots, mourned: mourned}, 0, 1, impl.Swapped, impl.BeOk},
		{layout{below: joined(a, b, full), above: up, roots: roots, mourned: mourned}, 1, 0, impl.Swapped, impl.BeOk},
		{layout{below: joined(a, b), above: up, roots: roots, mourned: mourned}, 0, 3, impl.Swapped, impl.BeBad},
		{layout{below: joined(a, b), above: up, roots: roots, mourned: mourned}, 6, 0, impl.Swapped, impl.BeBad},
		{layout{below: joined(a, b), above: up, roots: roots, mourned: mourned}, 1, 1, impl.Swapped, impl.BeSame},
		{layout{below: joined(a, b), above: up, roots: roots, mourned: mourned}, 0, 2, impl.Swapped, impl.BePinned},
		{layout{below: joined(a, b, full), above: taken, roots: roots, mourned: mourned}, 0, 1, impl.Swapped, impl.BeFull},
		{layout{below: joined(a, b, filled(3, 15, 2)), above: taken, roots: roots, mourned: mourned}, 0, 1, impl.Swapped, impl.BeFull},
		{layout{below: joined(a, b), above: up, roots: roots, mourned: mourned}, 1, 2, impl.Replaced, impl.BeOk},
		{layout{below: joined(a, b), above: up, roots: roots, mourned: mourned}, 3, 0, impl.Replaced, impl.BeBad},
		{layout{below: joined(a, b), above: up, roots: roots, mourned: mourned}, 0, 0, impl.Replaced, impl.BeSame},
		{layout{below: joined(a, b), above: up, roots: roots, mourned: mourned}, 2, 0, impl.Replaced, impl.BePinned},
	}
}

// Answers to one heap, one beside the other, have nothing of one another; nor has a heap that is written over afterwards anything of its answers. So it is whichever code is told.
func TestBecomingAnswersShareNothing(t *testing.T) {
	eachSide(func(side int64) {
		for _, c := range becomings(side) {
			w := watchHeap(c.was.heap(side))
			checkBoth(t, "an argument", w.heap, true)
			wrong := watchHeap(impl.Heap{Roots: six(num(1)), Mourned: []int64{4}, Seen: []int64{5}, Row: []int64{6}})
			calls := []func() []int64{}
			for _, h := range []impl.Heap{w.heap, wrong.heap} {
				calls = append(calls,
					func() []int64 { return first(c.call(h, c.a, c.b)).Row },
					func() []int64 { return first(c.call(h, c.a, c.b)).Roots },
					func() []int64 { return first(c.call(h, c.a, c.b)).Mourned },
					func() []int64 { return first(c.call(h, c.a, c.b)).Seen })
			}
			checkListsApart(t, calls, append(slices.Clone(w.lists), wrong.lists...)...)
			made, code := c.call(w.heap, c.a, c.b)
			if code != c.code || len(made.Mourned) == 0 || len(made.Seen) == 0 {
				t.Fatalf("%+v\n%d and %d tell %d, want %d\n%+v", w.heap, c.a, c.b, code, c.code, made)
			}
			picture := clonedHeap(made)
			checkHeapApart(t, w.heap)
			if !sameHeap(made, picture) {
				t.Fatalf("the heap, written into, changes an answer:\n%+v\nwas\n%+v", made, picture)
			}
			checkHeapApart(t, made)
			checkBecoming(t, c.was.heap(side), c.a, c.b)
		}
	})
}

// By hand: the two lead to themselves and each other, Mourned and one that nobody comes to lead to them as well.
func TestGBecomingByHand(t *testing.T) {
	g := graphOf([]impl.Obj{
		obj(1, 5, impl.FoPlain, 11, rObj(1), rObj(4), rInt(4)),
		obj(2, 6, impl.FoWeak, 12, rObj(1), rInt(1), rNil, rObj(7)),
		obj(4, 7, impl.FoEphem, 13, rObj(4), rObj(1), rObj(2)),
		obj(7, 8, impl.FoPlain, 14, rObj(4), rObj(1)),
	}, sixRoots(rObj(1), rInt(1), rObj(2), rNil, rObj(4), rObj(1)), rObj(4), rObj(2), rObj(1))
	swapped := graphOf([]impl.Obj{
		obj(1, 5, impl.FoPlain, 11, rObj(4), rObj(1), rInt(4)),
		obj(2, 6, impl.FoWeak, 12, rObj(4), rInt(1), rNil, rObj(7)),
		obj(4, 7, impl.FoEphem, 13, rObj(1), rObj(4), rObj(2)),
		obj(7, 8, impl.FoPlain, 14, rObj(1), rObj(4)),
	}, sixRoots(rObj(4), rInt(1), rObj(2), rNil, rObj(1), rObj(4)), rObj(1), rObj(2), rObj(4))
	replaced := graphOf([]impl.Obj{
		obj(1, 5, impl.FoPlain, 11, rObj(4), rObj(4), rInt(4)),
		obj(2, 6, impl.FoWeak, 12, rObj(4), rInt(1), rNil, rObj(7)),
		obj(4, 7, impl.FoEphem, 13, rObj(4), rObj(4), rObj(2)),
		obj(7, 8, impl.FoPlain, 14, rObj(4), rObj(4)),
	}, sixRoots(rObj(4), rInt(1), rObj(2), rNil, rObj(4), rObj(4)), rObj(4), rObj(2), rObj(4))
	w := watchGraph(g)
	for _, c := range []struct {
		name string
		call gBecomes
		a, b int64
		want impl.Graph
		is   bool
	}{
		{"GSwapped", impl.GSwapped, 0, 4, swapped, true},
		{"GSwapped", impl.GSwapped, 4, 5, swapped, true},
		{"GReplaced", impl.GReplaced, 0, 4, replaced, true},
		{"GReplaced", impl.GReplaced, 5, 4, replaced, true},
		{"GSwapped, one object", impl.GSwapped, 0, 5, g, false},
		{"GReplaced, one object", impl.GReplaced, 0, 5, g, false},
		{"GSwapped, a number", impl.GSwapped, 0, 1, g, false},
		{"GReplaced, a number", impl.GReplaced, 1, 0, g, false},
		{"GSwapped, nothing", impl.GSwapped, 3, 4, g, false},
		{"GReplaced, nothing", impl.GReplaced, 4, 3, g, false},
		{"GSwapped, no Root", impl.GSwapped, 0, 6, g, false},
		{"GReplaced, no Root", impl.GReplaced, -1, 4, g, false},
	} {
		gWant{name: c.name, call: func(g impl.Graph) (impl.Graph, bool) { return c.call(g, c.a, c.b) }, want: c.want, wants: c.is}.check(t, w)
	}
	eachTwo(func(a, b int64) { checkGBecoming(t, g, a, b) })
	made, _ := impl.GReplaced(g, 0, 4)
	if got, want := impl.Canon(made), "1o 1i 2o n 1o 1o 1o 2o 1o\n7 2 13 1o 1o 2o\n6 1 12 1o 1i n 3o\n8 0 14 1o 1o\n"; got != want {
		t.Fatalf("GReplaced has the Canon %q, want %q", got, want)
	}
}

// Roots at and past both ends of their range, and far from them.
func TestGBecomingOfAnyRoots(t *testing.T) {
	roots := append([]int64{-2, -1, 0, 1, 2, 3, 4, 5, 6, 7}, someEnds...)
	for _, g := range []impl.Graph{
		plainGraph(),
		graphOf(nil, sixRoots()),
		graphOf(nil, sixRoots(rInt(1), rInt(2), rInt(3), rInt(4), rInt(5), rInt(6))),
		graphOf([]impl.Obj{obj(2, 1, 0, 1), obj(3, 1, 0, 2)}, sixRoots(rInt(2), rInt(3), rObj(2), rObj(3))),
		graphOf([]impl.Obj{obj(2, 1, 0, 1, rObj(2)), obj(3, 1, 0, 2, rObj(2))}, []impl.Ref{rObj(2), rObj(2), rObj(2), rObj(3), rObj(3), rObj(3)}, rObj(2), rObj(3)),
	} {
		for _, a := range roots {
			for _, b := range roots {
				checkGBecoming(t, g, a, b)
			}
		}
	}
}

// Small graphs and great ones by dice, also with all the Objs and Mourned that there may be.
func TestGBecomingOfManyGraphs(t *testing.T) {
	d := &dice{n: 185}
	are, not := 0, 0
	for i := range 1000 {
		n := d.roll(12)
		if i%50 == 0 {
			n = 190 + d.roll(11)
		}
		g := d.graph(n, d.roll(6), d.roll(41))
		for range 3 {
			if checkGBecoming(t, g, d.roll(6), d.roll(6)) {
				are++
			} else {
				not++
			}
		}
	}
	full := d.graph(200, 20, 40)
	eachTwo(func(a, b int64) { checkGBecoming(t, full, a, b) })
	if are < 500 || not < 500 {
		t.Fatalf("%d become another, %d do not", are, not)
	}
}

func TestGBecomingOfWrongGraphs(t *testing.T) {
	for _, c := range edgesOfGraphs() {
		g := cloned(plainGraph())
		c.change(&g)
		checkGraphOk(t, g, c.want)
		if !c.want {
			checkNoGBecoming(t, g)
			continue
		}
		for _, roots := range [][2]int64{{1, 3}, {3, 1}, {0, 1}, {5, 1}} {
			checkGBecoming(t, g, roots[0], roots[1])
		}
	}
	checkNoGBecoming(t, impl.Graph{})
	checkNoGBecoming(t, impl.Graph{Roots: sixRoots(), Next: 1, Seed: -1})
	d := &dice{n: 186}
	right, wrong := 0, 0
	for range 1500 {
		g := d.graph(1+d.roll(5), 3, d.roll(3))
		for range 1 + d.roll(2) {
			spoil(d, &g)
		}
		if wantGraphOk(g) {
			right++
			checkGBecoming(t, g, d.roll(6), d.roll(6))
			continue
		}
		wrong++
		checkNoGBecoming(t, g)
	}
	if right < 100 || wrong < 500 {
		t.Fatalf("%d are right, %d are wrong", right, wrong)
	}
}

// An answer that is grown or written into, and a graph that is, changes nothing that was answered ahead.
func TestGBecomingAnswersShareNothing(t *testing.T) {
	w := watchGraph(plainGraph())
	answers := []impl.Graph{}
	for _, call := range []gBecomes{impl.GSwapped, impl.GReplaced} {
		for _, roots := range [][2]int64{{1, 3}, {3, 1}, {1, 1}, {0, 1}, {1, 2}, {-1, 1}, {1, 6}} {
			answers = append(answers, first(call(w.graph, roots[0], roots[1])))
		}
	}
	again := first(impl.GSwapped(w.graph, 1, 3))
	was := cloned(again)
	checkAnswersApart(t, w, answers)
	checkApart(t, w.graph)
	if !sameGraph(again, was) {
		t.Fatalf("the graph, written into, changes an answer: %v", again)
	}
}
