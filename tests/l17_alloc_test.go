package tests

import (
	"slices"
	"testing"

	"loop.example/g00337/impl"
)

// eachPinned asks for the same, not pinned and pinned.
func eachPinned(look func(pinned bool)) {
	look(false)
	look(true)
}

// A new heap has room below for what is not pinned, and upstairs for all else, as far as its sizes go.
func TestAllocatedOfNewHeaps(t *testing.T) {
	for _, c := range [][3]int64{{8, 8, 0}, {8, 10, 3}, {22, 22, 1}, {20, 20, 9}, {24, 60, 2}, {200, 400, 65535}, {200, 8, 1}, {8, 400, 77}} {
		h, _ := impl.NewHeap(c[0], c[1], c[2])
		other := clonedHeap(h)
		other.Side = 1
		for _, h := range []impl.Heap{h, other} {
			checkPlacing(t, h)
			for slots := range int64(21) {
				eachPinned(func(pinned bool) {
					code := checkAllocating(t, h, newOne{root: slots % 6, class: 4 * slots, format: min(slots, 2), slots: slots, pinned: pinned})
					size := slots/2*2 + 2
					if full := size > c[1] && (pinned || size > c[0]); (code == impl.AlFull) != full || code == impl.AlAfter {
						t.Fatalf("NewHeap(%d, %d, %d): %d words, pinned %v, tells %d", c[0], c[1], c[2], size, pinned, code)
					}
				})
			}
		}
	}
}

// By hand: where the new one is of a new heap, what it says, and what is drawn next.
func TestAllocatedByHand(t *testing.T) {
	h, _ := impl.NewHeap(8, 8, 0)
	h, a := impl.Allocated(h, 5, 99, 2, 2, false)
	h, b := impl.Allocated(h, 0, 1, 0, 1, true)
	h, c := impl.Allocated(h, 1, 0, 1, 3, false)
	want := impl.Heap{Half: 8, Old: 8, Top: 8, Seed: 31223, Row: joined(
		[]int64{2 + 64*2 + 512*99 + 65536*13849, 2, 2, 0}, []int64{3 + 64 + 65536*31223, 2, 2, 2},
		zeros(8),
		[]int64{1 + 512 + 65536*48742 + 4294967296, 2}, free(6),
	)}
	want.Roots = []int64{to(16), to(4), 2, 2, 2, to(0)}
	if a != 0 || b != 0 || c != 0 {
		t.Fatalf("AlOk is told as %d, %d, %d", a, b, c)
	}
	if !sameHeap(h, want) {
		t.Fatalf("it is\n%+v\nwant\n%+v", h, want)
	}
	if _, full := impl.Allocated(h, 2, 0, 0, 6, false); full != 1 {
		t.Fatalf("AlFull is told as %d", full)
	}
	h.Roots[0] = 2
	if _, after := impl.Allocated(h, 2, 0, 0, 6, false); after != 2 {
		t.Fatalf("AlAfter is told as %d", after)
	}
	if _, bad := impl.Allocated(h, 6, 0, 0, 6, false); bad != 3 {
		t.Fatalf("AlBad is told as %d", bad)
	}
}

// In what is furnished four words are left in the room, and upstairs four are free and, at the end, six.
func TestPlaceForOfFurnished(t *testing.T) {
	eachSide(func(side int64) {
		w := watchHeap(furnished(side))
		for size := int64(-40); size <= 60; size++ {
			below, above := int64(-1), int64(-1)
			switch size {
			case 2, 4:
				below, above = 12*side+8, 28
			case 6:
				below, above = 48, 48
			}
			checkPlaceFor(t, w, size, false, below)
			checkPlaceFor(t, w, size, true, above)
		}
		for _, far := range someEnds {
			checkPlaceFor(t, w, far, false, -1)
			checkPlaceFor(t, w, far, true, -1)
		}
	})
}

// Sizes that are even and from 2 to 22 have a place where there is much of it, no others do.
func TestPlaceForOfEachSize(t *testing.T) {
	eachRoom(func(side, s, n int64) {
		for _, l := range []layout{{}, {below: one(1)}, {below: filled(1, 19, 2)}, {below: joined(filled(1, 20, 2), one(2))}, {above: free(60, 1, 2, 3)}} {
			w := watchHeap(l.heap(side))
			for size := int64(-70); size <= 120; size++ {
				below, above := s+w.heap.Top, int64(48)
				if size > 24-w.heap.Top {
					below = above
				}
				if size < 2 || size > 22 || size%2 != 0 {
					below, above = -1, -1
				}
				checkPlaceFor(t, w, size, false, below)
				checkPlaceFor(t, w, size, true, above)
			}
			for _, far := range someEnds {
				checkPlaceFor(t, w, far, false, -1)
				checkPlaceFor(t, w, far, true, -1)
			}
		}
	})
}

// What is left in the room is what counts, be it all of it, just so much, two words less or nothing; what lies there already need not be wanted.
func TestPlaceForAsTheRoomFillsUp(t *testing.T) {
	taken := joined(filled(4, 19, 2), filled(5, 19, 2), filled(6, 19, 2))
	eachRoom(func(side, s, n int64) {
		for top := int64(0); top <= 24; top += 2 {
			for size := int64(2); size <= 22; size += 2 {
				h := layout{below: zeros(int(top)), above: taken}.heap(side)
				place := int64(-1)
				if top+size <= 24 {
					place = s + top
				}
				checkPlaceFor(t, watchHeap(h), size, false, place)
				checkPlaceFor(t, watchHeap(h), size, true, -1)
				h = layout{below: zeros(int(top)), above: joined(one(1), free(int(size)), slices.Repeat(one(2), 29-int(size)/2))}.heap(side)
				if place < 0 {
					place = 50
				}
				checkPlaceFor(t, watchHeap(h), size, false, place)
				checkPlaceFor(t, watchHeap(h), size, true, 50)
			}
		}
	})
}

// Upstairs it is the least that will do, of these the first.
func TestPlaceForUpstairs(t *testing.T) {
	a, b, big := one(1), one(2, num(5), 2), filled(3, 19, 2)
	for _, c := range []struct {
		name  string
		above []int64
		// By size 2, 4, 6 and so on, where it is; of what is not told there is no place.
		want []int64
	}{
		{"all of it", free(60), slices.Repeat([]int64{48}, 11)},
		{"just 22", joined(big, free(22), filled(4, 17, 2)), slices.Repeat([]int64{68}, 11)},
		{"just 20", joined(big, free(20), filled(4, 19, 2)), slices.Repeat([]int64{68}, 10)},
		{"just 2", joined(free(2), big, big, filled(4, 17, 2)), []int64{48}},
		{"the last two", joined(big, big, filled(4, 17, 2), free(2)), []int64{106}},
		{"nothing", joined(big, big, big), nil},
		{"nothing, all Pinned", joined(nailed(big), nailed(big), nailed(big)), nil},
		{"one of each, rising", joined(free(2), a, free(4), b, free(6), a, free(34), b), []int64{48, 52, 60, 68, 68, 68, 68, 68, 68, 68, 68}},
		{"one of each, falling", joined(free(34), b, free(6), a, free(4), b, free(2), a), []int64{102, 94, 86, 48, 48, 48, 48, 48, 48, 48, 48}},
		{"several of one size", joined(a, free(4), a, free(4), a, free(4), big, filled(4, 19, 2), free(2)), []int64{106, 50}},
		{"a greater one first", joined(free(10), a, free(4), a, free(4), big, filled(4, 17, 2)), []int64{60, 60, 48, 48, 48}},
		{"several greater ones", joined(a, free(8), a, free(6), a, free(6), a, free(8), big, filled(7, 3, 2)), []int64{60, 60, 60, 50}},
		{"side by side they are not one", joined(free(2), free(2), free(2), big, big, filled(4, 13, 2)), []int64{48}},
		{"with something in it", joined(free(6, freeHead, 2, freeHead, 2), big, big, filled(4, 13, 2)), []int64{48, 48, 48}},
		{"what is left over is no free chunk", joined([]int64{0, freeHead}, []int64{2, 2, 2, freeHead}, big, big, filled(4, 13, 2)), nil},
	} {
		eachRoom(func(side, s, n int64) {
			h := layout{below: joined(filled(8, 20, 2), one(9)), above: c.above}.heap(side)
			checkBoth(t, c.name, h, true)
			checkPlacing(t, h)
			for i := range int64(11) {
				want := int64(-1)
				if i < int64(len(c.want)) {
					want = c.want[i]
				}
				eachPinned(func(pinned bool) { checkPlaceFor(t, watchHeap(h), 2*i+2, pinned, want) })
			}
			for slots := range int64(21) {
				eachPinned(func(pinned bool) { checkAllocating(t, h, newOne{slots: slots, pinned: pinned}) })
			}
		})
	}
}

// Where there is so much in the room all stays as it is, wanted or not, notes too.
func TestAllocatedInTheRoom(t *testing.T) {
	eachRoom(func(side, s, n int64) {
		none, all := newOne{class: 7}, newOne{root: 3, class: 99, format: 1, slots: 20}
		four := newOne{root: 5, format: 2, slots: 3}
		taken := joined(nailed(filled(4, 19, 2)), filled(5, 19, 2), filled(6, 19, 2))
		checkAllocCases(t, side, []allocCase{
			{"a new heap, no Slots", layout{}, none, layout{below: none.body(), roots: []int64{to(s)}}, nil, false, 0},
			{"a new heap, 20 Slots", layout{}, all, layout{below: all.body(), roots: six(2, 2, 2, to(s))}, nil, false, 0},
			{"a new heap, 3 Slots", layout{}, four, layout{below: four.body(), roots: six(2, 2, 2, 2, 2, to(s))}, nil, false, 0},
			{"behind another", layout{below: one(1), roots: []int64{2, to(s)}}, none, layout{below: joined(one(1), none.body()), roots: []int64{to(s + 2), to(s)}}, nil, false, 0},
			{"just four words are left", layout{below: filled(1, 19, 2)}, four, layout{below: joined(filled(1, 19, 2), four.body()), roots: six(2, 2, 2, 2, 2, to(s+20))}, nil, false, 0},
			{"just 22 words are left", layout{below: one(1)}, all, layout{below: joined(one(1), all.body()), roots: six(2, 2, 2, to(s+2))}, nil, false, 0},
			{"just two words are left", layout{below: filled(1, 20, 2)}, none, layout{below: joined(filled(1, 20, 2), none.body()), roots: []int64{to(s + 22)}}, nil, false, 0},
			{"upstairs nothing is free", layout{below: one(1), above: taken}, none, layout{below: joined(one(1), none.body()), above: taken, roots: []int64{to(s + 2)}}, nil, false, 0},
			{"notes stay", layout{below: note(48), above: joined(note(50), one(1)), roots: []int64{2, to(s)}}, none, layout{below: joined(note(48), none.body()), above: joined(note(50), one(1)), roots: []int64{to(s + 2), to(s)}}, nil, false, 0},
			{"who grieves grieves still, and who is weak holds", layout{below: joined(ephemOne(1, to(s+2)), one(2), weakOne(3, to(s+2))), roots: []int64{2, to(s), to(s + 4)}}, none, layout{below: joined(ephemOne(1, to(s+2)), one(2), weakOne(3, to(s+2)), none.body()), roots: []int64{to(s + 6), to(s), to(s + 4)}}, nil, false, 0},
			{"who is Seen is Seen", layout{below: one(1), above: joined(one(2, to(s)), free(2), note(s)), mourned: []int64{to(48), to(s)}}, none, layout{below: joined(one(1), none.body()), above: joined(one(2, to(s)), free(2), note(s)), roots: []int64{to(s + 2)}, mourned: []int64{to(48), to(s)}}, []int64{48, 52}, false, 0},
			{"its Root led to another, and nothing else did", layout{below: one(1), roots: []int64{to(s), num(3)}}, none, layout{below: joined(one(1), none.body()), roots: []int64{to(s + 2), num(3)}}, nil, false, 0},
			{"its Root was a number", layout{roots: six(num(1), num(2), num(3), num(4), num(5), num(6))}, four, layout{below: four.body(), roots: six(num(1), num(2), num(3), num(4), num(5), to(s))}, nil, false, 0},
			{"its Root led upstairs over a note", layout{below: note(48), above: one(1), roots: []int64{to(s)}}, none, layout{below: joined(note(48), none.body()), above: one(1), roots: []int64{to(s + 2)}}, nil, false, 0},
		})
	})
}

// Where there is too little in the room it is Scavenged: the new one is in the new room where that leaves so much, and upstairs where it does not.
func TestAllocatedOnceScavenged(t *testing.T) {
	eachRoom(func(side, s, n int64) {
		none, all := newOne{class: 7}, newOne{root: 3, class: 99, format: 1, slots: 20}
		four := newOne{root: 5, format: 2, slots: 3}
		at5 := func(w int64, first ...int64) []int64 { return append(six(first...)[:5], w) }
		at3 := func(w int64, first ...int64) []int64 { return append(six(first...)[:3], w) }
		much, full := filled(1, 20, 2), joined(filled(1, 20, 2), one(2))
		taken := joined(nailed(filled(4, 19, 2)), filled(5, 19, 2), filled(6, 19, 2))
		checkAllocCases(t, side, []allocCase{
			{"two words too few, and nobody wants what is there", layout{below: much}, four, layout{below: four.body(), roots: at5(to(n))}, nil, true, 0},
			{"nothing left, and nobody wants what is there", layout{below: full}, none, layout{below: none.body(), roots: []int64{to(n)}}, nil, true, 0},
			{"so it is where upstairs is free just so much", layout{below: full, above: joined(one(3), free(2), filled(4, 17, 2), filled(5, 19, 2), filled(6, 17, 2))}, none, layout{below: none.body(), above: joined(one(3), free(2), filled(4, 17, 2), filled(5, 19, 2), filled(6, 17, 2)), roots: []int64{to(n)}}, nil, true, 0},
			{"so it is where upstairs nothing is free", layout{below: full, above: taken}, all, layout{below: all.body(), above: taken, roots: at3(to(n))}, nil, true, 0},
			{"carried over just so much is left", layout{below: full, roots: []int64{2, to(s + 22)}}, all, layout{below: joined(one(2), all.body()), roots: at3(to(n+2), 2, to(n))}, nil, true, 0},
			{"carried over two words less are left", layout{below: joined(filled(1, 19, 2), one(2, 2, 2)), roots: []int64{2, to(s + 20)}}, all, layout{below: one(2, 2, 2), above: all.body(), roots: at3(to(48), 2, to(n))}, nil, true, 0},
			{"carried over nothing is left", layout{below: full, roots: []int64{2, to(s + 22), to(s)}}, none, layout{below: joined(one(2), filled(1, 20, 2)), above: none.body(), roots: []int64{to(48), to(n), to(n + 2)}}, nil, true, 0},
			{"upstairs it is the best fit", layout{below: full, above: joined(free(6), one(3), free(2), one(4), free(4), one(5)), roots: []int64{2, to(s), to(s + 22), to(54), to(58)}}, four, layout{below: full, above: joined(free(6), one(3), free(2), one(4), four.body(), one(5)), roots: at5(to(60), 2, to(n), to(n+22), to(54), to(58))}, nil, true, 0},
			{"notes in the room are gone", layout{below: slices.Repeat(note(48), 12), above: one(1), roots: []int64{2, to(s), to(s + 22)}}, four, layout{below: four.body(), above: one(1), roots: at5(to(n), 2, to(48), to(48))}, nil, true, 0},
			{"notes upstairs stay", layout{below: full, above: joined(note(50), note(s+22)), roots: []int64{2, to(48)}}, none, layout{below: joined(one(2), none.body()), above: joined(note(50), note(n)), roots: []int64{to(n + 2), to(n)}}, []int64{50}, true, 0},
			{"one upstairs knows one below", layout{below: full, above: one(3, to(s+22)), roots: []int64{2, to(48)}}, four, layout{below: joined(one(2), four.body()), above: one(3, to(n)), roots: at5(to(n+2), 2, to(48))}, []int64{48}, true, 0},
			{"one upstairs that nobody wants keeps whom it knows, and two words are left", layout{below: full, above: one(3, to(s))}, none, layout{below: joined(much, none.body()), above: one(3, to(n)), roots: []int64{to(n + 22)}}, []int64{48}, true, 0},
			{"and for more there is room upstairs", layout{below: full, above: one(3, to(s))}, four, layout{below: much, above: joined(one(3, to(n)), four.body()), roots: at5(to(50))}, []int64{48}, true, 0},
			{"who is weak holds, and who grieves grieves still", layout{below: joined(filled(1, 17, 2), weakOne(2, to(s+20)), one(3), ephemOne(4, to(s+20))), roots: []int64{2, to(s + 18), to(s + 22)}}, four, layout{below: joined(weakOne(2, to(n+4)), ephemOne(4, to(n+4)), one(3), four.body()), roots: at5(to(n+6), 2, to(n), to(n+2))}, nil, true, 0},
			{"its Root led to another: that is carried, and two words are left", layout{below: full, roots: []int64{to(s)}}, none, layout{below: joined(much, none.body()), roots: []int64{to(n + 22)}}, nil, true, 0},
			{"its Root led to another: that is carried, and so it goes upstairs", layout{below: full, roots: six(2, 2, 2, 2, 2, to(s))}, four, layout{below: much, above: four.body(), roots: at5(to(48))}, nil, true, 0},
			{"those of Mourned are carried", layout{below: full, mourned: []int64{to(s + 22), to(s + 22)}}, all, layout{below: joined(one(2), all.body()), roots: at3(to(n + 2)), mourned: []int64{to(n), to(n)}}, nil, true, 0},
		})
	})
}

// Who is pinned goes upstairs, and nothing else is done there or in the room.
func TestAllocatedPinned(t *testing.T) {
	eachRoom(func(side, s, n int64) {
		none, all := newOne{class: 7, pinned: true}, newOne{root: 3, class: 99, format: 1, slots: 20, pinned: true}
		four := newOne{root: 5, format: 2, slots: 3, pinned: true}
		at5 := func(w int64, first ...int64) []int64 { return append(six(first...)[:5], w) }
		full := joined(filled(1, 20, 2), one(2))
		a, big := one(1), filled(3, 19, 2)
		checkAllocCases(t, side, []allocCase{
			{"a new heap, no Slots", layout{}, none, layout{above: none.body(), roots: []int64{to(48)}}, nil, false, 0},
			{"a new heap, 20 Slots", layout{}, all, layout{above: all.body(), roots: six(2, 2, 2, to(48))}, nil, false, 0},
			{"a full room that nobody wants stays as it is", layout{below: full}, four, layout{below: full, above: four.body(), roots: at5(to(48))}, nil, false, 0},
			{"a full room that is wanted", layout{below: full, roots: []int64{2, to(s), to(s + 22)}}, none, layout{below: full, above: none.body(), roots: []int64{to(48), to(s), to(s + 22)}}, nil, false, 0},
			{"just so much is free", layout{above: joined(a, free(4), big, big, filled(4, 13, 2))}, four, layout{above: joined(a, four.body(), big, big, filled(4, 13, 2)), roots: at5(to(50))}, nil, false, 0},
			{"just that size, behind a greater one", layout{above: joined(free(6), a, free(4), a, free(4), a)}, four, layout{above: joined(free(6), a, four.body(), a, free(4), a), roots: at5(to(56))}, nil, false, 0},
			{"a greater one, the rest is free", layout{above: joined(a, free(10), a, free(6), a)}, four, layout{above: joined(a, free(10), a, four.body(), free(2), a), roots: at5(to(62))}, nil, false, 0},
			{"of several greater ones the first", layout{above: joined(a, free(6), a, free(6), a, free(6), a)}, four, layout{above: joined(a, four.body(), free(2), a, free(6), a, free(6), a), roots: at5(to(50))}, nil, false, 0},
			{"22 words", layout{above: joined(free(20), a, free(22), filled(4, 15, 2))}, all, layout{above: joined(free(20), a, all.body(), filled(4, 15, 2)), roots: six(2, 2, 2, to(70))}, nil, false, 0},
			{"22 of 24 words", layout{above: joined(free(20), a, free(24), filled(4, 13, 2))}, all, layout{above: joined(free(20), a, all.body(), free(2), filled(4, 13, 2)), roots: six(2, 2, 2, to(70))}, nil, false, 0},
			{"what lay in it stays in the rest of it alone", layout{above: free(60, slices.Repeat([]int64{77}, 58)...)}, none, layout{above: joined(none.body(), free(58, slices.Repeat([]int64{77}, 56)...)), roots: []int64{to(48)}}, nil, false, 0},
			{"what is left over is 0", layout{above: joined(a, free(4, 77, 77), filled(3, 20, 2), filled(4, 20, 2), filled(5, 9, 2))}, newOne{slots: 2, pinned: true}, layout{above: joined(a, newOne{slots: 2, pinned: true}.body(), filled(3, 20, 2), filled(4, 20, 2), filled(5, 9, 2)), roots: []int64{to(50)}}, nil, false, 0},
			{"notes stay, and who is Seen is Seen", layout{below: joined(note(48), a), above: joined(one(2, to(s+2)), note(s), free(2), note(50)), roots: []int64{2, to(s)}, mourned: []int64{to(50)}}, none, layout{below: joined(note(48), a), above: joined(one(2, to(s+2)), note(s), none.body(), note(50)), roots: []int64{to(52), to(s)}, mourned: []int64{to(50)}}, []int64{48, 50}, false, 0},
			{"its Root led to another, and nothing else did", layout{above: a, roots: []int64{to(48)}}, none, layout{above: joined(a, none.body()), roots: []int64{to(50)}}, nil, false, 0},
			{"its Root led to another Pinned one", layout{above: joined(free(4), nailed(a)), roots: []int64{to(52)}}, none, layout{above: joined(none.body(), free(2), nailed(a)), roots: []int64{to(48)}}, nil, false, 0},
		})
	})
}

// Room that only Full makes: by what is not wanted upstairs, by pushing together, by weak ones that let go, by who knows somebody below and is not wanted.
func TestAllocatedAfterFull(t *testing.T) {
	eachRoom(func(side, s, n int64) {
		none, nailedFour := newOne{class: 7}, newOne{root: 5, format: 2, slots: 3, pinned: true}
		four := newOne{root: 5, format: 1, slots: 2}
		at5 := func(w int64, first ...int64) []int64 { return append(six(first...)[:5], w) }
		much, full := filled(1, 20, 2), joined(filled(1, 20, 2), one(2))
		a, b, c := filled(4, 19, 2), filled(5, 19, 2), filled(6, 19, 2)
		pieces := joined(a, free(2), b, free(2), filled(6, 15, 2))
		checkAllocCases(t, side, []allocCase{
			{"pinned, what is not wanted upstairs goes", layout{above: joined(a, b, c), roots: []int64{2, to(48), to(88)}}, nailedFour, layout{above: joined(a, c, nailedFour.body()), roots: at5(to(88), 2, to(48), to(68))}, nil, true, 2},
			{"pinned, with room below and none upstairs", layout{below: one(1), above: joined(a, b, c), roots: []int64{to(s), to(48), to(88)}}, nailedFour, layout{below: one(1), above: joined(a, c, nailedFour.body()), roots: at5(to(88), to(n), to(48), to(68))}, nil, true, 2},
			{"pinned, between others that are Pinned", layout{above: joined(nailed(a), b, nailed(c)), roots: []int64{2, to(48), to(88)}}, nailedFour, layout{above: joined(nailed(a), nailedFour.body(), free(16), nailed(c)), roots: at5(to(68), 2, to(48), to(88))}, nil, true, 2},
			{"pinned, pushed together there is just so much", layout{above: pieces, roots: []int64{2, to(48), to(70), to(92)}}, nailedFour, layout{above: joined(a, b, filled(6, 15, 2), nailedFour.body()), roots: at5(to(104), 2, to(48), to(68), to(88))}, nil, true, 2},
			{"not pinned, the same with a room that is full and wanted", layout{below: full, above: pieces, roots: []int64{to(s), to(s + 22), to(48), to(70), to(92)}}, four, layout{below: full, above: joined(a, b, filled(6, 15, 2), four.body()), roots: at5(to(104), to(n), to(n+22), to(48), to(68), to(88))}, nil, true, 2},
			{"free ones that meet are one", layout{above: joined(a, free(2), free(2), b, filled(6, 15, 2)), roots: []int64{2, to(48), to(72), to(92)}}, nailedFour, layout{above: joined(a, b, filled(6, 15, 2), nailedFour.body()), roots: at5(to(104), 2, to(48), to(68), to(88))}, nil, true, 2},
			{"not pinned, the room is full and wanted, and upstairs something is not", layout{below: full, above: joined(a, b, c), roots: []int64{2, to(s), to(s + 22), to(48), to(88)}}, none, layout{below: full, above: joined(a, c, none.body()), roots: []int64{to(88), to(n), to(n + 22), to(48), to(68)}}, nil, true, 2},
			{"not pinned, a weak one lets go of what is in the room", layout{below: joined(weakOne(2, to(s+2)), much), above: joined(a, b, c), roots: []int64{2, to(s), to(48), to(68), to(88)}}, four, layout{below: joined(weakOne(2, 2), four.body()), above: joined(a, b, c), roots: at5(to(n+2), 2, to(n), to(48), to(68), to(88))}, nil, true, 2},
			{"not pinned, one upstairs that is not wanted knew what is in the room", layout{below: full, above: joined(one(3, to(s)), a, b, filled(6, 17, 2)), roots: []int64{2, to(50), to(70), to(90)}}, four, layout{below: four.body(), above: joined(a, b, filled(6, 17, 2)), roots: at5(to(n), 2, to(48), to(68), to(88))}, nil, true, 2},
			{"not pinned, a note upstairs that nobody leads to led to what is in the room", layout{below: full, above: joined(note(s), a, b, filled(6, 17, 2)), roots: []int64{2, to(50), to(70), to(90)}}, four, layout{below: four.body(), above: joined(a, b, filled(6, 17, 2)), roots: at5(to(n), 2, to(48), to(68), to(88))}, nil, true, 2},
			{"notes upstairs are gone", layout{below: one(1), above: joined(a, slices.Repeat(note(48), 10), c), roots: []int64{to(s), to(68), to(88)}}, nailedFour, layout{below: one(1), above: joined(a, c, nailedFour.body()), roots: at5(to(88), to(n), to(48), to(68))}, nil, true, 2},
			{"who grieved is mourned", layout{below: joined(ephemOne(1, to(s+2)), one(2)), above: joined(a, b, c), roots: []int64{2, to(s), to(48)}}, nailedFour, layout{below: joined(one(1, to(n+2)), one(2)), above: joined(a, nailedFour.body()), roots: at5(to(68), 2, to(n), to(48)), mourned: []int64{to(n)}}, nil, true, 2},
			{"who is Seen is Seen", layout{below: joined(one(2), one(1)), above: joined(b, filled(4, 19, to(s+2)), c), roots: []int64{2, to(68)}}, nailedFour, layout{below: one(1), above: joined(filled(4, 19, to(n)), nailedFour.body()), roots: at5(to(68), 2, to(48))}, []int64{48}, true, 2},
			{"its Root led to one that is kept through it, and then nobody leads to that", layout{above: joined(b, a, c), roots: at5(to(68), 2, to(88))}, nailedFour, layout{above: joined(a, c, nailedFour.body()), roots: at5(to(88), 2, to(68))}, nil, true, 2},
		})
	})
}

// Room that nothing makes: it is as it is, nobody is carried, mourned, let go of or pushed.
func TestAllocatedIsFull(t *testing.T) {
	eachRoom(func(side, s, n int64) {
		none, two, all := newOne{}, newOne{root: 5, format: 1, slots: 1, pinned: true}, newOne{root: 1, slots: 20}
		full := joined(filled(1, 20, 2), one(2))
		a, b, c := filled(4, 19, 2), filled(5, 19, 2), filled(6, 19, 2)
		abc := []int64{2, to(48), to(68), to(88), to(s), to(s + 22)}
		at0 := func(w int64) []int64 { return append([]int64{w}, abc[1:]...) }
		same := layout{}
		checkAllocCases(t, side, []allocCase{
			{"all is wanted", layout{below: full, above: joined(a, b, c), roots: abc}, none, same, nil, false, 1},
			{"all is wanted, pinned", layout{below: full, above: joined(a, b, c), roots: abc}, two, same, nil, false, 1},
			{"all is wanted, 22 words", layout{below: full, above: joined(a, b, c), roots: abc}, all, same, nil, false, 1},
			{"all is wanted by Mourned", layout{below: full, above: joined(a, b, c), mourned: abc[1:]}, none, same, nil, false, 1},
			{"pinned, with room below but none upstairs", layout{above: joined(a, b, c), roots: abc[:4]}, two, same, nil, false, 1},
			{"pinned, with room below that is not wanted but none upstairs", layout{below: full, above: joined(a, b, c), roots: abc[:4]}, two, same, nil, false, 1},
			{"two words less than it takes, in the room and upstairs", layout{below: one(2, 2, 2), above: joined(nailed(a), free(20), nailed(c)), roots: []int64{to(s), to(48), to(88)}}, all, same, nil, false, 1},
			{"Pinned ones keep it apart", layout{below: full, above: joined(nailed(a), free(2), nailed(b), free(2), nailed(filled(6, 15, 2))), roots: []int64{to(s), to(48), to(70), to(92), to(s + 22)}}, newOne{slots: 3}, same, nil, false, 1},
			{"who grieves keeps what it waits for", layout{below: joined(ephemOne(2, to(s+2)), filled(1, 20, 2)), above: joined(a, b, c), roots: abc[:5]}, none, same, nil, false, 1},
			{"who grieves upstairs keeps what it waits for", layout{above: joined(filled(5, 17, 2), free(2), a, shaped(2, 7, slices.Repeat([]int64{to(48)}, 19)...)), roots: []int64{2, to(88), to(68)}}, newOne{slots: 2, pinned: true}, same, nil, false, 1},
			{"what is wanted over notes", layout{below: full, above: joined(a, b, filled(6, 17, 2), note(88)), roots: []int64{to(106), to(48), to(68), to(s), to(s + 22)}}, newOne{slots: 3}, same, nil, false, 1},
			{"its Root led to another, which alone is in the way", layout{below: full, above: joined(a, b, c), roots: append(abc[1:4:4], to(s))}, newOne{root: 3, slots: 3}, same, nil, false, 1},
			{"its Root led to another upstairs, which alone is in the way", layout{above: joined(a, b, c), roots: abc[:4]}, newOne{root: 2, slots: 3, pinned: true}, same, nil, false, 1},
			{"its Root is a number", layout{below: full, above: joined(a, b, c), roots: at0(num(7))}, none, same, nil, false, 1},
		})
	})
}

// pairs is how a heap is filled with objects of two words: how many are left in its room and free upstairs, whether each leads to the next, round through both, or to itself, and whether a Root leads in.
type pairs struct {
	left, free    int64
	round, wanted bool
}

// heap has halves of 24 words, and 60 upstairs.
func (p pairs) heap(side int64) impl.Heap {
	all := pairsOf(24, 60, side)
	places := slices.Concat(all[:12-p.left/2], all[12+p.free/2:])
	h := heapOf(24, 60, side, zeros(24-int(p.left)), nil)
	if p.free > 0 {
		h.Row[49] = p.free
	}
	for i, at := range places {
		next := at
		if p.round {
			next = places[(i+1)%len(places)]
		}
		h.Row[at], h.Row[at+1] = 1+65536*int64(i), to(next)
	}
	if p.wanted && len(places) > 0 {
		h.Roots[5] = to(places[0])
	}
	rightSeen(&h)
	return h
}

// codeFor counts on a way round that is wanted where one is, so that all of it is.
func (p pairs) codeFor(n newOne) int64 {
	switch {
	case n.size() <= p.free, !n.pinned && n.size() <= p.left:
		return impl.AlOk
	case !n.pinned && !p.round:
		// Scavenged, the room is empty.
		return impl.AlOk
	case p.wanted:
		return impl.AlFull
	}
	return impl.AlAfter
}

// Every number of Slots, with just so much left in the room, two words less, two more, nothing and all of it, and likewise upstairs; where all else is wanted, is not but keeps what is in the room, and does not.
func TestAllocatedOfEachSlots(t *testing.T) {
	told := map[int64]int{}
	for slots := range int64(21) {
		n := newOne{root: slots % 5, class: slots, format: min(slots, 2), slots: slots}
		for _, left := range []int64{0, n.size() - 2, n.size(), min(24, n.size()+2), 24} {
			for _, free := range []int64{0, n.size() - 2, n.size(), n.size() + 2, 60} {
				for _, p := range []pairs{{left, free, true, true}, {left, free, true, false}, {left, free, false, false}} {
					eachSide(func(side int64) {
						eachPinned(func(pinned bool) {
							n.pinned = pinned
							code := checkAllocating(t, p.heap(side), n)
							told[code]++
							if code != p.codeFor(n) {
								t.Fatalf("%+v: %+v tells %d, want %d", p, n, code, p.codeFor(n))
							}
						})
					})
				}
			}
		}
	}
	if told[impl.AlOk] < 1000 || told[impl.AlFull] < 500 || told[impl.AlAfter] < 500 {
		t.Fatalf("these tell too little: %v", told)
	}
}

// outOfRange are those that can't be, one thing wrong or more, with the right ones beside them.
func outOfRange() []newOne {
	list := []newOne{}
	for _, far := range append([]int64{-3, -2, -1, 6, 7, 21, 22, 100, 101}, someEnds...) {
		list = append(list, newOne{root: far}, newOne{root: far, class: far, format: far, slots: far})
		if far != 6 && far != 7 && far != 21 && far != 22 {
			list = append(list, newOne{class: far})
		}
		if far != 6 && far != 7 {
			list = append(list, newOne{slots: far}, newOne{format: 1, slots: far}, newOne{format: 2, slots: far})
		}
		list = append(list, newOne{format: far}, newOne{format: far, slots: 1})
	}
	for format := int64(3); format <= 9; format++ {
		list = append(list, newOne{format: format}, newOne{format: format, slots: 4})
	}
	return append(list, newOne{format: 2}, newOne{root: 5, class: 99, format: 2}, newOne{root: 6, slots: 1})
}

// What is out of range is AlBad, whether there is room, or room would have to be made, or there is none.
func TestAllocatedOutOfRange(t *testing.T) {
	eachSide(func(side int64) {
		heaps := []impl.Heap{furnished(side), layout{}.heap(side), pairs{round: true, wanted: true}.heap(side), pairs{round: true}.heap(side), pairs{}.heap(side), pairs{free: 2, round: true, wanted: true}.heap(side)}
		for _, h := range heaps {
			for _, n := range outOfRange() {
				eachPinned(func(pinned bool) {
					n.pinned = pinned
					checkAllocated(t, watchHeap(h), n, h, impl.AlBad)
				})
			}
		}
	})
}

// Root, Class, Format and Slots at both ends of their ranges and one past them, all together.
func TestAllocatedAtTheEndsOfRanges(t *testing.T) {
	right := 0
	eachSide(func(side int64) {
		h := layout{below: joined(one(1), note(48)), above: joined(one(2, to(24*side)), free(26), nailed(one(3))), roots: six(to(24*side), 2, to(24*side+2), num(5), 2, to(48)), mourned: []int64{to(48)}}.heap(side)
		for root := int64(-1); root <= 6; root++ {
			for _, class := range []int64{-1, 0, 1, 98, 99, 100} {
				for format := int64(-1); format <= 8; format++ {
					for _, slots := range []int64{-1, 0, 1, 2, 19, 20, 21} {
						eachPinned(func(pinned bool) {
							n := newOne{root, class, format, slots, pinned}
							want, code := wantAllocated(h, n)
							checkAllocated(t, watchHeap(h), n, want, code)
							if n.isRight() {
								right++
								checkAllocates(t, h, n)
							}
							if n.isRight() == (code == impl.AlBad) {
								t.Fatalf("the test's own words tell %d of %+v", code, n)
							}
						})
					}
				}
			}
		}
	})
	if right != 2*6*4*(5+5+4)*2 {
		t.Fatalf("%d are right", right)
	}
}

// Each Seed, as far as the next one goes: the Hash is drawn from it, and is the next Seed.
func TestAllocatedDraws(t *testing.T) {
	for _, seed := range []int64{0, 1, 2, 13849, 32767, 32768, 65534, 65535} {
		h, _ := impl.NewHeap(8, 8, seed)
		for i := range int64(60) {
			n := newOne{root: 0, slots: i % 3, pinned: i%7 == 0}
			if code := checkAllocating(t, h, n); code == impl.AlFull {
				t.Fatalf("it is full as number %d: %+v", i, h)
			}
			h, _ = n.in(h)
			seed = (25173*seed + 13849) % 65536
			if h.Seed != seed || impl.HashOf(h, 0) != seed {
				t.Fatalf("as number %d it has Seed %d and Hash %d, want %d", i, h.Seed, impl.HashOf(h, 0), seed)
			}
		}
	}
}

// One after the other, each kept by the next one, until there is no room at all: just as many as there are words for, and none is ever AlAfter.
func TestAllocatedTillItIsFull(t *testing.T) {
	for _, c := range [][3]int64{{8, 8, 1}, {10, 30, 1}, {22, 22, 20}, {24, 60, 3}, {24, 66, 20}, {60, 10, 5}, {100, 60, 9}} {
		h, _ := impl.NewHeap(c[0], c[1], 1)
		size := c[2]/2*2 + 2
		n := newOne{root: 0, class: 3, slots: c[2]}
		count := int64(0)
		for {
			last := h.Roots[0]
			code := checkAllocating(t, h, n)
			made, _ := n.in(h)
			if code != impl.AlOk {
				if code != impl.AlFull {
					t.Fatalf("heap %v: as number %d it tells %d", c, count, code)
				}
				break
			}
			at, _ := impl.AddrOf(made.Roots[0])
			if made.Side != h.Side && count > 0 {
				// It was Scavenged, and who was led to by the Root lies first now.
				last = impl.Scavenged(h).Roots[0]
			}
			var is bool
			if h, is = impl.Stored(made, at, 0, last); !is {
				t.Fatalf("heap %v: as number %d it can't be Stored", c, count)
			}
			count++
		}
		if want := c[0]/size + c[1]/size; count != want {
			t.Fatalf("heap %v: %d were made, want %d", c, count, want)
		}
		// One pinned has no room either; once nobody leads to them all are gone.
		n.pinned = true
		if code := checkAllocating(t, h, n); code != impl.AlFull {
			t.Fatalf("heap %v: pinned it tells %d", c, code)
		}
		h.Roots[0] = impl.Nil
		want := int64(impl.AlAfter)
		if size > c[1] {
			want = impl.AlFull
		}
		if code := checkAllocating(t, h, n); code != want {
			t.Fatalf("heap %v: once all are gone it tells %d", c, code)
		}
	}
}

// All rows of up to four free chunks, objects, Pinned ones and notes upstairs beside a room with few words left, with words by dice that often lead over notes.
func TestAllocatedOfEveryRow(t *testing.T) {
	d := &dice{n: 171}
	pieces := [][]int64{free(2), free(6, 7), one(1, 2), weakOne(2, 2, 2), nailed(one(3, 2)), ephemOne(4, 2, 2), {noteHead + 2, 4, 4, 4}}
	told := map[int64]int{}
	for n := range 5 {
		eachRowOf(n, pieces, func(row []int64) {
			side := d.roll(2)
			h := heapOf(14, max(8, int64(len(row))), side, joined(one(5, 2, 2), note(14*side), weakOne(6, 2), ephemOne(7, 2, 2)), row)
			d.furnishWords(&h)
			for i := range h.Roots {
				if int64(i) > d.roll(5) {
					h.Roots[i] = 2
				}
			}
			d.detours(&h)
			checkPlacing(t, h)
			told[checkAllocating(t, h, d.newOne(9))]++
		})
	}
	if told[impl.AlOk] < 1000 || told[impl.AlFull] < 200 || told[impl.AlAfter] < 500 {
		t.Fatalf("these rows tell too little: %v", told)
	}
}

// More are led to than can be Shown, or as many, with all words taken: what nobody leads to makes room, or there is none.
func TestAllocatedOfMoreThanIsShown(t *testing.T) {
	d := &dice{n: 172}
	for _, n := range []int{199, 200, 201, 250, 300} {
		eachSide(func(side int64) {
			d.eachOrder(pairsOf(200, 400, side), func(places []int64) {
				h := rowOfObjects(side, n, places, n%2 == 0)
				checkPlaceFor(t, watchHeap(h), 2, false, -1)
				checkPlaceFor(t, watchHeap(h), 22, true, -1)
				eachPinned(func(pinned bool) {
					for _, slots := range []int64{1, 20} {
						code := checkAllocating(t, h, newOne{root: 4, slots: slots, pinned: pinned})
						if full := code == impl.AlFull; n == 300 && !full || n < 300 && full && slots == 1 && !pinned {
							t.Fatalf("of %d objects it tells %d", n, code)
						}
					}
				})
			})
		})
	}
}

// fillUpstairs puts objects of two words wherever it is free, each of which leads to the one ahead; where they are wanted, Mourned leads to the last.
func fillUpstairs(h *impl.Heap, wanted bool) {
	last := int64(2)
	for _, p := range upstairsOf(*h) {
		for at := p.at; p.isFree() && at < p.at+p.size; at += 2 {
			copy(h.Row[at:], one(9, last))
			last = to(at)
		}
	}
	if wanted {
		h.Mourned = append(h.Mourned, last)
	}
	rightSeen(h)
}

// Many FoEphem ones grieve in a house with nothing free: they keep what they have, so that there is room only where something else is not wanted. Where FoWeak ones let go of them all there is much of it in the room.
func TestAllocatedOfManyThatGrieve(t *testing.T) {
	d := &dice{n: 173}
	for _, n := range []int64{40, 96, 97, 110} {
		g := wide(n, func(i int64) int64 { return i % 3 })
		eachSide(func(side int64) {
			for _, wanted := range []bool{false, true} {
				h, places := laying{half: 200, old: 400, side: side, order: d.ordersOf(len(g.Objs))[2]}.laid(g)
				fillUpstairs(&h, wanted)
				weak := clonedHeap(h)
				for id := int64(1); id <= 6; id++ {
					weak.Row[places[id]] += 64
				}
				eachPinned(func(pinned bool) {
					asked := newOne{root: 5, slots: 20, pinned: pinned}
					want := map[bool]int64{false: impl.AlAfter, true: impl.AlFull}[wanted]
					if code := checkAllocating(t, h, asked); code != want {
						t.Fatalf("%+v\nAllocated %+v tells %d, want %d", h, asked, code, want)
					}
					if code := checkAllocating(t, weak, asked); code != impl.AlAfter && !pinned {
						t.Fatalf("%+v\nAllocated %+v tells %d", weak, asked, code)
					}
				})
			}
		})
	}
}

// Right heaps, as they come, with and without many notes, Pinned ones, and words that lead in; and the same with something spoilt.
func TestAllocatedOfManyHeaps(t *testing.T) {
	d := &dice{n: 1717}
	told, wrong := map[int64]int{}, 0
	for i := range 900 {
		h := d.heap(8+2*d.roll(10), 8+2*d.roll(20), d.roll(3))
		if i%5 == 1 {
			d.noted(&h)
		}
		if i%3 > 0 {
			d.thin(&h)
		}
		if i%4 > 1 {
			unnailed(&h)
		}
		checkPlacing(t, h)
		for _, most := range []int64{3, 9, 20} {
			told[checkAllocating(t, h, d.newOne(most))]++
		}
		d.spoilHeap(&h)
		if wantHeapOk(h) {
			told[checkAllocating(t, h, d.newOne(20))]++
			continue
		}
		wrong++
		checkNoAllocating(t, h)
	}
	if told[impl.AlOk] < 800 || told[impl.AlFull] < 300 || told[impl.AlAfter] < 300 || wrong < 200 {
		t.Fatalf("these heaps tell too little: %v, %d are wrong", told, wrong)
	}
}

func TestAllocatedOfGreatHeaps(t *testing.T) {
	d := &dice{n: 171717}
	for i := range 24 {
		h := d.heap(200, 400, []int64{0, 37, 40}[d.roll(3)])
		if i%5 == 1 {
			d.noted(&h)
		}
		if i%2 == 1 {
			d.thin(&h)
		}
		if i%4 > 1 {
			unnailed(&h)
		}
		checkPlacing(t, h)
		checkAllocating(t, h, d.newOne(20))
		checkAllocating(t, h, newOne{root: d.roll(6), slots: 20, pinned: true})
	}
}

// allocRun is a heap and the graph that it shows, to both of which the same happens.
type allocRun struct {
	t *testing.T
	h impl.Heap
	g impl.Graph
}

func (r *allocRun) check(what string) {
	r.t.Helper()
	checkSees(r.t, r.h)
	shown := impl.Shown(r.h)
	if impl.Canon(shown) != impl.Canon(r.g) || shown.Seed != r.g.Seed || impl.Canon(r.g) == "" {
		r.t.Fatalf("%s\n%+v\nshows\n%v\nthe graph is\n%v", what, r.h, shown, r.g)
	}
}

func (r *allocRun) allocate(n newOne) int64 {
	r.t.Helper()
	code := checkAllocates(r.t, r.h, n)
	r.h, _ = n.in(r.h)
	if code == impl.AlAfter {
		r.g = impl.Collected(r.g)
	}
	if code == impl.AlOk || code == impl.AlAfter {
		var is bool
		if r.g, is = impl.GMade(r.g, n.root, n.class, n.format, n.slots); !is {
			r.t.Fatalf("the graph has no room: %v", r.g)
		}
	}
	r.check("Allocated")
	return code
}

// store puts what one Root is into a Slot of the other one's.
func (r *allocRun) store(root, slot, from int64) {
	r.t.Helper()
	at, leads := impl.AddrOf(impl.Follow(r.h, r.h.Roots[root]))
	if !leads {
		return
	}
	var is, other bool
	r.h, is = impl.Stored(r.h, at, slot, r.h.Roots[from])
	r.g, other = impl.GStored(r.g, root, slot, from)
	if is != other {
		r.t.Fatalf("%+v\nit is Stored %v, in the graph %v", r.h, is, other)
	}
	r.check("Stored")
}

func (r *allocRun) drop(root int64) {
	r.t.Helper()
	r.h.Roots[root] = impl.Nil
	r.g, _ = impl.GPut(r.g, root, impl.Ref{})
	r.check("dropped")
}

func (r *allocRun) tenure(root int64) {
	r.t.Helper()
	if at, leads := impl.AddrOf(impl.Follow(r.h, r.h.Roots[root])); leads {
		r.h, _ = impl.Tenured(r.h, at)
	}
	r.check("Tenured")
}

func (r *allocRun) step(d *dice) {
	r.t.Helper()
	switch d.roll(6) {
	case 0, 1:
		r.store(d.roll(6), d.roll(6), d.roll(6))
	case 2:
		r.drop(d.roll(6))
	case 3:
		r.tenure(d.roll(6))
	}
}

// What is Allocated, Stored, dropped and Tenured by turns from a new heap on: at each step it shows what the graph is, to which the same happened.
func TestAllocatedAsInTheGraph(t *testing.T) {
	d := &dice{n: 174}
	told := map[int64]int{}
	for range 40 {
		half, old, seed := 8+2*d.roll(16), 8+2*d.roll(30), d.roll(65536)
		h, _ := impl.NewHeap(half, old, seed)
		g, _ := impl.NewGraph(seed)
		r := &allocRun{t, h, g}
		for range 60 {
			told[r.allocate(d.newOne(7))]++
			r.step(d)
			r.step(d)
		}
	}
	if told[impl.AlOk] < 800 || told[impl.AlFull] < 100 || told[impl.AlAfter] < 100 {
		t.Fatalf("these turns tell too little: %v", told)
	}
}

func TestAllocatedOfWrongHeaps(t *testing.T) {
	eachSide(func(side int64) {
		eachSpoilt(t, side, func(h impl.Heap) { checkNoAllocating(t, h) })
		eachSpoiltWithRoom(t, side, func(right, wrong impl.Heap) {
			checkAllocating(t, right, newOne{slots: 3})
			checkNoAllocating(t, wrong)
		})
	})
	checkNoAllocating(t, impl.Heap{})
	checkNoAllocating(t, impl.Heap{Half: 8, Old: 8, Row: free(8), Roots: six()})
	for _, n := range someEnds {
		checkNoAllocating(t, impl.Heap{Half: n, Old: n, Row: joined(zeros(16), free(8)), Side: n, Top: n, Roots: six(), Seed: n})
		checkNoAllocating(t, impl.Heap{Half: 8, Old: n, Row: joined(zeros(16), free(8)), Roots: six()})
		checkNoAllocating(t, impl.Heap{Half: n, Old: 8, Row: joined(zeros(16), free(8)), Roots: six()})
		checkNoAllocating(t, impl.Heap{Half: 8, Old: 8, Row: joined(zeros(16), free(8)), Top: n, Roots: six()})
	}
}

// askedFor are the heap and what is asked for it, one for each code.
func askedFor(side int64) []struct {
	was   layout
	asked newOne
	code  int64
} {
	s := 24 * side
	full := joined(filled(1, 20, 2), one(2))
	a, b, c := filled(4, 19, to(s)), filled(5, 19, 2), filled(6, 19, to(48))
	abc := []int64{2, to(48), to(68), to(88), to(s), to(s + 22)}
	grieved := []int64{to(48), to(s)}
	return []struct {
		was   layout
		asked newOne
		code  int64
	}{
		{layout{below: one(1), above: a, roots: []int64{to(s)}, mourned: grieved}, newOne{slots: 3}, impl.AlOk},
		{layout{below: full, above: a, roots: []int64{to(48)}, mourned: grieved}, newOne{slots: 3}, impl.AlOk},
		{layout{below: one(1), above: a, roots: []int64{to(s)}, mourned: grieved}, newOne{slots: 2, pinned: true}, impl.AlOk},
		{layout{below: full, above: joined(a, b, c), roots: []int64{to(88)}, mourned: grieved}, newOne{slots: 3, pinned: true}, impl.AlAfter},
		{layout{below: full, above: joined(a, b, c), roots: abc, mourned: grieved}, newOne{slots: 3}, impl.AlFull},
		{layout{below: one(1), above: a, roots: []int64{to(s)}, mourned: grieved}, newOne{slots: 21}, impl.AlBad},
	}
}

// Answers to one heap, one beside the other, have nothing of one another; nor has a heap that is written over afterwards anything of its answers. So it is whichever code is told.
func TestAllocatedAnswersShareNothing(t *testing.T) {
	eachSide(func(side int64) {
		for _, c := range askedFor(side) {
			w := watchHeap(c.was.heap(side))
			checkBoth(t, "an argument", w.heap, true)
			wrong := watchHeap(impl.Heap{Roots: six(num(1)), Mourned: []int64{4}, Seen: []int64{5}, Row: []int64{6}})
			calls := []func() []int64{}
			for _, h := range []impl.Heap{w.heap, wrong.heap} {
				calls = append(calls,
					func() []int64 { return first(c.asked.in(h)).Row },
					func() []int64 { return first(c.asked.in(h)).Roots },
					func() []int64 { return first(c.asked.in(h)).Mourned },
					func() []int64 { return first(c.asked.in(h)).Seen })
			}
			checkListsApart(t, calls, append(slices.Clone(w.lists), wrong.lists...)...)
			made, code := c.asked.in(w.heap)
			if code != c.code || len(made.Mourned) == 0 || len(made.Seen) == 0 {
				t.Fatalf("%+v\nAllocated %+v tells %d\n%+v", w.heap, c.asked, code, made)
			}
			picture := clonedHeap(made)
			checkPlacing(t, w.heap)
			checkHeapApart(t, w.heap)
			if !sameHeap(made, picture) {
				t.Fatalf("the heap, written into, changes an answer:\n%+v\nwas\n%+v", made, picture)
			}
			checkHeapApart(t, made)
			checkAllocating(t, c.was.heap(side), c.asked)
		}
	})
}
