package tests

import (
	"math"
	"slices"
	"testing"

	"loop.example/g00337/impl"
)

func TestSeeingOfNewHeaps(t *testing.T) {
	for _, c := range [][3]int64{{8, 8, 0}, {8, 10, 3}, {200, 400, 65535}, {200, 8, 1}, {8, 400, 77}} {
		h, _ := impl.NewHeap(c[0], c[1], c[2])
		w := watchHeap(h)
		checkSeenOf(t, w, nil)
		for at := int64(-2); at <= int64(len(h.Row))+2; at++ {
			checkFetched(t, w, at, 0, 0, false)
			checkStored(t, w, at, 0, 2, h, false)
			checkTenured(t, w, at, h, false)
		}
	}
}

// Each list of up to three places, none of which but one makes the heap right: what it must be is told of all.
func TestSeenOfAnySeen(t *testing.T) {
	eachSide(func(side int64) {
		s := 12 * side
		places := []int64{0, s, s + 4, 23, 24, 25, 28, 32, 36, 40, 44, 48, 54, -1, 1000, math.MinInt64, math.MaxInt64}
		for n := range 4 {
			eachShortRow(n, places, func(list []int64) {
				h := furnished(side)
				h.Seen = slices.Clone(list)
				if got := impl.SeenOf(h); !slices.Equal(got, []int64{24, 32}) {
					t.Fatalf("Seen %v: SeenOf = %v", list, got)
				}
			})
		}
		for _, list := range [][]int64{nil, {}, {24}, {32}, {24, 32}, {24, 32, 40}, {24, 24, 32}, {24, 32, 32}, {32, 24}, {25, 33}, {s, 24, 32}, {54}, {-1}, slices.Repeat([]int64{24}, 2000)} {
			h := furnished(side)
			h.Seen = list
			checkSeenOf(t, watchHeap(h), []int64{24, 32})
			if !slices.Equal(list, []int64{24, 32}) {
				checkBoth(t, "a wrong Seen", h, false)
				checkNoSeeing(t, h)
			}
		}
	})
}

// spoilings are what makes a furnished heap wrong beside what is Seen.
func spoilings(side int64) []func(h *impl.Heap) {
	s := 12 * side
	return []func(h *impl.Heap){
		func(h *impl.Heap) { h.Seed = -1 },
		func(h *impl.Heap) { h.Seed = 65536 },
		func(h *impl.Heap) { h.Roots = h.Roots[:5] },
		func(h *impl.Heap) { h.Roots = append(h.Roots, 2) },
		func(h *impl.Heap) { h.Roots = nil },
		func(h *impl.Heap) { h.Roots[5] = 0 },
		func(h *impl.Heap) { h.Roots[0] = to(28) },
		func(h *impl.Heap) { h.Roots[0] = to(12 - s) },
		func(h *impl.Heap) { h.Mourned[0] = 2 },
		func(h *impl.Heap) { h.Mourned[0] = num(1) },
		func(h *impl.Heap) { h.Mourned = slices.Repeat([]int64{to(24)}, 41) },
		func(h *impl.Heap) { h.Row[s+1] = to(s + 1) },
		func(h *impl.Heap) { h.Row[26] = 0 },
		func(h *impl.Heap) { h.Row[39] = to(44) },
		func(h *impl.Heap) { h.Row[39] = to(38) },
		func(h *impl.Heap) { h.Row[39] = 2 },
		func(h *impl.Heap) { h.Row[s+4] += pinned },
		func(h *impl.Heap) { h.Row[24] += marked },
		func(h *impl.Heap) { h.Row[s+9] = 1 },
		func(h *impl.Heap) { h.Row[12-s] = 1 },
		func(h *impl.Heap) { h.Row[49] = 8 },
		func(h *impl.Heap) { h.Top = 7 },
		func(h *impl.Heap) { h.Top = 6 },
		func(h *impl.Heap) { h.Top = 14 },
		func(h *impl.Heap) { h.Top = -2 },
		func(h *impl.Heap) { h.Side = 1 - h.Side },
		func(h *impl.Heap) { h.Side = 2 },
		func(h *impl.Heap) { h.Side = -1 },
		func(h *impl.Heap) { h.Half = 0 },
		func(h *impl.Heap) { h.Half = math.MaxInt64 },
		func(h *impl.Heap) { h.Old = math.MinInt64 },
		func(h *impl.Heap) { h.Row = h.Row[:53] },
		func(h *impl.Heap) { h.Row = append(h.Row, 0, 0) },
		func(h *impl.Heap) { h.Row = nil },
		func(h *impl.Heap) { *h = impl.Heap{} },
		func(h *impl.Heap) { *h = impl.Heap{Roots: six(num(1))} },
	}
}

// Something beside Seen is wrong: nothing is told, whether Seen is what it would have to be or not.
func TestSeeingOfWrongHeaps(t *testing.T) {
	eachSide(func(side int64) {
		for i, spoilt := range spoilings(side) {
			for _, seen := range [][]int64{{24, 32}, {24}, nil, {32, 24}, {24, 32, 40}} {
				h := furnished(side)
				spoilt(&h)
				h.Seen = seen
				checkBoth(t, "spoilt", h, false)
				if got := impl.SeenOf(h); len(got) != 0 {
					t.Fatalf("spoilt by %d: SeenOf = %v", i, got)
				}
				checkNoSeeing(t, h)
			}
		}
	})
}

// A word that is Young in just one place of a chunk upstairs: a Slot, a note, or where nobody looks.
func TestSeenOfOneWord(t *testing.T) {
	eachRoom(func(side, s, n int64) {
		for slots := range int64(21) {
			for i := range slots {
				words := slices.Repeat([]int64{to(48)}, int(slots))
				words[i] = to(s)
				h := heapOf(24, 60, side, one(1), joined(one(2), one(3, words...)))
				checkSeenOf(t, watchHeap(h), []int64{50})
				words[i] = num(s)
				h = heapOf(24, 60, side, one(1), joined(one(2), one(3, words...)))
				checkSeenOf(t, watchHeap(h), nil)
			}
			behind := one(3, slices.Repeat([]int64{2}, int(slots))...)
			if slots%2 == 0 {
				behind[slots+1] = to(s)
			}
			checkSeenOf(t, watchHeap(heapOf(24, 60, side, one(1), behind)), nil)
			up := joined(one(2), headed(impl.Head{Slots: slots, Format: 7}, s))
			up[3] = to(48)
			checkSeenOf(t, watchHeap(heapOf(24, 60, side, one(1), up)), nil)
			up[3] = to(s)
			checkSeenOf(t, watchHeap(heapOf(24, 60, side, one(1), up)), []int64{50})
		}
		checkSeenOf(t, watchHeap(heapOf(24, 60, side, one(1, to(s)), free(8, to(s), to(s)))), nil)
		checkSeenOf(t, watchHeap(heapOf(24, 60, side, one(1), joined(free(58), one(2, to(s))))), []int64{106})
		checkSeenOf(t, watchHeap(heapOf(24, 60, side, one(1), joined(one(2, to(s)), free(56), one(2, to(s))))), []int64{48, 106})
	})
}

// An object that knows somebody below by one Slot alone: it is Seen once it is upstairs, and only that Slot makes it blind.
func TestSeenByOneSlot(t *testing.T) {
	eachRoom(func(side, s, n int64) {
		for slots := int64(1); slots <= 20; slots++ {
			for i := range slots {
				words := slices.Repeat([]int64{num(s)}, int(slots))
				words[i] = to(s)
				it := one(3, words...)
				checkTenureCases(t, side, []tenureCase{
					{"Tenured", layout{below: joined(zeros(2), it)}, s + 2, layout{below: zeros(2+len(it), 0, 0, noteHead+slots, to(48)), above: it}, []int64{48}},
				})
				for slot := range slots {
					seen := []int64{48}
					if slot == i {
						seen = nil
					}
					checkStoreCases(t, side, []storeCase{{"Stored", layout{below: zeros(2), above: it}, 48, slot, 2, seen}})
				}
			}
		}
	})
}

// Of every right head: its first word is Young.
func TestSeenOfEveryHead(t *testing.T) {
	for _, head := range rightHeads() {
		if head.Format == 6 || head.Marked || head.Class%33 != 0 || head.Hash%65535 != 0 {
			continue
		}
		eachSide(func(side int64) {
			h := heapOf(24, 30, side, zeros(2), joined(zeros(2), headed(head, 24*side)))
			want := []int64{50}
			if head.Slots == 0 && head.Format != 7 {
				want = nil
			}
			checkSeenOf(t, watchHeap(h), want)
		})
	}
}

// fetchedFrom are the Slots of each object of what is furnished, Followed.
func fetchedFrom(side int64) map[int64][]int64 {
	s := 12 * side
	return map[int64][]int64{
		s: {to(40), to(24)}, s + 6: {num(5)},
		24: {to(s), 2}, 36: {}, 40: {to(s + 6), num(-7), to(36)},
	}
}

// Notes, free chunks, the inside of chunks, behind Top, the other half and out of the Row: all are among these.
func TestFetchedOfEverySlot(t *testing.T) {
	eachSide(func(side int64) {
		w := watchHeap(furnished(side))
		places := slices.Clone(someEnds)
		for at := int64(-3); at <= 1003; at++ {
			places = append(places, at)
		}
		slots := slices.Clone(someEnds)
		for slot := int64(-3); slot <= 23; slot++ {
			slots = append(slots, slot)
		}
		for _, at := range places {
			words := fetchedFrom(side)[at]
			for _, slot := range slots {
				if slot >= 0 && slot < int64(len(words)) {
					checkFetched(t, w, at, slot, words[slot], true)
				} else {
					checkFetched(t, w, at, slot, 0, false)
				}
			}
		}
	})
}

// Each Slot that there is takes a word, and nothing else does.
func TestStoredInEverySlot(t *testing.T) {
	eachSide(func(side int64) {
		h := furnished(side)
		w := watchHeap(h)
		places := slices.Clone(someEnds)
		for at := int64(-3); at <= 60; at++ {
			places = append(places, at)
		}
		slots := slices.Clone(someEnds)
		for slot := int64(-3); slot <= 23; slot++ {
			slots = append(slots, slot)
		}
		for _, at := range append(places, 999, 1000) {
			count := int64(len(fetchedFrom(side)[at]))
			for _, slot := range slots {
				if slot < 0 || slot >= count {
					checkStored(t, w, at, slot, num(9), h, false)
					continue
				}
				want := clonedHeap(h)
				want.Row[at+1+slot] = num(9)
				if at == 24 && slot == 0 {
					want.Seen = []int64{32}
				}
				checkStored(t, w, at, slot, num(9), want, true)
				checkStoring(t, h, at, slot, num(9))
			}
		}
	})
}

// Every word, in a Slot of the room and in Slots upstairs: what the heap may not have is refused.
func TestStoredOfEveryWord(t *testing.T) {
	eachSide(func(side int64) {
		s := 12 * side
		h := furnished(side)
		words := slices.Clone(someWords)
		for at := int64(-3); at <= 1003; at++ {
			words = append(words, to(at), to(at)+2, to(at)+3)
		}
		for _, word := range words {
			leads := word%4 == 0 && slices.Contains(rightPlaces(side), word/4-1)
			says := leads || word == 2 || slices.Contains(someWords[:6], word)
			for _, place := range [][2]int64{{s, 0}, {s, 1}, {s + 6, 0}, {24, 0}, {24, 1}, {40, 2}} {
				if got := checkStoring(t, h, place[0], place[1], word); got != says {
					t.Fatalf("%d in Slot %d at %d: Stored %v, want %v", word, place[1], place[0], got, says)
				}
			}
		}
	})
}

// What is Stored stands there as it is, also where it leads to a note: it is Followed only when it is Fetched.
func TestStoredIsFetchedFollowed(t *testing.T) {
	eachRoom(func(side, s, n int64) {
		below := joined(one(1, 2), note(s+4), note(50), one(2), note(s+2))
		above := joined(note(s+6), one(3, 2), note(48))
		h := layout{below: below, above: above}.heap(side)
		for _, c := range []struct{ w, want int64 }{
			{2, 2}, {num(0), num(0)}, {num(-100000), num(-100000)}, {num(100000), num(100000)}, {num(s), num(s)},
			{to(s), to(s)}, {to(s + 6), to(s + 6)}, {to(50), to(50)},
			{to(s + 4), to(50)}, {to(s + 2), to(50)}, {to(s + 8), to(50)}, {to(48), to(s + 6)}, {to(52), to(s + 6)},
		} {
			for _, at := range []int64{s, 50} {
				made, is := impl.Stored(h, at, 0, c.w)
				if !is || made.Row[at+1] != c.w {
					t.Fatalf("Stored %d at %d: %v, %+v", c.w, at, is, made)
				}
				checkFetched(t, watchHeap(made), at, 0, c.want, true)
				checkStoring(t, h, at, 0, c.w)
			}
		}
	})
}

// storeCase is a Slot of a heap into which a word is stored, and what the heap sees then.
type storeCase struct {
	name     string
	was      layout
	at, slot int64
	w        int64
	seen     []int64
}

func checkStoreCases(t *testing.T, side int64, list []storeCase) {
	t.Helper()
	for _, c := range list {
		h := c.was.heap(side)
		checkBoth(t, c.name, h, true)
		want := clonedHeap(h)
		want.Row[c.at+1+c.slot] = c.w
		want.Seen = c.seen
		checkBoth(t, c.name+", then", want, true)
		if got, is := impl.Stored(h, c.at, c.slot, c.w); !is || !sameHeap(got, want) {
			t.Fatalf("%s: of\n%+v\nStored =\n%+v, %v\nwant\n%+v", c.name, h, got, is, want)
		}
		checkStoring(t, h, c.at, c.slot, c.w)
	}
}

func TestStoredSees(t *testing.T) {
	eachRoom(func(side, s, n int64) {
		below := joined(one(1, 2), note(48), one(2, to(48)))
		alone := layout{below: below, above: one(3, 2, num(1), to(48))}
		knows := layout{below: below, above: one(3, to(s), num(1), to(48))}
		twice := layout{below: below, above: one(3, to(s), to(s+4), to(s))}
		row := layout{below: below, above: joined(one(3, 2), one(4, to(s)), note(s), one(5, 2), one(6, to(s+2)), one(7, 2))}
		none := layout{below: below, above: joined(one(3, 2), one(4, 2), one(5, 2))}
		checkStoreCases(t, side, []storeCase{
			{"from then on", alone, 48, 0, to(s), []int64{48}},
			{"by its last Slot", alone, 48, 2, to(s), []int64{48}},
			{"by a note below that leads upstairs", alone, 48, 1, to(s + 2), []int64{48}},
			{"not by one upstairs", alone, 48, 0, to(48), nil},
			{"not by a number", alone, 48, 0, num(s), nil},
			{"not by Nil", alone, 48, 2, 2, nil},
			{"no longer: Nil", knows, 48, 0, 2, nil},
			{"no longer: a number", knows, 48, 0, num(s), nil},
			{"no longer: upstairs", knows, 48, 0, to(48), nil},
			{"as before: another below", knows, 48, 0, to(s + 4), []int64{48}},
			{"as before: another Slot", knows, 48, 2, 2, []int64{48}},
			{"as before: one more", knows, 48, 1, to(s), []int64{48}},
			{"as before: the same", knows, 48, 0, to(s), []int64{48}},
			{"as before: one less of three, the first", twice, 48, 0, 2, []int64{48}},
			{"as before: one less of three, the last", twice, 48, 2, num(3), []int64{48}},
			{"the first of several", row, 48, 0, to(s), []int64{48, 50, 52, 56}},
			{"one between", row, 54, 0, to(s), []int64{50, 52, 54, 56}},
			{"the last of several", row, 58, 0, to(s), []int64{50, 52, 56, 58}},
			{"the first one no longer", row, 50, 0, 2, []int64{52, 56}},
			{"the last one no longer", row, 56, 0, 2, []int64{50, 52}},
			{"one of several stays", row, 56, 0, to(s + 2), []int64{50, 52, 56}},
			{"one of several never did", row, 54, 0, to(48), []int64{50, 52, 56}},
			{"the only one, first", none, 48, 0, to(s + 4), []int64{48}},
			{"the only one, last", none, 52, 0, to(s + 4), []int64{52}},
			{"in the room: nobody upstairs sees more", row, s, 0, to(s + 4), []int64{50, 52, 56}},
			{"in the room: to itself", none, s, 0, to(s), nil},
			{"in the room: upstairs no longer", none, s + 4, 0, 2, nil},
			{"in the room: as before", row, s + 4, 0, to(50), []int64{50, 52, 56}},
		})
	})
}

// Objects with no Slots, with one and with all that there can be, of every Format.
func TestStoredOfManySlots(t *testing.T) {
	eachRoom(func(side, s, n int64) {
		for format := range int64(3) {
			for slots := range int64(21) {
				if format == 2 && slots == 0 {
					continue
				}
				body := headed(impl.Head{Slots: slots, Format: format, Class: 99, Hash: 65535}, 48)
				h := layout{below: joined(zeros(2), body), above: joined(zeros(2), body)}.heap(side)
				for _, at := range []int64{s + 2, 50} {
					for slot := int64(-1); slot <= slots+1; slot++ {
						for _, w := range []int64{2, to(s), to(48), num(-1), to(s + 2), to(50)} {
							is := checkStoring(t, h, at, slot, w)
							if want := slot >= 0 && slot < slots; is != want {
								t.Fatalf("Slot %d of %d: %v", slot, slots, is)
							}
						}
						checkStored(t, watchHeap(h), at, slot, to(s+1), h, false)
					}
				}
			}
		}
	})
}

// What is left over behind the Slots, or behind a note, is no Slot: nothing is fetched from there or stored there, and whatever it is, it stays.
func TestStoredBesideWordsLeftOver(t *testing.T) {
	eachRoom(func(side, s, n int64) {
		for _, w := range []int64{0, 1, 2, -1, to(s), to(48), to(s + 1), num(3), freeHead, noteHead, marked, math.MinInt64, math.MaxInt64} {
			below := joined([]int64{65536, w, 2, 2, 2, w}, []int64{noteHead + 3, to(s), w, w})
			above := joined([]int64{65536, w, 2, 2, 2, w}, []int64{noteHead + 3, to(48), w, w}, free(6, w, w, w, w))
			h := layout{below: below, above: above}.heap(side)
			for _, c := range [][2]int64{{s, 0}, {s, 1}, {s + 2, 2}, {s + 6, 0}, {s + 6, 1}, {s + 6, 2}, {48, 0}, {50, 2}, {50, 3}, {54, 0}, {54, 1}, {58, 0}, {58, 1}} {
				checkFetched(t, watchHeap(h), c[0], c[1], 0, false)
				checkStored(t, watchHeap(h), c[0], c[1], to(s), h, false)
			}
			checkStoreCases(t, side, []storeCase{
				{"below", layout{below: below, above: above}, s + 2, 1, to(s), nil},
				{"above", layout{below: below, above: above}, 50, 1, to(s), []int64{50}},
			})
		}
	})
}

// All ways in which four Slots can be Nil or lead among objects and notes below and upstairs, and each word of these stored into each of them.
func TestStoredInEveryWay(t *testing.T) {
	eachRoom(func(side, s, n int64) {
		words := []int64{2, to(s), to(s + 2), to(s + 4), to(48), to(52)}
		eachShortRow(4, words, func(w []int64) {
			below := joined(one(1, w[0]), note(52), one(2, w[1]))
			above := joined(one(3, w[2], w[3]), note(s+4))
			h := layout{below: below, above: above, roots: []int64{to(s), to(48)}}.heap(side)
			for _, place := range [][2]int64{{s, 0}, {s + 4, 0}, {48, 0}, {48, 1}} {
				for _, word := range words {
					got, is := impl.Stored(h, place[0], place[1], word)
					if want, _ := wantStored(h, place[0], place[1], word); !is || !sameHeap(got, want) || !slices.Equal(impl.SeenOf(got), want.Seen) {
						t.Fatalf("%+v\nat %d, Slot %d, Stored %d =\n%+v, %v\nwant\n%+v", h, place[0], place[1], word, got, is, want)
					}
				}
			}
			checkAsInGraph(t, h, 48, 1, w[0])
		})
	})
}

// tenureCase is a heap as it is, and as it is once the object there is Tenured, where Seen is told by hand.
type tenureCase struct {
	name string
	was  layout
	at   int64
	then layout
	seen []int64
}

func checkTenureCases(t *testing.T, side int64, list []tenureCase) {
	t.Helper()
	for _, c := range list {
		h, want := c.was.heap(side), c.then.heap(side)
		want.Seen = c.seen
		checkBoth(t, c.name, h, true)
		checkBoth(t, c.name+", then", want, true)
		if got, is := impl.Tenured(h, c.at); !is || !sameHeap(got, want) {
			t.Fatalf("%s: of\n%+v\nTenured at %d =\n%+v, %v\nwant\n%+v", c.name, h, c.at, got, is, want)
		}
		checkTenuring(t, h, c.at)
	}
}

func TestFurnishedTenuredByHand(t *testing.T) {
	eachSide(func(side int64) {
		s := 12 * side
		h := furnished(side)
		w := watchHeap(h)
		want := furnished(side)
		copy(want.Row[s:], []int64{noteHead + 2, to(28), 0, 0})
		copy(want.Row[28:], []int64{2, to(s + 4), to(24), 4}) // just as great: nothing is left of what was free
		want.Seen = []int64{24, 28, 32}
		checkTenured(t, w, s, want, true)
		want = furnished(side)
		copy(want.Row[s+6:], []int64{noteHead + 1, to(28)})
		copy(want.Row[28:], []int64{65 + 512*7 + 65536*9, num(5), freeHead, 2})
		checkTenured(t, w, s+6, want, true)
		// Notes, upstairs, free, the inside of chunks, behind Top, the other half and out of the Row: all are among these.
		places := append(slices.Clone(someEnds), 999, 1000)
		for at := int64(-3); at <= 60; at++ {
			places = append(places, at)
		}
		for _, at := range places {
			if at != s && at != s+6 {
				checkTenured(t, w, at, h, false)
			}
			checkTenuring(t, h, at)
		}
	})
}

func TestTenuredByHand(t *testing.T) {
	eachRoom(func(side, s, n int64) {
		it, lost := one(8, num(3)), []int64{noteHead + 1, to(48)}
		both := joined(one(1), it, one(2, to(s+2)))
		checkTenureCases(t, side, []tenureCase{
			{"the only one", layout{below: it}, s, layout{below: lost, above: it}, nil},
			{"the first", layout{below: joined(it, one(1))}, s, layout{below: joined(lost, one(1)), above: it}, nil},
			{"the last", layout{below: joined(one(1), it)}, s + 2, layout{below: joined(one(1), lost), above: it}, nil},
			{"who led to it leads to the note", layout{below: both, roots: []int64{to(s + 2), to(s + 4)}, mourned: []int64{to(s + 2)}}, s + 2,
				layout{below: joined(one(1), lost, one(2, to(s+2))), above: it, roots: []int64{to(s + 2), to(s + 4)}, mourned: []int64{to(s + 2)}}, nil},
			{"who led to it upstairs sees the note", layout{below: it, above: joined(one(1, to(s)), note(s))}, s,
				layout{below: []int64{noteHead + 1, to(52)}, above: joined(one(1, to(s)), note(s), it)}, []int64{48, 50}},
			{"notes led to it", layout{below: joined(note(s+2), it, note(s)), roots: []int64{to(s + 4)}}, s + 2,
				layout{below: joined(note(s+2), lost, note(s)), above: it, roots: []int64{to(s + 4)}}, nil},
		})
		checkTenureCases(t, side, []tenureCase{
			{"it leads below", layout{below: joined(one(1, num(1), to(s+4)), one(2))}, s,
				layout{below: joined([]int64{noteHead + 2, to(48), 0, 0}, one(2)), above: one(1, num(1), to(s+4))}, []int64{48}},
			{"it leads to a note below", layout{below: joined(one(1, to(s+2)), note(48)), above: one(2)}, s,
				layout{below: joined([]int64{noteHead + 1, to(50)}, note(48)), above: joined(one(2), one(1, to(s+2)))}, []int64{50}},
			{"it leads to itself: to the note from then on", layout{below: one(1, to(s))}, s,
				layout{below: lost, above: one(1, to(s))}, []int64{48}},
			{"it leads upstairs", layout{below: one(1, to(48)), above: one(2)}, s,
				layout{below: []int64{noteHead + 1, to(50)}, above: joined(one(2), one(1, to(48)))}, nil},
			{"ahead of others that are Seen", layout{below: joined(one(1, to(s+2)), one(2)), above: joined(one(3), free(2), one(4, to(s)), one(5, to(s)))}, s,
				layout{below: joined([]int64{noteHead + 1, to(50)}, one(2)), above: joined(one(3), one(1, to(s+2)), one(4, to(s)), one(5, to(s)))}, []int64{50, 52, 54}},
			{"between others that are Seen", layout{below: joined(one(1, to(s+2)), one(2)), above: joined(one(3, to(s)), free(2), one(4), one(5, to(s)))}, s,
				layout{below: joined([]int64{noteHead + 1, to(50)}, one(2)), above: joined(one(3, to(s)), one(1, to(s+2)), one(4), one(5, to(s)))}, []int64{48, 50, 54}},
			{"behind others that are Seen", layout{below: joined(one(1, to(s+2)), one(2)), above: joined(one(3, to(s)), one(4, to(s)))}, s,
				layout{below: joined([]int64{noteHead + 1, to(52)}, one(2)), above: joined(one(3, to(s)), one(4, to(s)), one(1, to(s+2)))}, []int64{48, 50, 52}},
			{"others that are Seen, and it is not", layout{below: one(1, num(s)), above: joined(one(3, to(s)), free(2), one(4, to(s)))}, s,
				layout{below: []int64{noteHead + 1, to(50)}, above: joined(one(3, to(s)), one(1, num(s)), one(4, to(s)))}, []int64{48, 52}},
		})
	})
}

// Every right head of the room goes upstairs as it is, with all its words; the note that it leaves has its Slots and nothing else.
func TestTenuredOfEveryHead(t *testing.T) {
	for _, head := range rightHeads() {
		if head.Format > impl.FoEphem || head.Marked || head.Pinned || head.Class%33 != 0 || head.Hash%65535 != 0 {
			continue
		}
		eachRoom(func(side, s, n int64) {
			body := headed(head, s)
			then := zeros(len(body), 64*7+head.Slots, to(48))
			seen := []int64{48}
			if head.Slots == 0 {
				seen = nil
			}
			checkTenureCases(t, side, []tenureCase{
				{"alone", layout{below: body, roots: []int64{2, to(s)}}, s, layout{below: then, above: body, roots: []int64{2, to(s)}}, seen},
			})
			made, _ := impl.Tenured(layout{below: body}.heap(side), s)
			if h, words, is := impl.ObjectAt(made.Row, s); !is || h != (impl.Head{Slots: head.Slots, Format: impl.FoForward}) || !slices.Equal(words, []int64{to(48)}) {
				t.Fatalf("of %+v there is %+v, %v, %v", head, h, words, is)
			}
			if h, words, is := impl.ObjectAt(made.Row, 48); !is || h != head || len(words) != int(head.Slots) {
				t.Fatalf("of %+v upstairs is %+v, %v, %v", head, h, words, is)
			}
		})
	}
}

// Behind the note all is 0, whatever was left over in the object; upstairs the object has it still.
func TestTenuredWithWordsLeftOver(t *testing.T) {
	eachRoom(func(side, s, n int64) {
		for _, w := range []int64{0, 1, 2, -1, to(s), to(48), to(s + 1), num(3), freeHead, noteHead, marked, math.MinInt64, math.MaxInt64} {
			checkTenureCases(t, side, []tenureCase{
				{"no Slots", layout{below: joined([]int64{65536, w}, one(1))}, s, layout{below: joined([]int64{noteHead, to(48)}, one(1)), above: []int64{65536, w}}, nil},
				{"two Slots", layout{below: joined(one(1), []int64{2, 2, num(1), w})}, s + 2, layout{below: joined(one(1), []int64{noteHead + 2, to(48), 0, 0}), above: []int64{2, 2, num(1), w}}, nil},
				{"into what is free", layout{below: one(1, num(4)), above: joined(free(8, w, w, w, w, w, w), zeros(52))}, s, layout{below: []int64{noteHead + 1, to(48)}, above: joined(one(1, num(4)), []int64{freeHead, 6, w, w, w, w}, zeros(52))}, nil},
				{"beside others", layout{below: one(1, num(4)), above: joined([]int64{0, w}, []int64{noteHead + 3, to(48), w, w}, []int64{2, 2, 2, w})}, s, layout{below: []int64{noteHead + 1, to(58)}, above: joined([]int64{0, w}, []int64{noteHead + 3, to(48), w, w}, []int64{2, 2, 2, w}, one(1, num(4)))}, nil},
			})
		}
	})
}

// fitCase is what is upstairs, in an Old of 60 words, and where an object of so many Slots comes to stand; -1 where nowhere.
type fitCase struct {
	name  string
	above []int64
	slots int64
	want  int64
}

func TestTenuredWhereItFits(t *testing.T) {
	full := func(words int, more ...[]int64) []int64 {
		taken := joined(more...)
		return joined(taken, zeros(words-len(taken)))
	}
	eachRoom(func(side, s, n int64) {
		for _, c := range []fitCase{
			{"all is free", nil, 3, 48},
			{"all is free, 20 Slots", nil, 20, 48},
			{"just so great", full(60, free(4)), 3, 48},
			{"just so great, and a word left over", full(60, free(4)), 2, 48},
			{"just so great, 20 Slots", full(60, free(22)), 20, 48},
			{"just so great, 19 Slots", full(60, free(20)), 19, 48},
			{"just so great, none", full(60, free(2)), 0, 48},
			{"just so great, one", full(60, free(2)), 1, 48},
			{"greater by 2", full(60, free(6)), 3, 48},
			{"greater by much", full(60, free(40)), 3, 48},
			{"less by 2", full(60, free(2)), 2, -1},
			{"less by 2, 20 Slots", full(60, free(20)), 20, -1},
			{"none", zeros(60), 0, -1},
			{"the least, at last", full(60, free(8), zeros(2), free(6), zeros(2), free(4)), 3, 66},
			{"the least, first", full(60, free(4), zeros(2), free(6), zeros(2), free(8)), 3, 48},
			{"the least, between", full(60, free(6), zeros(2), free(4), zeros(2), free(8)), 3, 56},
			{"the least that will do", full(60, free(2), zeros(2), free(8), zeros(2), free(6)), 3, 62},
			{"two that are alike", full(60, free(2), zeros(2), free(6), zeros(2), free(6)), 3, 52},
			{"two that are just so great", full(60, free(6), free(4), zeros(2), free(4)), 3, 54},
			{"two that meet are not one", full(60, free(2), free(2)), 3, -1},
			{"two that meet, the second", full(60, free(2), free(4)), 3, 50},
			{"several, none of which will do", full(60, free(2), zeros(2), free(2), zeros(4), free(2)), 2, -1},
			{"the last words", joined(zeros(56), free(4)), 3, 104},
			{"the last two words", joined(zeros(58), free(2)), 1, 106},
			{"behind notes", joined(note(52), note(52), one(1), zeros(50), free(4)), 3, 104},
			{"ahead of Pinned ones", full(60, free(4), []int64{pinned, 0}), 3, 48},
		} {
			it := filled(9, c.slots, num(7))
			h := layout{below: it, above: c.above, roots: []int64{to(s)}}.heap(side)
			checkBoth(t, c.name, h, true)
			got, is := impl.Tenured(h, s)
			if is != (c.want >= 0) || is && got.Row[s+1] != to(c.want) {
				t.Fatalf("%s: Tenured %v, %+v", c.name, is, got)
			}
			if !is && !sameHeap(got, h) {
				t.Fatalf("%s: as it is\n%+v\nis\n%+v", c.name, h, got)
			}
			if is && !slices.Equal(got.Row[c.want:c.want+int64(len(it))], it) {
				t.Fatalf("%s: upstairs is %v", c.name, got.Row[48:])
			}
			checkTenuring(t, h, s)
		}
	})
}

// All ways in which upstairs can begin with four chunks, free ones of three sizes or objects of two, for objects of 2, 4 and 6 words.
func TestTenuredInEveryRoomUpstairs(t *testing.T) {
	pieces := [][]int64{free(2), free(4), free(6), zeros(2), {3, 2, 2, 2}}
	full, fits := 0, 0
	eachRowOf(4, pieces, func(row []int64) {
		eachSide(func(side int64) {
			s := 12 * side
			above := joined(row, zeros(24-len(row)))
			h := heapOf(12, 24, side, joined(one(1), one(2, 2, 2), filled(3, 5, to(s))), above)
			h.Roots[0] = to(s + 6)
			for _, at := range []int64{s, s + 2, s + 6} {
				if checkTenuring(t, h, at) {
					fits++
				} else {
					full++
				}
			}
		})
	})
	// On each side, no room is left by 2, 3 and 4 of the pieces, to the power of 4, for 2, 4 and 6 words.
	if full != 2*(16+81+256) || fits+full != 2*3*625 {
		t.Fatalf("%d have room, %d have none", fits, full)
	}
}

// One after the other, in any order, until there is no room: what is free upstairs grows less by each, and it shows the same all the while.
func TestTenuredTillThereIsNoRoom(t *testing.T) {
	d := &dice{n: 12}
	for _, c := range [][2]int64{{8, 8}, {8, 10}, {20, 8}, {20, 18}, {20, 20}, {20, 22}, {100, 60}, {200, 400}} {
		eachSide(func(side int64) {
			d.eachOrder(pairsOf(c[0], 0, side), func(places []int64) {
				h := heapOf(c[0], c[1], side, zeros(int(c[0])), nil)
				for i, at := range places {
					h.Row[at], h.Row[at+1] = 1+65536*int64(i), to(places[(i+1)%len(places)])
				}
				h.Roots[0] = to(places[0])
				shown := impl.Shown(h)
				for i, at := range places {
					made, is := impl.Tenured(h, at)
					if is != (int64(2*i) < c[1]) || !slices.Equal(made.Seen, impl.SeenOf(made)) {
						t.Fatalf("the %dth of %d, at %d, into %d words: %v", i, len(places), at, c[1], is)
					}
					if !is {
						checkTenured(t, watchHeap(h), at, h, false)
						continue
					}
					// What is free upstairs is one chunk, so that they come to lie one behind the other.
					if made.Row[at] != noteHead+1 || made.Row[at+1] != to(2*c[0]+2*int64(i)) || !sameGraph(impl.Shown(made), shown) {
						t.Fatalf("the %dth of %d, at %d: %+v", i, len(places), at, made)
					}
					h = made
				}
				checkSees(t, h)
				if s := impl.Scavenged(h); !sameGraph(impl.Shown(s), shown) || s.Top != max(0, c[0]-c[1]) {
					t.Fatalf("Scavenged, of what was Tenured: %+v", s)
				}
			})
		})
	}
}

// Objects of many sizes from many rooms: what is Tenured is Stored into, Scavenged and Tenured again, and is right all the while.
func TestTenuredStoredAndScavengedInTurn(t *testing.T) {
	d := &dice{n: 1212}
	tenured, stored, refused := 0, 0, 0
	for range 150 {
		h := d.heap(8+2*d.roll(20), 20+2*d.roll(60), d.roll(4))
		for range 12 {
			objects := append(impl.Objects(h), 1)
			at := objects[d.roll(int64(len(objects)))]
			switch d.roll(5) {
			case 0:
				h = checkCheney(t, h)
			case 1, 2:
				if checkTenuring(t, h, at) {
					tenured++
				} else {
					refused++
				}
				h, _ = impl.Tenured(h, at)
			default:
				slot, word := d.roll(3), to(objects[d.roll(int64(len(objects)))])
				if checkStoring(t, h, at, slot, word) {
					stored++
				}
				h, _ = impl.Stored(h, at, slot, word)
			}
			checkSees(t, h)
		}
	}
	if tenured < 50 || stored < 50 || refused < 50 {
		t.Fatalf("%d Tenured, %d refused, %d Stored", tenured, refused, stored)
	}
}

// More are led to than can be Shown: it is Stored and Tenured all the same.
func TestSeeingOfMoreThanIsShown(t *testing.T) {
	eachSide(func(side int64) {
		for _, n := range []int{199, 200, 201, 250} {
			h := rowOfObjects(side, n, pairsOf(200, 400, side), n%2 == 0)
			for _, at := range []int64{200 * side, 200*side + 198, 400, 400 + 2*int64(n) - 202} {
				if !checkStoring(t, h, at, 0, to(400)) || !checkStoring(t, h, at, 0, to(200*side)) || !checkStoring(t, h, at, 0, 2) {
					t.Fatalf("%d objects: not Stored at %d", n, at)
				}
				checkTenuring(t, h, at)
			}
		}
	})
}

// Right heaps, as they come and with many notes, and the same with something spoilt.
func TestSeeingOfManyHeaps(t *testing.T) {
	d := &dice{n: 121}
	stored, tenured, wrong, blind := 0, 0, 0, 0
	for i := range 500 {
		h := d.heap(8+2*d.roll(10), 8+2*d.roll(20), d.roll(5))
		if i%2 == 1 {
			d.noted(&h)
		}
		s, n := checkSeeing(t, d, h)
		stored, tenured = stored+s, tenured+n
		d.spoilHeap(&h)
		if wantHeapOk(h) {
			checkSeeing(t, d, h)
			continue
		}
		wrong++
		if len(wantSeenOf(h)) > 0 {
			blind++
		}
		checkNoSeeing(t, h)
	}
	if stored < 500 || tenured < 500 || wrong < 100 || blind < 10 {
		t.Fatalf("%d Stored, %d Tenured, %d wrong, of which %d are right but for Seen", stored, tenured, wrong, blind)
	}
}

func TestSeeingOfGreatHeaps(t *testing.T) {
	d := &dice{n: 12121}
	for i := range 40 {
		h := d.heap(200, 400, 40)
		if i%2 == 1 {
			d.noted(&h)
		}
		checkSeenOf(t, watchHeap(h), h.Seen)
		words := wordsFor(h)
		for _, at := range impl.Objects(h) {
			if d.roll(8) == 0 {
				checkStoring(t, h, at, d.roll(4), words[d.roll(int64(len(words)))])
				checkTenuring(t, h, at)
			}
		}
	}
}

// Answers to one heap, one beside the other, have nothing of one another; nor has a heap that is written over afterwards anything of its answers.
func TestSeeingAnswersShareNothing(t *testing.T) {
	eachSide(func(side int64) {
		s := 12 * side
		w := watchHeap(furnished(side))
		calls := []func() []int64{func() []int64 { return impl.SeenOf(w.heap) }, func() []int64 { return impl.SeenOf(impl.Heap{}) }}
		answers := []func() impl.Heap{
			func() impl.Heap { return first(impl.Stored(w.heap, 24, 0, 2)) },
			func() impl.Heap { return first(impl.Stored(w.heap, 40, 0, to(s))) },
			func() impl.Heap { return first(impl.Stored(w.heap, s, 0, to(s))) },
			func() impl.Heap { return first(impl.Stored(w.heap, 28, 0, 2)) },
			func() impl.Heap { return first(impl.Stored(w.heap, 24, 0, 0)) },
			func() impl.Heap { return first(impl.Tenured(w.heap, s)) },
			func() impl.Heap { return first(impl.Tenured(w.heap, s+6)) },
			func() impl.Heap { return first(impl.Tenured(w.heap, 24)) },
			func() impl.Heap { return first(impl.Tenured(impl.Heap{}, 0)) },
		}
		for _, call := range answers {
			calls = append(calls,
				func() []int64 { return call().Row }, func() []int64 { return call().Roots },
				func() []int64 { return call().Mourned }, func() []int64 { return call().Seen })
			checkHeapApart(t, call())
			w.check(t)
		}
		checkListsApart(t, calls, w.lists...)
		made, want := []impl.Heap{}, []impl.Heap{}
		for _, call := range answers {
			made, want = append(made, call()), append(want, clonedHeap(call()))
		}
		seen := impl.SeenOf(w.heap)
		checkHeapApart(t, w.heap)
		for i := range made {
			if !sameHeap(made[i], want[i]) {
				t.Fatalf("the heap, written into, changes answer %d: %+v, want %+v", i, made[i], want[i])
			}
		}
		if !slices.Equal(seen, []int64{24, 32}) {
			t.Fatalf("the heap, written into, changes what SeenOf told: %v", seen)
		}
	})
}
