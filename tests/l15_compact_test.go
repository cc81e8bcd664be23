package tests

import (
	"math"
	"slices"
	"testing"

	"loop.example/g00337/impl"
)

func TestPushingOfNewHeaps(t *testing.T) {
	for _, c := range [][3]int64{{8, 8, 0}, {8, 10, 3}, {200, 400, 65535}, {200, 8, 1}, {8, 400, 77}} {
		h, _ := impl.NewHeap(c[0], c[1], c[2])
		for range 2 {
			checkSwept(t, watchHeap(h), h)
			checkCompacted(t, watchHeap(h), h)
			checkPushing(t, h)
			h.Side = 1
		}
	}
}

// In what is furnished a Slot leads to a note: it is as it is by both. Straight it is Swept, but not Compacted, as notes are upstairs.
func TestFurnishedPushedByHand(t *testing.T) {
	eachSide(func(side int64) {
		s := 12 * side
		h := furnished(side)
		checkSwept(t, watchHeap(h), h)
		checkCompacted(t, watchHeap(h), h)
		checkPushing(t, h)
		h = impl.Straightened(h)
		checkCompacted(t, watchHeap(h), h)
		want := heapOf(12, 30, side, joined(
			[]int64{2, to(40), to(24), 4},
			[]int64{1, 2},
			[]int64{65 + 512*7 + 65536*9, num(5)},
		), joined(
			[]int64{pinned + 130, to(s), 2, 0},
			free(8),
			[]int64{0, 4},
			free(2),
			[]int64{3, to(s + 6), num(-7), to(36)},
		))
		want.Roots = []int64{to(s), to(24), num(3), 2, to(36), to(40)}
		want.Mourned = []int64{to(24), to(s + 6), to(24)}
		want.Seen = []int64{24, 40}
		checkSwept(t, watchHeap(h), want)
		checkPushing(t, h)
		then := heapOf(12, 30, side, joined(
			[]int64{2, to(30), to(24), 4},
			[]int64{1, 2},
			[]int64{65 + 512*7 + 65536*9, num(5)},
		), joined(
			[]int64{pinned + 130, to(s), 2, 0},
			[]int64{0, 4},
			[]int64{3, to(s + 6), num(-7), to(28)},
		))
		then.Roots = []int64{to(s), to(24), num(3), 2, to(28), to(30)}
		then.Mourned = []int64{to(24), to(s + 6), to(24)}
		then.Seen = []int64{24, 30}
		checkCompacted(t, watchHeap(want), then)
		checkPushing(t, want)
	})
}

func TestPushingWithNothingUpstairs(t *testing.T) {
	eachRoom(func(side, s, n int64) {
		both := joined(one(1, to(s), num(3)), one(2))
		checkSameCases(t, side, impl.Swept, []sameCase{
			{"nothing below", layout{}},
			{"all of the room is of Marks", layout{below: both, roots: []int64{to(s), to(s + 4)}}},
			{"by Mourned", layout{below: both, mourned: []int64{to(s + 4), to(s)}}},
		})
		checkSameCases(t, side, impl.Compacted, []sameCase{
			{"nothing below", layout{}},
			{"of Marks", layout{below: both, roots: []int64{to(s), to(s + 4)}}},
			{"of none", layout{below: both}},
			{"a note in the room to which nothing leads", layout{below: joined(note(s+2), one(2)), roots: []int64{to(s + 2)}}},
		})
		checkPushCases(t, side, impl.Swept, []pushCase{
			{"one of two is not of Marks", layout{below: both, roots: []int64{to(s)}}, layout{below: joined(one(1, to(s), num(3)), blank(0)), roots: []int64{to(s)}}, nil},
			{"the other one", layout{below: both, roots: []int64{to(s + 4)}}, layout{below: joined(blank(2), one(2)), roots: []int64{to(s + 4)}}, nil},
			{"neither is", layout{below: both}, layout{below: joined(blank(2), blank(0))}, nil},
		})
		// What is free is one chunk then, whatever lay in it: Swept lets one that is alone be as it was.
		for _, above := range [][]int64{joined(free(2), free(58)), joined(free(20, 9, 9), free(20, 8), free(20, 7, 7, 7)), joined(free(58, 5), free(2))} {
			all := layout{above: free(60)}
			checkPushCases(t, side, impl.Swept, []pushCase{{"free chunks that meet", layout{above: above}, all, nil}})
			checkPushCases(t, side, impl.Compacted, []pushCase{{"free chunks that meet", layout{above: above}, all, nil}})
		}
		checkSameCases(t, side, impl.Swept, []sameCase{{"one free chunk with something in it", layout{above: free(60, 4, 8, -1)}}})
		checkPushCases(t, side, impl.Compacted, []pushCase{{"one free chunk with something in it", layout{above: free(60, 4, 8, -1)}, layout{above: free(60)}, nil}})
	})
}

// fullHouse has all of its words taken by objects of two words, each of which leads to the next in this order, the last one to the first.
func fullHouse(half, old, side int64, places []int64) impl.Heap {
	h := heapOf(half, old, side, zeros(int(half)), zeros(int(old)))
	for i, at := range places {
		h.Row[at], h.Row[at+1] = 1+65536*int64(i), to(places[(i+1)%len(places)])
	}
	rightSeen(&h)
	return h
}

func TestPushingWithNothingFree(t *testing.T) {
	d := &dice{n: 15}
	for _, c := range [][2]int64{{8, 8}, {10, 30}, {100, 8}, {8, 300}, {200, 400}} {
		eachSide(func(side int64) {
			d.eachOrder(pairsOf(c[0], c[1], side), func(places []int64) {
				h := fullHouse(c[0], c[1], side, places)
				checkCompacted(t, watchHeap(h), h)
				// Nobody leads to any: all upstairs is free, and the room says nothing.
				none := heapOf(c[0], c[1], side, slices.Repeat(blank(1), int(c[0]/2)), nil)
				checkSwept(t, watchHeap(h), none)
				h.Roots[5] = to(places[len(places)/2])
				checkSwept(t, watchHeap(h), h)
				checkCompacted(t, watchHeap(h), h)
				checkPushes(t, h)
				checkSweeps(t, h)
			})
		})
	}
}

// A Root, one of Mourned, or a Slot of any object, also of one that nobody leads to, leads to a note: both are as it is. Where it leads to the object, both do what they can.
func TestPushingOfWhatIsNotStraight(t *testing.T) {
	eachRoom(func(side, s, n int64) {
		places := map[string]func(h *impl.Heap) *int64{
			"a Root":                       func(h *impl.Heap) *int64 { return &h.Roots[3] },
			"the last Root":                func(h *impl.Heap) *int64 { return &h.Roots[5] },
			"the first of Mourned":         func(h *impl.Heap) *int64 { return &h.Mourned[0] },
			"the last of Mourned":          func(h *impl.Heap) *int64 { return &h.Mourned[1] },
			"the first Slot, in the room":  func(h *impl.Heap) *int64 { return &h.Row[s+1] },
			"the second Slot, in the room": func(h *impl.Heap) *int64 { return &h.Row[s+2] },
			"one not of Marks in the room": func(h *impl.Heap) *int64 { return &h.Row[s+9] },
			"a Slot upstairs":              func(h *impl.Heap) *int64 { return &h.Row[55] },
			"one not of Marks upstairs":    func(h *impl.Heap) *int64 { return &h.Row[49] },
			"a Slot of a Pinned one":       func(h *impl.Heap) *int64 { return &h.Row[59] },
			"a Slot of a FoWeak one":       func(h *impl.Heap) *int64 { return &h.Row[61] },
			"a Slot of a FoEphem one":      func(h *impl.Heap) *int64 { return &h.Row[63] },
		}
		low := joined(one(1, 2, 2), note(56), note(s+4), one(2, 2))
		high := joined(one(3, 2), free(4), one(4, 2), one(5), nailed(one(6, 2)), weakOne(7, 2), ephemOne(8, 2))
		all := []int64{to(s), to(54), to(56), 2, to(58), 2}
		for name, place := range places {
			for _, above := range [][]int64{high, joined(high, note(56)), joined(high, note(56), note(64))} {
				h := layout{below: low, above: above, roots: all, mourned: []int64{to(60), to(62)}}.heap(side)
				*place(&h) = to(56)
				checkBoth(t, name, h, true)
				if sameHeap(impl.Swept(h), h) || sameHeap(impl.Compacted(h), h) != (len(above) > len(high)) {
					t.Fatalf("%s, straight:\n%+v\nSwept\n%+v\nCompacted\n%+v", name, h, impl.Swept(h), impl.Compacted(h))
				}
				checkPushing(t, h)
				for _, at := range []int64{s + 4, s + 6, 64, 66} {
					if at >= 48+int64(len(above)) {
						continue
					}
					*place(&h) = to(at)
					rightSeen(&h)
					checkBoth(t, name, h, true)
					checkSwept(t, watchHeap(h), h)
					checkCompacted(t, watchHeap(h), h)
					checkPushing(t, h)
				}
			}
		}
	})
}

// Each Slot of one with 20 Slots leads to a note, in the room and upstairs.
func TestPushingOfOneSlotThatIsNotStraight(t *testing.T) {
	eachRoom(func(side, s, n int64) {
		for i := range 20 {
			up, low := twos(20), twos(20)
			up[i], low[i] = to(s+22), to(50)
			for _, was := range []layout{
				{below: joined(blank(19), blank(0), note(54)), above: joined(free(6), one(1, up...))},
				{below: one(1, low...), above: joined(one(2), note(s)), roots: []int64{to(s)}},
			} {
				h := was.heap(side)
				checkBoth(t, "one Slot", h, true)
				checkSwept(t, watchHeap(h), h)
				checkCompacted(t, watchHeap(h), h)
				checkPushing(t, h)
			}
		}
	})
}

// A note in the room to which nothing leads: for Swept it is an object that says nothing, for Compacted it leads to where the one is to which it led.
func TestPushingWithNotes(t *testing.T) {
	eachRoom(func(side, s, n int64) {
		up := []int64{to(54)}
		checkPushCases(t, side, impl.Swept, []pushCase{
			{"a note in the room", layout{below: note(54), above: joined(free(6), one(1)), roots: up}, layout{below: blank(0), above: joined(free(6), one(1)), roots: up}, nil},
			{"with Slots and more in its head", layout{below: []int64{noteHead + 3 + 512*9 + 65536*7, to(54), 9, -9}, above: joined(free(6), one(1)), roots: up}, layout{below: blank(3), above: joined(free(6), one(1)), roots: up}, nil},
			{"that leads to a note", layout{below: joined(note(s+2), note(54)), above: joined(free(6), one(1)), roots: up}, layout{below: joined(blank(0), blank(0)), above: joined(free(6), one(1)), roots: up}, nil},
			{"that leads to one not of Marks", layout{below: note(54), above: joined(free(6), one(1), one(2)), roots: []int64{to(56)}}, layout{below: blank(0), above: joined(free(8), one(2)), roots: []int64{to(56)}}, nil},
			{"a note upstairs", layout{below: one(2), above: joined(note(54), free(4), one(1)), roots: up}, layout{below: blank(0), above: joined(free(6), one(1)), roots: up}, nil},
			{"a note upstairs that is Seen", layout{below: one(2), above: joined(note(s), free(4), one(1)), roots: []int64{to(54), to(s)}}, layout{below: one(2), above: joined(free(6), one(1)), roots: []int64{to(54), to(s)}}, nil},
			{"a Pinned note", layout{above: joined(one(1), nailed([]int64{noteHead + 4, to(48), 3, 3, 3, 3}), one(2)), roots: []int64{to(48), to(56)}}, layout{above: joined(one(1), free(6), one(2)), roots: []int64{to(48), to(56)}}, nil},
			{"notes upstairs, one after the other", layout{above: joined(note(50), note(52), one(1), note(48)), roots: []int64{to(52)}}, layout{above: joined(free(4), one(1)), roots: []int64{to(52)}}, nil},
			{"a note in the room that leads over one upstairs to one below", layout{below: joined(note(48), one(2)), above: note(s + 2), roots: []int64{to(s + 2)}}, layout{below: joined(blank(0), one(2)), roots: []int64{to(s + 2)}}, nil},
		})
		checkPushCases(t, side, impl.Compacted, []pushCase{
			{"a note in the room", layout{below: note(54), above: joined(free(6), one(1)), roots: up}, layout{below: note(48), above: one(1), roots: []int64{to(48)}}, nil},
			{"with Slots and more in its head", layout{below: []int64{noteHead + 3 + 512*9 + 65536*7, to(54), to(54), to(54)}, above: joined(free(6), one(1))}, layout{below: []int64{noteHead + 3 + 512*9 + 65536*7, to(48), to(54), to(54)}, above: one(1)}, nil},
			{"that leads to a note", layout{below: joined(note(s+2), note(54)), above: joined(free(6), one(1))}, layout{below: joined(note(s+2), note(48)), above: one(1)}, nil},
			{"that leads to a Pinned one", layout{below: note(56), above: joined(free(6), one(1), nailed(one(2)), free(2), one(3))}, layout{below: note(56), above: joined(one(1), free(6), nailed(one(2)), one(3))}, nil},
			{"that leads to one below", layout{below: joined(note(s+2), one(2, to(54))), above: joined(free(6), one(1))}, layout{below: joined(note(s+2), one(2, to(48))), above: one(1)}, nil},
		})
		for _, above := range [][]int64{joined(free(6), one(1), note(54)), joined(note(56), free(6), one(1)), joined(free(2), nailed(note(s)), one(1)), joined(free(2), []int64{noteHead + 3, to(54), 2, 2}, one(1)), joined(free(2), note(s+2), one(1))} {
			checkSameCases(t, side, impl.Compacted, []sameCase{
				{"a note upstairs", layout{below: joined(one(2), one(3)), above: above}},
				{"a note upstairs, and Roots that lead below", layout{below: joined(one(2), one(3)), above: above, roots: []int64{to(s), to(s + 2)}}},
			})
		}
	})
}

// A Slot of one of Marks that leads to one that is not: Swept is as it is, Compacted does what it does.
func TestSweptOfWhatIsNotClosed(t *testing.T) {
	eachRoom(func(side, s, n int64) {
		gone := joined(one(8), free(4), one(9))
		from := []int64{to(s)}
		checkSameCases(t, side, impl.Swept, []sameCase{
			{"a FoWeak one's", layout{below: weakOne(1, to(48)), above: gone, roots: from}},
			{"a FoWeak one's last", layout{below: weakOne(1, 2, num(1), to(s), to(48)), above: gone, roots: from}},
			{"a FoWeak one's that leads below", layout{below: joined(weakOne(1, to(s+2)), one(2)), above: gone, roots: from}},
			{"a FoWeak one's, upstairs", layout{below: one(2), above: joined(weakOne(1, to(50)), gone), roots: []int64{to(48)}}},
			{"a FoWeak one's, upstairs, that leads below", layout{below: one(2), above: joined(gone, weakOne(1, to(s))), mourned: []int64{to(56)}}},
			{"a Pinned FoWeak one's", layout{above: joined(nailed(weakOne(1, to(50))), gone), roots: []int64{to(48)}}},
			{"one of two FoWeak ones'", layout{below: joined(weakOne(1, to(s)), weakOne(2, to(54))), above: gone, roots: []int64{to(s), to(s + 2)}}},
			{"a FoWeak one's that leads to a FoWeak one", layout{below: joined(weakOne(1, to(s+2)), weakOne(2, 2)), above: gone, roots: from}},
			{"a FoEphem one's first", layout{below: ephemOne(1, to(48)), above: gone, roots: from}},
			{"a FoEphem one's first, and others", layout{below: ephemOne(1, to(48), to(54), to(s)), above: gone, roots: from}},
			{"a FoEphem one's first that leads below", layout{below: joined(ephemOne(1, to(s+2)), one(2)), above: gone, roots: from}},
			{"a FoEphem one's, upstairs", layout{above: joined(gone, ephemOne(1, to(48), 2)), mourned: []int64{to(56)}}},
			{"two FoEphem ones that wait for one another", layout{below: joined(ephemOne(1, to(s+2)), ephemOne(2, to(s))), above: gone, roots: from}},
		})
		checkPushCases(t, side, impl.Swept, []pushCase{
			{"a FoWeak one not of Marks", layout{below: joined(one(1), weakOne(2, to(48))), above: gone, roots: from}, layout{below: joined(one(1), blank(1)), roots: from}, nil},
			{"a FoWeak one that leads to one of Marks", layout{below: weakOne(1, to(48)), above: gone, roots: []int64{to(s), to(48)}}, layout{below: weakOne(1, to(48)), above: one(8), roots: []int64{to(s), to(48)}}, nil},
			{"a FoWeak one that leads to itself", layout{below: weakOne(1, to(s), num(48), 2), above: gone, roots: from}, layout{below: weakOne(1, to(s), num(48), 2), roots: from}, nil},
			{"a FoEphem one not of Marks", layout{below: joined(one(1), ephemOne(2, to(48), to(s))), above: gone, roots: from}, layout{below: joined(one(1), blank(2)), roots: from}, nil},
			{"a FoEphem one that waits for one of Marks", layout{below: ephemOne(1, to(48), to(54)), above: gone, roots: []int64{to(s), to(48)}}, layout{below: ephemOne(1, to(48), to(54)), above: gone, roots: []int64{to(s), to(48)}}, nil},
			{"a FoEphem one that waits for itself", layout{below: ephemOne(1, to(s), to(54)), above: gone, roots: from}, layout{below: ephemOne(1, to(s), to(54)), above: joined(free(6), one(9)), roots: from}, nil},
			{"a FoEphem one that waits for nobody", layout{below: ephemOne(1, num(1), to(54)), above: gone, roots: from}, layout{below: ephemOne(1, num(1), to(54)), above: joined(free(6), one(9)), roots: from}, nil},
			{"what is left over leads nowhere", layout{below: []int64{2, 2, 2, to(48)}, above: gone, roots: from}, layout{below: []int64{2, 2, 2, to(48)}, roots: from}, nil},
		})
	})
}

// formed are heads of every Format with so many Slots, where there are such.
func formed(slots int64) []impl.Head {
	list := []impl.Head{}
	for _, format := range []int64{0, 1, 2, 7} {
		if format != 2 || slots > 0 {
			list = append(list, impl.Head{Slots: slots, Format: format, Class: 99, Hash: 65535}, impl.Head{Slots: slots, Format: format})
		}
	}
	return list
}

// between is what lies upstairs around one that is not of Marks: free chunks, and objects to which Roots lead.
type between struct {
	first, ahead, behind, last []int64
}

// eachBetween goes through what may lie around it, at the beginning, at the end, and between two that are of Marks.
func eachBetween(look func(b between)) {
	for _, first := range [][]int64{nil, one(1, to(48))} {
		for _, ahead := range [][]int64{nil, free(2), free(6, 5), joined(free(2), free(4, 7, 7))} {
			for _, behind := range [][]int64{nil, free(2), free(4, 9)} {
				for _, last := range [][]int64{nil, one(2)} {
					look(between{first, ahead, behind, last})
				}
			}
		}
	}
}

// heap has this body between all that, and Roots that lead to those of Marks.
func (b between) heap(side int64, below, body []int64) impl.Heap {
	above := joined(b.first, body, b.last)
	h := heapOf(24, max(8, int64(len(above))), side, below, above)
	if len(b.first) > 0 {
		h.Roots[1] = to(48)
	}
	if len(b.last) > 0 {
		h.Roots[4] = to(48 + int64(len(above)-len(b.last)))
	}
	rightSeen(&h)
	return h
}

// What is not of Marks upstairs, of every Format, Pinned or not: at the beginning, at the end, between two that are, beside free chunks.
func TestSweptUpstairs(t *testing.T) {
	for _, slots := range []int64{0, 1, 2, 3, 19, 20} {
		for i, head := range formed(slots) {
			eachRoom(func(side, s, n int64) {
				head.Pinned = (i/2+int(side))%2 == 0
				eachBetween(func(b between) {
					body := headed(head, s)
					h := b.heap(side, one(3), joined(b.ahead, body, b.behind))
					gone := free(len(b.ahead) + len(body) + len(b.behind))
					if left := len(h.Row) - 48 - len(b.first) - len(gone); len(b.last) == 0 && left > 0 {
						gone = free(len(gone) + left)
					}
					checkBoth(t, "not of Marks", h, true)
					checkSwept(t, watchHeap(h), b.heap(side, blank(0), gone))
					if head.Class > 0 {
						checkPushing(t, h)
					}
				})
			})
		}
	}
}

// What is not of Marks in the room, of every Format and with each number of Slots: at the beginning, at the end, between two that are.
func TestSweptInTheRoom(t *testing.T) {
	for slots := range int64(21) {
		for _, head := range formed(slots) {
			eachRoom(func(side, s, n int64) {
				body := headed(head, 48)
				end := s + int64(len(body))
				above := one(9)
				for _, left := range []int64{0, 4, to(s), 9, -9, math.MinInt64} {
					// Where a word is left over it says nothing, whatever it is.
					if slots%2 == 0 && (slots > 0 || head.Format != 7) {
						body[len(body)-1] = left
					}
					checkPushCases(t, side, impl.Swept, []pushCase{
						{"alone", layout{below: body, above: above}, layout{below: blank(slots)}, nil},
						{"alone, and upstairs is of Marks", layout{below: body, above: above, roots: []int64{to(48)}}, layout{below: blank(slots), above: above, roots: []int64{to(48)}}, nil},
						{"at the beginning", layout{below: joined(body, one(1)), above: above, roots: []int64{to(end)}}, layout{below: joined(blank(slots), one(1)), roots: []int64{to(end)}}, nil},
						{"at the end", layout{below: joined(one(1), body), above: above, roots: []int64{to(s)}}, layout{below: joined(one(1), blank(slots)), roots: []int64{to(s)}}, nil},
					})
				}
				if slots < 20 {
					checkPushCases(t, side, impl.Swept, []pushCase{
						{"between", layout{below: joined(one(1), body, one(2)), above: above, roots: []int64{to(s), to(end + 2)}}, layout{below: joined(one(1), blank(slots), one(2)), roots: []int64{to(s), to(end + 2)}}, nil},
						{"on both sides of one", layout{below: joined(one(1), one(2), body), above: above, roots: []int64{to(s + 2)}}, layout{below: joined(blank(0), one(2), blank(slots)), roots: []int64{to(s + 2)}}, nil},
					})
				}
			})
		}
	}
}

func TestSweptByHand(t *testing.T) {
	eachRoom(func(side, s, n int64) {
		low := joined(one(1), one(2))
		checkPushCases(t, side, impl.Swept, []pushCase{
			{"who is gone is Seen no more", layout{below: low, above: joined(one(3, to(s)), one(4, to(s))), roots: []int64{to(50)}}, layout{below: joined(one(1), blank(0)), above: joined(free(2), one(4, to(s))), roots: []int64{to(50)}}, []int64{50}},
			{"all that were Seen are gone", layout{below: low, above: joined(one(3, to(s)), one(4, to(s+2))), roots: []int64{to(s)}}, layout{below: joined(one(1), blank(0)), roots: []int64{to(s)}}, nil},
			{"all that were Seen stay", layout{below: low, above: joined(one(3, to(s)), one(5), one(4, to(s+2))), mourned: []int64{to(48), to(52)}}, layout{below: low, above: joined(one(3, to(s)), free(2), one(4, to(s+2))), mourned: []int64{to(48), to(52)}}, []int64{48, 52}},
			{"Pinned ones stay", layout{below: low, above: joined(nailed(one(3, to(s))), one(5), nailed(one(4, to(48)))), roots: []int64{to(52)}}, layout{below: joined(one(1), blank(0)), above: joined(nailed(one(3, to(s))), free(2), nailed(one(4, to(48)))), roots: []int64{to(52)}}, []int64{48}},
			{"Pinned ones go", layout{above: joined(nailed(one(3)), free(2), nailed(one(4, to(48), 2)), one(5)), roots: []int64{to(56)}}, layout{above: joined(free(8), one(5)), roots: []int64{to(56)}}, nil},
			{"a ring that nobody leads to", layout{below: one(1, to(48)), above: joined(one(2, to(50)), one(3, to(s)))}, layout{below: blank(1)}, nil},
			{"a ring that a Root leads to", layout{below: one(1, to(48)), above: joined(one(2, to(50)), one(3, to(s))), roots: []int64{2, 2, to(50)}}, layout{below: one(1, to(48)), above: joined(one(2, to(50)), one(3, to(s))), roots: []int64{2, 2, to(50)}}, []int64{50}},
			{"one that only one not of Marks leads to", layout{below: one(1), above: joined(one(2, to(50)), one(3), one(4)), roots: []int64{to(52)}}, layout{below: blank(0), above: joined(free(4), one(4)), roots: []int64{to(52)}}, nil},
			{"numbers that are places", layout{below: low, above: joined(one(3), one(4, num(48), num(s))), roots: []int64{num(48), to(50), num(s)}}, layout{below: joined(blank(0), blank(0)), above: joined(free(2), one(4, num(48), num(s))), roots: []int64{num(48), to(50), num(s)}}, nil},
			{"free chunks that meet, and nothing else", layout{above: joined(one(1), free(2), free(4, 9), one(2), free(2), free(2)), roots: []int64{to(48), to(56)}}, layout{above: joined(one(1), free(6), one(2)), roots: []int64{to(48), to(56)}}, nil},
			{"a free chunk that is alone is as it was", layout{above: joined(one(1), free(6, 9, -9, 4), one(2), one(3)), roots: []int64{to(48), to(56)}}, layout{above: joined(one(1), free(6, 9, -9, 4), one(2)), roots: []int64{to(48), to(56)}}, nil},
			{"all between two free chunks with something in them", layout{above: joined(free(6, 9, 9), one(1, num(1)), one(2), free(4, 8), one(3)), roots: []int64{to(62)}}, layout{above: joined(free(14), one(3)), roots: []int64{to(62)}}, nil},
			{"the last words", layout{above: joined(one(1), free(56, 7), one(2)), roots: []int64{to(48)}}, layout{above: joined(one(1), free(58)), roots: []int64{to(48)}}, nil},
			{"what is left over of one of Marks stays", layout{above: joined(one(1), []int64{2, 2, 2, to(48)}, []int64{0, 9}), roots: []int64{to(50), to(54)}}, layout{above: joined(free(2), []int64{2, 2, 2, to(48)}, []int64{0, 9}), roots: []int64{to(50), to(54)}}, nil},
		})
	})
}

// An object is pushed down by each number of words, also by fewer than it takes.
func TestCompactedByEachGap(t *testing.T) {
	for slots := range int64(21) {
		for gap := 2; gap <= 30; gap += 2 {
			eachRoom(func(side, s, n int64) {
				at := int64(48 + gap)
				words, then := []int64{}, []int64{}
				for i := range slots {
					kinds := [][2]int64{{num(i), num(i)}, {to(at), to(48)}, {2, 2}, {to(s), to(s)}, {num(at), num(at)}}
					words, then = append(words, kinds[i%5][0]), append(then, kinds[i%5][1])
				}
				body, pushed := one(7, words...), one(7, then...)
				if slots%2 == 0 {
					// What is left over goes along, and leads nowhere.
					body[len(body)-1], pushed[len(pushed)-1] = to(at), to(at)
				}
				seen := []int64{}
				if slots > 3 {
					seen = append(seen, 48)
				}
				checkPushCases(t, side, impl.Compacted, []pushCase{
					{"one gap", layout{below: one(1, to(at), 2), above: joined(free(gap, 5), body), roots: []int64{2, to(at)}, mourned: []int64{to(at), to(s)}}, layout{below: one(1, to(48), 2), above: pushed, roots: []int64{2, to(48)}, mourned: []int64{to(48), to(s)}}, seen},
				})
				if gap > 2 {
					checkPushCases(t, side, impl.Compacted, []pushCase{
						{"two free chunks, and nobody leads to it", layout{below: one(1), above: joined(free(2), free(gap-2), body)}, layout{below: one(1), above: pushed}, seen},
					})
				}
			})
		}
	}
}

func TestCompactedByHand(t *testing.T) {
	eachRoom(func(side, s, n int64) {
		a, b, c := one(1), one(2, num(5)), one(3, num(6), 2, 2)
		three := joined(a, b, c)
		checkPushCases(t, side, impl.Compacted, []pushCase{
			{"two words ahead", layout{above: joined(free(2), three)}, layout{above: three}, nil},
			{"more ahead", layout{above: joined(free(20), three)}, layout{above: three}, nil},
			{"two words between", layout{above: joined(a, free(2), b, c)}, layout{above: three}, nil},
			{"more between", layout{above: joined(a, b, free(12), c)}, layout{above: three}, nil},
			{"between all of them", layout{above: joined(free(2), a, free(4), b, free(6), c, free(8))}, layout{above: three}, nil},
			{"all but the last words", layout{above: joined(free(52), three)}, layout{above: three}, nil},
			{"the first and the last words", layout{above: joined(a, free(52), b, c)}, layout{above: three}, nil},
			{"free chunks that meet", layout{above: joined(a, free(2), free(2), b, free(4), free(2), free(8), c)}, layout{above: three}, nil},
			{"behind alone, in pieces", layout{above: joined(three, free(2), free(44), free(6))}, layout{above: three}, nil},
		})
		checkSameCases(t, side, impl.Compacted, []sameCase{
			{"behind alone", layout{above: three}},
			{"nothing is free", layout{above: joined(three, filled(4, 19, 2), filled(5, 18, 2), filled(6, 11, 2))}},
			{"two words are free, the last", layout{above: joined(three, filled(4, 19, 2), filled(5, 18, 2), filled(6, 9, 2))}},
		})
		// Who is not of Marks goes along, and leads to where the others are.
		checkPushCases(t, side, impl.Compacted, []pushCase{
			{"nobody leads to either", layout{above: joined(free(4), one(1, to(54)), one(2, to(52)))}, layout{above: joined(one(1, to(50)), one(2, to(48)))}, nil},
			{"nobody leads to the first", layout{above: joined(free(4), one(1, to(54)), one(2, to(54))), roots: []int64{to(54)}}, layout{above: joined(one(1, to(50)), one(2, to(50))), roots: []int64{to(50)}}, nil},
			{"nobody leads to the second", layout{above: joined(free(4), one(1, to(52)), one(2, to(52))), mourned: []int64{to(52)}}, layout{above: joined(one(1, to(48)), one(2, to(48))), mourned: []int64{to(48)}}, nil},
			{"FoWeak and FoEphem ones", layout{above: joined(free(2), weakOne(1, to(52)), ephemOne(2, to(56), to(50)), one(3)), roots: []int64{to(52)}}, layout{above: joined(weakOne(1, to(50)), ephemOne(2, to(54), to(48)), one(3)), roots: []int64{to(50)}}, nil},
			{"one of the room that nobody leads to", layout{below: one(1, to(50), to(s)), above: joined(free(2), one(2))}, layout{below: one(1, to(48), to(s)), above: one(2)}, nil},
		})
	})
}

// Pinned ones are where they were; those behind them stay behind them, however much room is ahead.
func TestCompactedWithPinnedOnes(t *testing.T) {
	eachRoom(func(side, s, n int64) {
		a, b, c := one(1), one(2, num(5)), one(3, num(6), 2, 2)
		p, q := nailed(one(8)), nailed(one(9, 2, num(7)))
		checkPushCases(t, side, impl.Compacted, []pushCase{
			{"at the beginning", layout{above: joined(p, free(2), a, free(4), b)}, layout{above: joined(p, a, b)}, nil},
			{"at the end", layout{above: joined(free(2), a, free(54), p)}, layout{above: joined(a, free(56), p)}, nil},
			{"at both ends", layout{above: joined(q, free(10), a, free(42), p)}, layout{above: joined(q, a, free(52), p)}, nil},
			{"side by side", layout{above: joined(free(2), a, p, q, p, free(2), b)}, layout{above: joined(a, free(2), p, q, p, b)}, nil},
			{"in pieces on both sides", layout{above: joined(free(2), free(4), p, free(2), free(2), free(6))}, layout{above: joined(free(6), p)}, nil},
			{"room just so for the next one", layout{above: joined(free(4), p, c)}, layout{above: joined(free(4), p, c)}, nil},
			{"room just so, once those ahead are pushed", layout{above: joined(a, free(2), b, free(2), p, c)}, layout{above: joined(a, b, free(4), p, c)}, nil},
			{"two words too few for the next one", layout{above: joined(free(2), p, c, free(2), a)}, layout{above: joined(free(2), p, c, a)}, nil},
			{"much room ahead", layout{above: joined(a, free(30), p, free(2), b, c)}, layout{above: joined(a, free(30), p, b, c)}, nil},
			{"one ahead comes to lie right ahead", layout{above: joined(free(2), a, q, b)}, layout{above: joined(a, free(2), q, b)}, nil},
			{"one ahead is there already", layout{above: joined(a, q, free(2), b)}, layout{above: joined(a, q, b)}, nil},
			{"several with several between", layout{above: joined(free(2), a, free(2), p, free(2), b, free(2), c, q, free(4), a, free(2), b, p, free(2), c)}, layout{above: joined(a, free(4), p, b, c, free(4), q, a, b, free(6), p, c)}, nil},
			{"two with a gap between, in pieces", layout{above: joined(p, free(2, 9), free(4, 8, 8), p, free(2), a)}, layout{above: joined(p, free(6), p, a)}, nil},
		})
		checkSameCases(t, side, impl.Compacted, []sameCase{
			{"nothing but one", layout{above: joined(free(20), p)}},
			{"nothing but one, the first", layout{above: p}},
			{"nothing but one, the last", layout{above: joined(free(58), p)}},
			{"gaps of two between them", layout{above: joined(p, free(2), p, free(2), q, free(2), p)}},
			{"side by side", layout{above: joined(free(8), p, q, p, q)}},
		})
	})
}

// Slots in the room and upstairs, Roots, Mourned and what is Seen, that lead to one that goes elsewhere, one that stays, a Pinned one, to itself.
func TestCompactedLeadsToWhereItIs(t *testing.T) {
	eachRoom(func(side, s, n int64) {
		// At 48 one stays, at 52 one goes to 50, at 56 is a Pinned one, at 60 one goes to 58, at 64 one to 60.
		was := []int64{to(s), to(48), to(52), to(56), to(60), to(64), 2, num(52)}
		then := []int64{to(s), to(48), to(50), to(56), to(58), to(60), 2, num(52)}
		above := func(w int64, places [4]int, list []int64) []int64 {
			slot := func(i int) int64 {
				if places[i] < 0 {
					return w
				}
				return list[places[i]]
			}
			return joined(one(1, slot(0)), free(2), one(2, slot(1)), free(2), nailed(one(3, slot(2))), free(2), one(4, slot(3)), free(2), one(5))
		}
		pushed := func(w int64, places [4]int, list []int64) []int64 {
			whole := above(w, places, list)
			return joined(whole[:2], whole[4:6], free(4), whole[8:10], whole[12:14], whole[16:18])
		}
		for i, w := range was {
			for j := range was {
				places := [4]int{-1, j, (j + 3) % 8, (j + 5) % 8}
				old := layout{below: one(6, w, was[j], to(s)), above: above(w, places, was), roots: []int64{w, 2, was[j], to(64), w}, mourned: []int64{to(60), to(56)}}
				now := layout{below: one(6, then[i], then[j], to(s)), above: pushed(then[i], places, then), roots: []int64{then[i], 2, then[j], to(60), then[i]}, mourned: []int64{to(58), to(56)}}
				if leadsByHand(w) {
					old.mourned, now.mourned = append(old.mourned, w), append(now.mourned, then[i])
				}
				checkPushCases(t, side, impl.Compacted, []pushCase{{"each word", old, now, now.heap(side).Seen}})
			}
		}
		checkPushCases(t, side, impl.Compacted, []pushCase{
			{"to itself", layout{above: joined(free(2), one(1, to(50), 2, to(50)))}, layout{above: one(1, to(48), 2, to(48))}, nil},
			{"Seen are those that go", layout{below: one(9), above: joined(free(2), one(1, to(s)), free(2), one(2), one(3, to(s)))}, layout{below: one(9), above: joined(one(1, to(s)), one(2), one(3, to(s)))}, []int64{48, 52}},
			{"Seen are those that stay", layout{below: one(9), above: joined(one(1, to(s)), free(2), one(2), nailed(one(3, to(s))), one(4, to(s)))}, layout{below: one(9), above: joined(one(1, to(s)), one(2), free(2), nailed(one(3, to(s))), one(4, to(s)))}, []int64{48, 54, 56}},
			{"where one was another one is", layout{above: joined(free(2), one(1, to(52)), one(2, to(54)), one(3, to(50))), roots: []int64{to(50), to(52), to(54)}}, layout{above: joined(one(1, to(50)), one(2, to(52)), one(3, to(48))), roots: []int64{to(48), to(50), to(52)}}, nil},
		})
	})
}

// furnishWords lets each Slot, each note of the room, Roots and Mourned lead to something, never to a note.
func (d *dice) furnishWords(h *impl.Heap) {
	list, _ := piecesOf(*h)
	held := slices.DeleteFunc(slices.Clone(list), func(p piece) bool { return p.isFree() || p.isNote() })
	for _, p := range list {
		for i := range p.words {
			p.words[i] = d.word(held)
			if p.isNote() {
				p.words[i] = to(held[d.roll(int64(len(held)))].at)
			}
		}
	}
	for i := range h.Roots {
		h.Roots[i] = d.word(held)
	}
	for i := range h.Mourned {
		h.Mourned[i] = to(held[d.roll(int64(len(held)))].at)
	}
	rightSeen(h)
}

// All rows of up to five free chunks, objects and Pinned ones upstairs.
func TestCompactedOfEveryRow(t *testing.T) {
	d := &dice{n: 151}
	pieces := [][]int64{free(2), free(6), one(1), one(2, 2, 2), nailed(one(3, 2)), nailed(one(4, 2, 2, 2))}
	pushed := 0
	for n := range 6 {
		eachRowOf(n, pieces, func(row []int64) {
			side := d.roll(2)
			h := heapOf(8, max(8, int64(len(row))), side, joined(one(5, 2, 2), note(8*side)), row)
			h.Mourned = slices.Repeat([]int64{to(8 * side)}, int(d.roll(3)))
			d.furnishWords(&h)
			want := wantCompacted(h)
			checkCompacted(t, watchHeap(h), want)
			checkPushes(t, h)
			if !slices.Equal(want.Row[16:], h.Row[16:]) {
				pushed++
			}
		})
	}
	if pushed < 4000 {
		t.Fatalf("of only %d something is pushed", pushed)
	}
}

// All rows of up to four free chunks, objects, Pinned ones and notes upstairs, with words by dice: so some of them are of Marks.
func TestSweptOfEveryRow(t *testing.T) {
	d := &dice{n: 152}
	pieces := [][]int64{free(2), free(6, 7), one(1, 2), weakOne(2, 2, 2), nailed(one(3, 2)), ephemOne(4, 2, 2), {noteHead + 2, 4, 4, 4}}
	swept, pushed := 0, 0
	for n := range 5 {
		eachRowOf(n, pieces, func(row []int64) {
			side := d.roll(2)
			h := heapOf(12, max(8, int64(len(row))), side, joined(one(5, 2, 2), note(12*side), weakOne(6, 2)), row)
			d.furnishWords(&h)
			for i := range h.Roots {
				if i > 0 {
					h.Roots[i] = 2
				}
			}
			checkPushing(t, h)
			ready := impl.Nilled(impl.Grieved(h))
			checkPushing(t, ready)
			made := impl.Swept(ready)
			if !sameHeap(made, ready) {
				swept++
			}
			if !sameHeap(impl.Compacted(made), made) {
				pushed++
			}
		})
	}
	if swept < 2000 || pushed < 500 {
		t.Fatalf("only %d are Swept, and of %d something is pushed", swept, pushed)
	}
}

// Every second one of two words is free, or not of Marks: then all that is left lies at the beginning.
func TestPushingOfManySmallGaps(t *testing.T) {
	for _, old := range []int64{8, 12, 100, 400} {
		eachRoom(func(side, s, n int64) {
			for first := range int64(2) {
				h := heapOf(24, old, side, one(9, to(48+2*first)), zeros(int(old)))
				want := heapOf(24, old, side, one(9, to(48)), zeros(int(old/4*2)))
				h.Roots[0], want.Roots[0] = to(s), to(s)
				loose := clonedHeap(h)
				count := int64(0)
				for at := int64(48); at < 48+old; at += 2 {
					copy(h.Row[at:], free(2))
					copy(loose.Row[at:], one(7, to(s)))
					if (at/2-24)%2 == first && count < old/4 {
						copy(h.Row[at:], one(count, to(min(at+4, 48+2*first+4*(old/4-1)))))
						copy(loose.Row[at:], h.Row[at:at+2])
						copy(want.Row[48+2*count:], one(count, to(48+2*min(count+1, old/4-1))))
						count++
					}
				}
				rightSeen(&h)
				rightSeen(&loose)
				checkBoth(t, "gaps", h, true)
				checkCompacted(t, watchHeap(h), want)
				checkBoth(t, "not of Marks", loose, true)
				swept := coalescedUpstairs(h)
				checkSwept(t, watchHeap(loose), swept)
				checkCompacted(t, watchHeap(swept), want)
				checkPushes(t, h)
				checkSweeps(t, loose)
			}
		})
	}
}

// coalescedUpstairs is the heap with all free chunks upstairs that meet made one.
func coalescedUpstairs(h impl.Heap) impl.Heap {
	made := clonedHeap(h)
	layUpstairs(&made, settle(blocksOf(made), false))
	return made
}

// Each Root, each of Mourned, each Slot and each note of what is furnished, with every word that it may be, where notes are there still or not.
func TestPushingWithOneWordChanged(t *testing.T) {
	eachSide(func(side int64) {
		right, swept, pushed := 0, 0, 0
		for _, place := range wordPlaces(side) {
			for _, word := range rightWords(side) {
				for kind := range 4 {
					h := furnished(side)
					h.Roots, h.Mourned = six(2, to(40)), slices.Repeat([]int64{to(36)}, 3)
					*place(&h) = word
					rightSeen(&h)
					if !wantHeapOk(h) {
						checkNoPushing(t, h)
						continue
					}
					if kind&1 != 0 {
						withoutNotes(&h)
					}
					if kind&2 != 0 {
						h = impl.Straightened(h)
					}
					right++
					checkPushing(t, h)
					checkReady(t, h)
					if !sameHeap(impl.Swept(h), h) {
						swept++
					}
					if !sameHeap(impl.Compacted(h), h) {
						pushed++
					}
				}
			}
		}
		if right < 400 || swept < 100 || pushed < 100 {
			t.Fatalf("only %d are right, %d are Swept, %d are pushed", right, swept, pushed)
		}
	})
}

func TestPushingOfWrongHeaps(t *testing.T) {
	eachSide(func(side int64) {
		eachSpoilt(t, side, func(h impl.Heap) { checkNoPushing(t, h) })
		// Straight, and with something to do, but for one thing that is wrong.
		for _, spoilt := range []func(h *impl.Heap){
			func(h *impl.Heap) { h.Seen = nil },
			func(h *impl.Heap) { h.Roots[0] = to(48) },
			func(h *impl.Heap) { h.Row[51] = to(51) },
			func(h *impl.Heap) { h.Row[49] = 3 },
			func(h *impl.Heap) { h.Row[50] += marked },
			func(h *impl.Heap) { h.Seed = 65536 },
		} {
			h := layout{below: one(1), above: joined(free(2), one(2, to(24*side)), one(3)), roots: []int64{to(50)}}.heap(side)
			checkBoth(t, "right", h, true)
			if sameHeap(impl.Swept(h), h) || sameHeap(impl.Compacted(h), h) {
				t.Fatalf("nothing is done: %+v", h)
			}
			spoilt(&h)
			checkBoth(t, "spoilt", h, false)
			checkNoPushing(t, h)
		}
	})
	checkNoPushing(t, impl.Heap{})
}

// Right heaps, as they come, with and without notes upstairs, Pinned ones, and words that lead to notes; and the same with something spoilt.
func TestPushingOfManyHeaps(t *testing.T) {
	d := &dice{n: 1515}
	swept, pushed, wrong := 0, 0, 0
	for i := range 900 {
		h := d.heap(8+2*d.roll(10), 8+2*d.roll(20), d.roll(3))
		if i%5 == 1 {
			d.noted(&h)
		}
		if i%3 > 0 {
			d.thin(&h)
		}
		if i%2 > 0 {
			withoutNotes(&h)
		}
		if i%4 > 1 {
			unnailed(&h)
		}
		if i%7 > 0 {
			h = impl.Straightened(h)
		}
		checkPushing(t, h)
		checkReady(t, h)
		if !sameHeap(impl.Swept(h), h) {
			swept++
		}
		if !sameHeap(impl.Compacted(h), h) {
			pushed++
		}
		d.spoilHeap(&h)
		if !wantHeapOk(h) {
			wrong++
			checkNoPushing(t, h)
		}
	}
	if swept < 200 || pushed < 200 || wrong < 200 {
		t.Fatalf("%d are Swept, %d are pushed, %d are wrong", swept, pushed, wrong)
	}
}

func TestPushingOfGreatHeaps(t *testing.T) {
	d := &dice{n: 151515}
	for i := range 12 {
		h := d.heap(200, 400, []int64{0, 37, 40}[d.roll(3)])
		if i%2 == 1 {
			d.thin(&h)
		}
		if i%3 > 0 {
			withoutNotes(&h)
		}
		if i%4 > 1 {
			unnailed(&h)
		}
		h = impl.Straightened(h)
		checkPushing(t, h)
		checkReady(t, h)
	}
}

// More are led to than can be Shown, and there are gaps between them.
func TestPushingOfMoreThanIsShown(t *testing.T) {
	d := &dice{n: 153}
	for _, n := range []int{199, 200, 201, 250} {
		eachSide(func(side int64) {
			d.eachOrder(pairsOf(200, 400, side), func(places []int64) {
				h := rowOfObjects(side, n, places, n%2 == 0)
				// Those that nobody leads to are free upstairs, or not of Marks.
				for i, at := range places[n:] {
					if at >= 400 && i%2 == 0 {
						copy(h.Row[at:], free(2))
					}
				}
				rightSeen(&h)
				checkSwept(t, watchHeap(h), wantSwept(h))
				checkCompacted(t, watchHeap(h), wantCompacted(h))
				checkSweeps(t, h)
				checkPushes(t, h)
				checkPushes(t, impl.Swept(h))
			})
		})
	}
}

// Answers to one heap, one beside the other, have nothing of one another; nor has a heap that is written over afterwards anything of its answers. So it is too where the answer is the heap as it is.
func TestPushingAnswersShareNothing(t *testing.T) {
	eachRoom(func(side, s, n int64) {
		done := layout{below: joined(one(1, to(54)), one(2)), above: joined(free(2), one(3, to(s), to(50)), one(4, to(s))), roots: []int64{to(50)}, mourned: []int64{to(50), to(s), to(54)}}
		asItIs := layout{below: joined(one(1, to(48)), note(s)), above: joined(one(2), note(s+2), one(3, to(s))), roots: []int64{to(s), to(50)}, mourned: []int64{to(s), to(52)}}
		for _, was := range []layout{done, asItIs} {
			w := watchHeap(was.heap(side))
			wrong := watchHeap(impl.Heap{Roots: six(num(1)), Mourned: []int64{4}, Seen: []int64{5}, Row: []int64{6}})
			calls := []func() []int64{}
			for _, call := range []func(impl.Heap) impl.Heap{impl.Swept, impl.Compacted} {
				for _, h := range []impl.Heap{w.heap, wrong.heap} {
					calls = append(calls,
						func() []int64 { return call(h).Row },
						func() []int64 { return call(h).Roots },
						func() []int64 { return call(h).Mourned },
						func() []int64 { return call(h).Seen })
				}
			}
			checkListsApart(t, calls, append(slices.Clone(w.lists), wrong.lists...)...)
			swept, compacted := impl.Swept(w.heap), impl.Compacted(w.heap)
			one, other := clonedHeap(swept), clonedHeap(compacted)
			checkHeapApart(t, w.heap)
			if !sameHeap(swept, one) || !sameHeap(compacted, other) {
				t.Fatalf("the heap, written into, changes an answer:\n%+v\n%+v", swept, compacted)
			}
			checkHeapApart(t, swept)
			checkHeapApart(t, compacted)
		}
		h := done.heap(side)
		if made := impl.Compacted(h); !slices.Equal(made.Seen, []int64{48, 52}) || made.Row[s+1] != to(52) {
			t.Fatalf("%+v\nCompacted is\n%+v", h, made)
		}
	})
}
