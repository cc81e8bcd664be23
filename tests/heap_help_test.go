package tests

import (
	"math"
	"slices"
	"testing"

	"loop.example/g00337/impl"
)

// What the tests of several layers ask of heaps.

// to is a word that leads there.
func to(at int64) int64 { return 4*at + 4 }

// num is a word that is this number.
func num(n int64) int64 { return 4*n + 1 }

// six are these words, and Nil for those that are left.
func six(first ...int64) []int64 {
	made := slices.Repeat([]int64{2}, 6)
	copy(made, first)
	return made
}

// heapOf has these words at the beginning of its room and upstairs, what is left there one free chunk, and the Seed 1. Roots are Nil; Seen is left to whoever asks.
func heapOf(half, old, side int64, below, above []int64) impl.Heap {
	room := zeros(int(half), below...)
	if left := int(old) - len(above); left > 0 {
		above = joined(above, free(left))
	}
	h := impl.Heap{Half: half, Old: old, Side: side, Top: int64(len(below)), Roots: six(), Seed: 1}
	if side == 0 {
		h.Row = joined(room, zeros(int(half)), above)
	} else {
		h.Row = joined(zeros(int(half)), room, above)
	}
	return h
}

// pairsOf are the places of a heap that is full of chunks of two words.
func pairsOf(half, old, side int64) []int64 {
	places := []int64{}
	for at := int64(0); at < half; at += 2 {
		places = append(places, half*side+at)
	}
	for at := int64(0); at < old; at += 2 {
		places = append(places, 2*half+at)
	}
	return places
}

func clonedHeap(h impl.Heap) impl.Heap {
	h.Row = slices.Clone(h.Row)
	h.Roots = slices.Clone(h.Roots)
	h.Mourned = slices.Clone(h.Mourned)
	h.Seen = slices.Clone(h.Seen)
	return h
}

func sameHeap(a, b impl.Heap) bool {
	if a.Half != b.Half || a.Old != b.Old || a.Side != b.Side || a.Top != b.Top || a.Seed != b.Seed {
		return false
	}
	return slices.Equal(a.Row, b.Row) && slices.Equal(a.Roots, b.Roots) && slices.Equal(a.Mourned, b.Mourned) && slices.Equal(a.Seen, b.Seen)
}

// watchedHeap is a heap with marked room behind each of its lists, and a picture of all of it as it was handed in.
type watchedHeap struct {
	heap  impl.Heap
	was   impl.Heap
	lists []watched
}

func watchHeap(h impl.Heap) watchedHeap {
	lists := []watched{watch(h.Row...), watch(h.Roots...), watch(h.Mourned...), watch(h.Seen...)}
	w := watchedHeap{heap: h, was: clonedHeap(h), lists: lists}
	w.heap.Row, w.heap.Roots, w.heap.Mourned, w.heap.Seen = lists[0].row, lists[1].row, lists[2].row, lists[3].row
	return w
}

func (w watchedHeap) check(t *testing.T) {
	t.Helper()
	if !sameHeap(w.heap, w.was) {
		t.Fatalf("an argument became %+v, was %+v", w.heap, w.was)
	}
	for _, list := range w.lists {
		list.check(t)
	}
}

// checkHeapApart writes something of its own all over each list of the heap: where two share any room, one of them has lost its own.
func checkHeapApart(t *testing.T, h impl.Heap) {
	t.Helper()
	lists := [][]int64{h.Row[:cap(h.Row)], h.Roots[:cap(h.Roots)], h.Mourned[:cap(h.Mourned)], h.Seen[:cap(h.Seen)]}
	for i, list := range lists {
		for j := range list {
			list[j] = int64(4444444 + i)
		}
	}
	for i, list := range lists {
		for _, w := range list {
			if w != int64(4444444+i) {
				t.Fatalf("two lists of one answer share their room: list %d", i)
			}
		}
	}
}

// piece is a chunk, read by hand; its words are its Slots, or its note, or none.
type piece struct {
	at    int64
	size  int64
	head  impl.Head
	words []int64
}

func (p piece) isFree() bool { return p.head.Format == 6 }

func (p piece) isNote() bool { return p.head.Format == 7 }

// readHead is the document's sum, taken apart.
func readHead(w int64) (impl.Head, bool) {
	if w < 0 || w >= 2*marked {
		return impl.Head{}, false
	}
	h := impl.Head{Slots: w % 64, Format: w / 64 % 8, Class: w / 512 % 128, Hash: w / 65536 % 65536, Pinned: w/pinned%2 == 1, Marked: w >= marked}
	if h.Slots > 20 || h.Class > 99 {
		return impl.Head{}, false
	}
	switch h.Format {
	case 0, 1, 7:
		return h, true
	case 2:
		return h, h.Slots > 0
	case 6:
		return h, w == freeHead
	}
	return impl.Head{}, false
}

func pieceAt(row []int64, at int64) (piece, bool) {
	h, is := readHead(row[at])
	left := int64(len(row)) - at
	if !is || h.Marked || left < 2 {
		return piece{}, false
	}
	p := piece{at: at, head: h, size: h.Slots + 1}
	if p.isFree() {
		p.size = row[at+1]
		return p, p.size >= 2 && p.size%2 == 0 && p.size <= left
	}
	if p.size%2 == 1 {
		p.size++
	}
	if p.size > left {
		return piece{}, false
	}
	p.words = row[at+1 : at+1+h.Slots]
	if p.isNote() {
		p.words = row[at+1 : at+2]
		return p, leadsByHand(row[at+1])
	}
	return p, true
}

func piecesIn(row []int64, from, to int64) ([]piece, bool) {
	list := []piece{}
	for from < to {
		p, is := pieceAt(row[:to], from)
		if !is {
			return nil, false
		}
		list = append(list, p)
		from += p.size
	}
	return list, true
}

// piecesOf are those of the room, then those of upstairs. It is asked only of heaps whose numbers are right.
func piecesOf(h impl.Heap) ([]piece, bool) {
	below, one := piecesIn(h.Row, h.Side*h.Half, h.Side*h.Half+h.Top)
	above, other := piecesIn(h.Row, 2*h.Half, 2*h.Half+h.Old)
	return append(below, above...), one && other
}

func pieceLedTo(list []piece, w int64) (piece, bool) {
	for _, p := range list {
		if leadsByHand(w) && w == to(p.at) {
			return p, true
		}
	}
	return piece{}, false
}

func wantHeld(list []piece, words []int64) bool {
	for _, w := range words {
		if w == 2 || (w-1)%4 == 0 && -400000 <= w-1 && w-1 <= 400000 {
			continue
		}
		if p, is := pieceLedTo(list, w); !is || p.isFree() {
			return false
		}
	}
	return true
}

// wantNoRing goes on from each as often as there are pieces: who is at a note still never comes to an end.
func wantNoRing(list []piece) bool {
	for _, p := range list {
		for range list {
			if p.isNote() {
				p, _ = pieceLedTo(list, p.words[0])
			}
		}
		if p.isNote() {
			return false
		}
	}
	return true
}

func youngByHand(h impl.Heap, w int64) bool { return leadsByHand(w) && w < to(2*h.Half) }

func wantSeen(h impl.Heap, list []piece) []int64 {
	places := []int64{}
	for _, p := range list {
		young := slices.ContainsFunc(p.words, func(w int64) bool { return youngByHand(h, w) })
		if p.at >= 2*h.Half && young {
			places = append(places, p.at)
		}
	}
	return places
}

func wantNumbers(h impl.Heap) bool {
	if h.Half < 8 || h.Half > 200 || h.Half%2 != 0 || h.Old < 8 || h.Old > 400 || h.Old%2 != 0 {
		return false
	}
	if len(h.Row) != int(2*h.Half+h.Old) || h.Side != 0 && h.Side != 1 || h.Top < 0 || h.Top > h.Half {
		return false
	}
	return len(h.Roots) == 6 && len(h.Mourned) <= 40 && h.Seed >= 0 && h.Seed <= 65535
}

// wantRoom: what stands in it may stand there, and nothing is behind it, nor in the other half.
func wantRoom(h impl.Heap, list []piece) bool {
	for _, p := range list {
		if p.at < 2*h.Half && (p.isFree() || p.head.Pinned) {
			return false
		}
	}
	for at, w := range h.Row[:2*h.Half] {
		behind := int64(at) - h.Side*h.Half
		if (behind < 0 || behind >= h.Top) && w != 0 {
			return false
		}
	}
	return true
}

// wantHeapOk is the chapter's words, one after the other.
func wantHeapOk(h impl.Heap) bool {
	if !wantNumbers(h) {
		return false
	}
	list, is := piecesOf(h)
	if !is || !wantRoom(h, list) || !wantHeld(list, h.Roots) || !wantHeld(list, h.Mourned) {
		return false
	}
	for _, w := range h.Mourned {
		if !leadsByHand(w) {
			return false
		}
	}
	for _, p := range list {
		if !wantHeld(list, p.words) {
			return false
		}
	}
	return wantNoRing(list) && slices.Equal(h.Seen, wantSeen(h, list))
}

// wantObjects is asked only of right heaps.
func wantObjects(h impl.Heap) []int64 {
	list, _ := piecesOf(h)
	places := []int64{}
	for _, p := range list {
		if !p.isFree() {
			places = append(places, p.at)
		}
	}
	return places
}

// shuffle puts a list into any order.
func shuffle[T any](d *dice, list []T) {
	for i := range list {
		j := d.roll(int64(i) + 1)
		list[i], list[j] = list[j], list[i]
	}
}

// eachOrder: as they rise, as they fall, and in any order.
func (d *dice) eachOrder(places []int64, look func(places []int64)) {
	look(places)
	slices.Reverse(places)
	look(places)
	shuffle(d, places)
	look(places)
}

// furnish puts chunks into the words, one behind the other, and tells how many words they take: all of them upstairs, where some are free and some Pinned.
func (d *dice) furnish(words []int64, upstairs bool) int64 {
	at := int64(0)
	for left := int64(len(words)); left >= 2; left = int64(len(words)) - at {
		switch {
		case !upstairs && d.roll(9) == 0:
			return at
		case upstairs && d.roll(4) == 0:
			size := 2 + 2*d.roll(min(left, 12)/2)
			copy(words[at:], free(int(size)))
			at += size
		default:
			h := d.head(min(left-1, 1+d.roll(8)))
			h.Pinned = upstairs && d.roll(5) == 0
			words[at] = sumOf(h)
			words[at+1] = 4
			at += h.Slots + 1 + (h.Slots+1)%2
		}
	}
	return at
}

// head is one that is not free, of at most so many Slots.
func (d *dice) head(most int64) impl.Head {
	h := impl.Head{Slots: d.roll(most + 1), Format: []int64{0, 0, 1, 2, 7}[d.roll(5)], Class: d.roll(100), Hash: d.roll(65536)}
	if h.Format == 2 {
		h.Slots = max(h.Slots, 1)
	}
	return h
}

// word is one that a heap with these pieces may have.
func (d *dice) word(held []piece) int64 {
	switch d.roll(6) {
	case 0:
		return 2
	case 1:
		return num(d.roll(200001) - 100000)
	}
	if len(held) == 0 {
		return 2
	}
	return to(held[d.roll(int64(len(held)))].at)
}

// lead makes all notes lead on to one that lies ahead of them in the list; the first one, where it is a note, is an object instead.
func (d *dice) lead(row []int64, held []piece) {
	for i, p := range held {
		switch {
		case i == 0 && p.isNote():
			row[p.at] -= 64 * 7
			held[0], _ = pieceAt(row, p.at)
		case p.isNote():
			row[p.at+1] = to(held[d.roll(int64(i))].at)
		}
	}
}

// heap is a right one, with objects, notes and free chunks in any order.
func (d *dice) heap(half, old, mourned int64) impl.Heap {
	h := impl.Heap{Half: half, Old: old, Row: zeros(int(2*half + old)), Side: d.roll(2), Roots: six(), Seed: d.roll(65536)}
	h.Top = d.furnish(h.Row[h.Side*half:(h.Side+1)*half], false)
	d.furnish(h.Row[2*half:], true)
	list, _ := piecesOf(h)
	held := slices.DeleteFunc(slices.Clone(list), piece.isFree)
	shuffle(d, held)
	d.lead(h.Row, held)
	for _, p := range held {
		for i := range p.words {
			if !p.isNote() {
				p.words[i] = d.word(held)
			}
		}
	}
	for i := range h.Roots {
		h.Roots[i] = d.word(held)
	}
	for range mourned {
		if len(held) > 0 {
			h.Mourned = append(h.Mourned, to(held[d.roll(int64(len(held)))].at))
		}
	}
	list, _ = piecesOf(h)
	h.Seen = wantSeen(h, list)
	return h
}

// eachSpoilt goes through what is furnished with one thing spoilt, and with each Seen that is wrong, on this side.
func eachSpoilt(t *testing.T, side int64, look func(h impl.Heap)) {
	t.Helper()
	for _, spoilt := range spoilings(side) {
		h := furnished(side)
		spoilt(&h)
		checkBoth(t, "spoilt", h, false)
		look(h)
	}
	for _, seen := range [][]int64{nil, {24}, {32}, {32, 24}, {24, 24, 32}, {24, 32, 32}, {24, 32, 40}, {24, 28, 32}, {12 * side, 24, 32}, {-1}, {math.MaxInt64}} {
		h := furnished(side)
		h.Seen = seen
		checkBoth(t, "a wrong Seen", h, false)
		look(h)
	}
}

// eachSpoiltWithRoom goes through a heap with much room, whose Roots 0 and 1 lead to two objects, with one thing that is wrong; the same that is right is beside it.
func eachSpoiltWithRoom(t *testing.T, side int64, look func(right, wrong impl.Heap)) {
	t.Helper()
	for _, spoilt := range []func(h *impl.Heap){
		func(h *impl.Heap) { h.Seen = nil },
		func(h *impl.Heap) { h.Seen = append(h.Seen, 52) },
		func(h *impl.Heap) { h.Roots[0] = to(48) },
		func(h *impl.Heap) { h.Roots[5] = 3 },
		func(h *impl.Heap) { h.Roots = h.Roots[:5] },
		func(h *impl.Heap) { h.Roots = append(h.Roots, 2) },
		func(h *impl.Heap) { h.Mourned = []int64{2} },
		func(h *impl.Heap) { h.Mourned = slices.Repeat([]int64{to(50)}, 41) },
		func(h *impl.Heap) { h.Row[51] = to(51) },
		func(h *impl.Heap) { h.Row[49] = 3 },
		func(h *impl.Heap) { h.Row[55] = 53 },
		func(h *impl.Heap) { h.Row[50] += marked },
		func(h *impl.Heap) { h.Row[24*side] += pinned },
		func(h *impl.Heap) { h.Row[24*side+23] = 1 },
		func(h *impl.Heap) { h.Row[24-24*side] = 1 },
		func(h *impl.Heap) { h.Row = append(h.Row, free(2)...) },
		func(h *impl.Heap) { h.Old += 2 },
		func(h *impl.Heap) { h.Top = 3 },
		func(h *impl.Heap) { h.Top = -2 },
		func(h *impl.Heap) { h.Top = 26 },
		func(h *impl.Heap) { h.Side = 2 },
		func(h *impl.Heap) { h.Side = -1 },
		func(h *impl.Heap) { h.Seed = 65536 },
		func(h *impl.Heap) { h.Seed = -1 },
	} {
		right := layout{below: one(1), above: joined(free(2), one(2, to(24*side)), one(3)), roots: []int64{to(50), to(24 * side)}}.heap(side)
		wrong := clonedHeap(right)
		spoilt(&wrong)
		checkBoth(t, "right", right, true)
		checkBoth(t, "spoilt", wrong, false)
		look(right, wrong)
	}
}

// rightWords are those that lead to each chunk of what is furnished, Nil, and a number.
func rightWords(side int64) []int64 {
	words := []int64{2, num(12 * side)}
	for _, at := range rightPlaces(side) {
		words = append(words, to(at))
	}
	return words
}

// wordPlaces are where such a word stands: a Root, one of Mourned, each Slot and each note.
func wordPlaces(side int64) []func(h *impl.Heap) *int64 {
	s := 12 * side
	places := []func(h *impl.Heap) *int64{func(h *impl.Heap) *int64 { return &h.Roots[3] }, func(h *impl.Heap) *int64 { return &h.Mourned[1] }}
	for _, at := range []int64{s + 1, s + 2, s + 5, s + 7, 25, 26, 33, 39, 41, 42, 43, 45} {
		places = append(places, func(h *impl.Heap) *int64 { return &h.Row[at] })
	}
	return places
}
