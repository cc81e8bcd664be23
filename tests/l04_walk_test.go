package tests

import (
	"math"
	"slices"
	"testing"

	"loop.example/g00337/impl"
)

const (
	freeHead = 64 * 6
	noteHead = 64 * 7
	marked   = 8589934592
	pinned   = 4294967296
)

// watched is a list of words with marked room behind it, and a picture of both as they were handed in.
type watched struct {
	row []int64
	was []int64
}

func watch(words ...int64) watched {
	all := make([]int64, len(words)+5)
	for i := range all {
		all[i] = spare
	}
	copy(all, words)
	return watched{row: all[:len(words)], was: slices.Clone(all)}
}

func (w watched) check(t *testing.T) {
	t.Helper()
	if all := w.row[:len(w.was)]; !slices.Equal(all, w.was) {
		t.Fatalf("an argument, with the room behind it, became %v, was %v", all, w.was)
	}
}

// joined is one row of several pieces, one behind the other.
func joined(pieces ...[]int64) []int64 {
	return slices.Concat(pieces...)
}

// zeros is n words 0, with those given at its beginning.
func zeros(n int, first ...int64) []int64 {
	made := make([]int64, n)
	copy(made, first)
	return made
}

// reading is what the chapter says of a word as the head of a chunk; a word that is not in headsByHand heads none.
type reading struct {
	head impl.Head
	size int64
	kind rune // 'o' an object, 'n' a note, 'f' free: its size stands behind it
}

// headsByHand are words that are small enough to stand for heads, numbers and sizes at once, read by hand.
var headsByHand = map[int64]reading{
	0:               {impl.Head{}, 2, 'o'},
	1:               {impl.Head{Slots: 1}, 2, 'o'},
	2:               {impl.Head{Slots: 2}, 4, 'o'},
	3:               {impl.Head{Slots: 3}, 4, 'o'},
	4:               {impl.Head{Slots: 4}, 6, 'o'},
	5:               {impl.Head{Slots: 5}, 6, 'o'},
	6:               {impl.Head{Slots: 6}, 8, 'o'},
	7:               {impl.Head{Slots: 7}, 8, 'o'},
	8:               {impl.Head{Slots: 8}, 10, 'o'},
	9:               {impl.Head{Slots: 9}, 10, 'o'},
	10:              {impl.Head{Slots: 10}, 12, 'o'},
	11:              {impl.Head{Slots: 11}, 12, 'o'},
	12:              {impl.Head{Slots: 12}, 14, 'o'},
	13:              {impl.Head{Slots: 13}, 14, 'o'},
	14:              {impl.Head{Slots: 14}, 16, 'o'},
	15:              {impl.Head{Slots: 15}, 16, 'o'},
	16:              {impl.Head{Slots: 16}, 18, 'o'},
	17:              {impl.Head{Slots: 17}, 18, 'o'},
	18:              {impl.Head{Slots: 18}, 20, 'o'},
	19:              {impl.Head{Slots: 19}, 20, 'o'},
	20:              {impl.Head{Slots: 20}, 22, 'o'},
	65:              {impl.Head{Slots: 1, Format: 1}, 2, 'o'},
	129:             {impl.Head{Slots: 1, Format: 2}, 2, 'o'},
	freeHead:        {impl.Head{Format: 6}, 0, 'f'},
	noteHead:        {impl.Head{Format: 7}, 2, 'n'},
	noteHead + 1:    {impl.Head{Slots: 1, Format: 7}, 2, 'n'},
	noteHead + 3:    {impl.Head{Slots: 3, Format: 7}, 4, 'n'},
	pinned + 2 + 64: {impl.Head{Slots: 2, Format: 1, Pinned: true}, 4, 'o'},
}

// leadsByHand: of the words of the short rows, those that are 4 times an address and 4.
func leadsByHand(w int64) bool { return w%4 == 0 && 4 <= w && w <= 4000 }

func wantChunk(row []int64, at int64) int64 {
	if at < 0 || at >= int64(len(row)) {
		return 0
	}
	left := row[at:]
	r, is := headsByHand[left[0]]
	if !is {
		return 0
	}
	size := r.size
	if r.kind == 'f' && len(left) > 1 && left[1] >= 2 && left[1]%2 == 0 {
		size = left[1]
	}
	if size == 0 || size > int64(len(left)) || r.kind == 'n' && !leadsByHand(left[1]) {
		return 0
	}
	return size
}

// wantWalk asks for a chain from from to to, from its beginning on; it is asked only within the row.
func wantWalk(row []int64, from, to int64) ([]int64, bool) {
	if from == to {
		return nil, true
	}
	size := wantChunk(row, from)
	if size == 0 || from+size > to {
		return nil, false
	}
	rest, is := wantWalk(row, from+size, to)
	if !is {
		return nil, false
	}
	return append([]int64{from}, rest...), true
}

func wantObject(row []int64, at int64) (impl.Head, []int64, bool) {
	if wantChunk(row, at) == 0 {
		return impl.Head{}, nil, false
	}
	r := headsByHand[row[at]]
	switch r.kind {
	case 'o':
		return r.head, row[at+1 : at+1+r.head.Slots], true
	case 'n':
		return r.head, row[at+1 : at+2], true
	}
	return impl.Head{}, nil, false
}

func checkChunk(t *testing.T, w watched, at, want int64) {
	t.Helper()
	if got := impl.ChunkAt(w.row, at); got != want {
		t.Fatalf("row %v: ChunkAt %d = %d, want %d", w.row, at, got, want)
	}
	w.check(t)
}

func checkWalk(t *testing.T, w watched, from, to int64, want []int64, wantIs bool) {
	t.Helper()
	got, is := impl.Walk(w.row, from, to)
	if is != wantIs || !slices.Equal(got, want) {
		t.Fatalf("row of %d, %v: Walk from %d to %d = %v, %v, want %v, %v", len(w.row), w.row, from, to, got, is, want, wantIs)
	}
	overwrite(got)
	w.check(t)
}

func checkObject(t *testing.T, w watched, at int64, head impl.Head, slots []int64, wantIs bool) {
	t.Helper()
	h, got, is := impl.ObjectAt(w.row, at)
	if h != head || is != wantIs || !slices.Equal(got, slots) {
		t.Fatalf("row %v: ObjectAt %d = %+v, %v, %v, want %+v, %v, %v", w.row, at, h, got, is, head, slots, wantIs)
	}
	overwrite(got)
	w.check(t)
}

// checkNothingAt: neither a chunk nor an object is there.
func checkNothingAt(t *testing.T, w watched, at int64) {
	t.Helper()
	checkChunk(t, w, at, 0)
	checkObject(t, w, at, impl.Head{}, nil, false)
}

func checkPut(t *testing.T, w watched, at int64, h impl.Head, s watched, want []int64, wantIs bool) {
	t.Helper()
	got, is := impl.PutObject(w.row, at, h, s.row)
	if is != wantIs || !slices.Equal(got, want) {
		t.Fatalf("row of %d: PutObject at %d of %+v, %v = %v, %v, want %v, %v", len(w.row), at, h, s.row, got, is, want, wantIs)
	}
	overwrite(got)
	w.check(t)
	s.check(t)
}

// houseful is a row of chunks of every kind, with the places where they begin.
func houseful() (watched, []int64) {
	pieces := [][]int64{
		zeros(2, 0),                         // no slot, and a word left over
		zeros(2, 1, 21),                     // one slot
		zeros(4, noteHead+3, 4*17+4),        // a note that has kept the size of three
		zeros(2, freeHead, 2),               // the least free chunk
		zeros(4, 66, 2, 25),                 // two slots, and a word left over
		zeros(6, freeHead, 6, marked, -1),   // what lies in a free chunk is not looked at
		zeros(2, noteHead, 4*999+4),         // a note that has kept no slot
		zeros(4, 129+2, 4, 8, 12),           // three slots
		zeros(22, 20, 2, 2, 2),              // the most slots
		zeros(2, noteHead+pinned+1, 4),      // a pinned note
		zeros(20, pinned+19+512*99, -7, -3), // nineteen, pinned
		zeros(40, freeHead, 40),
		zeros(2, 65+65535*65536, 2),
	}
	places := make([]int64, len(pieces))
	at := 0
	for i, p := range pieces {
		places[i] = int64(at)
		at += len(p)
	}
	return watch(joined(pieces...)...), places
}

func TestWalkGoesOverAllOfIt(t *testing.T) {
	house, places := houseful()
	end := int64(len(house.row))
	if end != 112 || len(places) != 13 {
		t.Fatal("the row is not as it was made", end, len(places))
	}
	ends := append(slices.Clone(places[1:]), end)
	for i, at := range places {
		checkChunk(t, house, at, ends[i]-at)
		for j := i; j < len(places); j++ {
			checkWalk(t, house, at, ends[j], places[i:j+1], true)
			checkWalk(t, house, at, ends[j]-1, nil, false)
		}
		checkWalk(t, house, at, at, nil, true)
		checkWalk(t, house, at, end+1, nil, false)
	}
}

func TestWhatStandsInTheHouse(t *testing.T) {
	house, places := houseful()
	for i, want := range []struct {
		head  impl.Head
		slots []int64
		is    bool
	}{
		{impl.Head{}, nil, true},
		{impl.Head{Slots: 1}, []int64{21}, true},
		{impl.Head{Slots: 3, Format: 7}, []int64{72}, true},
		{},
		{impl.Head{Slots: 2, Format: 1}, []int64{2, 25}, true},
		{},
		{impl.Head{Format: 7}, []int64{4000}, true},
		{impl.Head{Slots: 3, Format: 2}, []int64{4, 8, 12}, true},
		{impl.Head{Slots: 20}, zeros(20, 2, 2, 2), true},
		{impl.Head{Slots: 1, Format: 7, Pinned: true}, []int64{4}, true},
		{impl.Head{Slots: 19, Class: 99, Pinned: true}, zeros(19, -7, -3), true},
		{},
		{impl.Head{Slots: 1, Format: 1, Hash: 65535}, []int64{2}, true},
	} {
		checkObject(t, house, places[i], want.head, want.slots, want.is)
	}
}

// eachShortRow goes through all rows of n words of the alphabet.
func eachShortRow(n int, alphabet []int64, look func(row []int64)) {
	row := make([]int64, n)
	var fill func(at int)
	fill = func(at int) {
		if at == n {
			look(row)
			return
		}
		for _, w := range alphabet {
			row[at] = w
			fill(at + 1)
		}
	}
	fill(0)
}

// All short rows of words that tell: every place, every from and every to, against the chapter's words.
func TestEveryShortRow(t *testing.T) {
	alphabet := []int64{0, 1, 2, 3, 4, 6, freeHead, noteHead, noteHead + 3, marked, -2}
	for n := range 6 {
		letters := alphabet
		if n == 5 {
			letters = []int64{0, 2, 3, 4, freeHead, noteHead + 3}
		}
		eachShortRow(n, letters, func(row []int64) {
			w := watch(row...)
			for from := int64(-1); from <= int64(n)+1; from++ {
				checkChunk(t, w, from, wantChunk(row, from))
				h, slots, is := wantObject(row, from)
				checkObject(t, w, from, h, slots, is)
				for to := int64(-1); to <= int64(n)+1; to++ {
					if from < 0 || to < from || to > int64(n) {
						checkWalk(t, w, from, to, nil, false)
						continue
					}
					want, is := wantWalk(row, from, to)
					checkWalk(t, w, from, to, want, is)
				}
			}
		})
	}
}

// Every right head, as the head of a chunk: told where it is not Marked, in just its size, not in one word less.
func TestEveryHeadOfAChunk(t *testing.T) {
	room := zeros(24)
	for i := range room {
		room[i] = 4*int64(i) + 4
	}
	for _, h := range rightHeads() {
		size := 1 + h.Slots + (1+h.Slots)%2
		slots := room[1 : 1+h.Slots]
		if h.Format == 7 {
			slots = room[1:2]
		}
		room[0] = sumOf(h)
		fits, short := room[:size], room[:size-1]
		got, gotSlots, is := impl.ObjectAt(fits, 0)
		if h.Marked || h.Format == 6 {
			if is || got != (impl.Head{}) || len(gotSlots) != 0 {
				t.Fatalf("%+v: ObjectAt tells %+v, %v, %v", h, got, gotSlots, is)
			}
		} else if !is || got != h || !slices.Equal(gotSlots, slots) {
			t.Fatalf("%+v: ObjectAt tells %+v, %v, %v", h, got, gotSlots, is)
		}
		want := size
		if h.Marked || h.Format == 6 {
			want = 0 // 8, the size that would stand behind the free head, is greater than what is left
		}
		if n := impl.ChunkAt(fits, 0); n != want {
			t.Fatalf("%+v: ChunkAt %d, want %d", h, n, want)
		}
		if n := impl.ChunkAt(short, 0); n != 0 {
			t.Fatalf("%+v: ChunkAt %d of a row that is one word too short", h, n)
		}
	}
}

func TestSizesOfFreeChunks(t *testing.T) {
	for length := 2; length <= 30; length++ {
		for size := int64(-4); size <= 34; size++ {
			w := watch(joined([]int64{5, 5, 5}, zeros(length, freeHead, size))...)
			want := int64(0)
			if size >= 2 && size%2 == 0 && size <= int64(length) {
				want = size
			}
			checkChunk(t, w, 3, want)
			checkObject(t, w, 3, impl.Head{}, nil, false)
			// Behind it are words 0, which are objects of two words: they come out just at the end or not.
			places, at := []int64{3}, 3+want
			for ; want > 0 && at < 3+int64(length); at += 2 {
				places = append(places, at)
			}
			if at != 3+int64(length) {
				places = nil
			}
			checkWalk(t, w, 3, 3+int64(length), places, places != nil)
		}
	}
	for _, far := range someEnds {
		for _, n := range []int{2, 4, 1000} {
			w := watch(zeros(n, freeHead, far)...)
			checkNothingAt(t, w, 0)
			checkWalk(t, w, 0, int64(n), nil, false)
		}
	}
	// Sizes that would fit if they were cut down to fewer bits, or if a sum with them wrapped round.
	for _, size := range []int64{math.MinInt64 + 2, 1<<32 + 2, 1<<32 + 4, -1<<32 + 2, 1<<62 + 2, math.MaxInt64 - 1} {
		checkNothingAt(t, watch(zeros(4, freeHead, size)...), 0)
		checkNothingAt(t, watch(zeros(6, 0, 0, freeHead, size)...), 2)
	}
}

func TestAFreeHeadAsTheLastWord(t *testing.T) {
	for _, row := range [][]int64{{freeHead}, {0, 0, freeHead}, zeros(1000)} {
		last := int64(len(row)) - 1
		row[last] = freeHead
		w := watch(row...)
		checkNothingAt(t, w, last)
		checkWalk(t, w, last, last+1, nil, false)
		checkWalk(t, w, last, last, nil, true)
	}
	// Nor is a size taken that stands in the room behind the row.
	all := []int64{0, 0, freeHead, 2}
	checkNothingAt(t, watched{row: all[:3], was: slices.Clone(all)}, 2)
	checkWalk(t, watched{row: all[:3], was: slices.Clone(all)}, 0, 4, nil, false)
}

func TestChunksAtTheEndOfTheRow(t *testing.T) {
	for slots := range int64(21) {
		size := int(1 + slots + (1+slots)%2)
		for _, head := range []int64{slots, slots + noteHead} {
			fits := watch(joined(zeros(4, 3), zeros(size, head, 4))...)
			checkChunk(t, fits, 4, int64(size))
			checkWalk(t, fits, 0, int64(4+size), []int64{0, 4}, true)
			short := watch(fits.row[:len(fits.row)-1]...)
			checkNothingAt(t, short, 4)
			checkWalk(t, short, 0, int64(4+size-1), nil, false)
			checkWalk(t, short, 0, int64(4+size), nil, false)
		}
	}
}

// What is left over of the row does not make up for a chunk that ends behind to.
func TestTheLastChunkGoesPastTo(t *testing.T) {
	for _, chunk := range [][]int64{zeros(4, 3), zeros(4, 2), zeros(4, freeHead, 4), zeros(4, noteHead+3, 4)} {
		w := watch(joined(zeros(2, 1), chunk, zeros(6))...)
		for to := int64(3); to <= 5; to++ {
			checkWalk(t, w, 0, to, nil, false)
			checkWalk(t, w, 2, to, nil, false)
		}
		checkWalk(t, w, 0, 2, []int64{0}, true)
		checkWalk(t, w, 2, 2, nil, true)
		checkWalk(t, w, 0, 6, []int64{0, 2}, true)
		checkWalk(t, w, 2, 6, []int64{2}, true)
		checkWalk(t, w, 2, 12, []int64{2, 6, 8, 10}, true)
	}
}

func TestNotesLeadSomewhere(t *testing.T) {
	for _, head := range []int64{noteHead, noteHead + 1, noteHead + 2, noteHead + 3, noteHead + 512*9 + pinned} {
		for _, leads := range []int64{4, 8, 2000, 3996, 4000} {
			w := watch(zeros(4, head, leads)...)
			h, _ := impl.Unpacked(head)
			checkChunk(t, w, 0, impl.SizeOf(h.Slots))
			checkObject(t, w, 0, h, []int64{leads}, true)
		}
		for _, nowhere := range []int64{0, 1, 2, 3, 5, -1, -4, 4001, 4004, math.MinInt64, math.MaxInt64, math.MaxInt64 - 3} {
			w := watch(zeros(4, head, nowhere)...)
			checkNothingAt(t, w, 0)
			checkWalk(t, w, 0, 4, nil, false)
			checkWalk(t, w, 0, 0, nil, true)
		}
	}
	// A plain object's first word need lead nowhere, nor be a right word at all.
	checkObject(t, watch(1, 3), 0, impl.Head{Slots: 1}, []int64{3}, true)
	checkChunk(t, watch(2, math.MinInt64, math.MaxInt64, -1), 0, 4)
}

func TestWordsThatHeadNoChunk(t *testing.T) {
	for _, head := range []int64{
		-1, -2, math.MinInt64, math.MaxInt64, 21, 63, 64 * 3, 64*4 + 1, 64 * 5, 128, 512 * 100,
		freeHead + 1, freeHead + 512, freeHead + 65536, freeHead + pinned, freeHead + marked,
		marked, marked + 1, marked + 3 + pinned, marked + 65, marked + 129, marked + noteHead, marked + noteHead + 1,
		2 * marked, 2*marked + 1, 1 << 40, 1<<62 + 1,
	} {
		w := watch(1, 2, head, 4, 1, 2)
		checkNothingAt(t, w, 2)
		checkWalk(t, w, 0, 6, nil, false)
		checkWalk(t, w, 2, 4, nil, false)
		checkWalk(t, w, 0, 2, []int64{0}, true)
		checkWalk(t, w, 4, 6, []int64{4}, true)
	}
}

func TestPlacesOutOfTheRow(t *testing.T) {
	for _, n := range []int{0, 1, 2, 6, 1000} {
		w := watch(zeros(n)...)
		end := int64(n)
		for _, at := range append([]int64{end, end + 1}, someEnds...) {
			checkNothingAt(t, w, at)
			checkPut(t, w, at, impl.Head{}, watch(), w.row, false)
			checkPut(t, w, at, impl.Head{Slots: 1}, watch(2), w.row, false)
			checkWalk(t, w, at, at, nil, at == end)
			for _, other := range append([]int64{0, end, end + 1}, someEnds...) {
				if at == end && (other == end || other == 0) {
					continue
				}
				checkWalk(t, w, at, other, nil, false)
				checkWalk(t, w, other, at, nil, false)
			}
		}
	}
}

func TestWalksOfNothing(t *testing.T) {
	w := watch(3, -1, -1, -1, marked, 64*3)
	for at := range int64(7) {
		checkWalk(t, w, at, at, nil, true)
	}
	checkWalk(t, w, 7, 7, nil, false)
	checkWalk(t, w, -1, -1, nil, false)
	checkWalk(t, w, 4, 0, nil, false)
	checkWalk(t, w, 1, 0, nil, false)
	checkWalk(t, w, 6, 7, nil, false)
}

func TestTheLongestAndTheEmptyRowWalked(t *testing.T) {
	for _, row := range [][]int64{nil, {}} {
		w := watched{row: row}
		checkWalk(t, w, 0, 0, nil, true)
		checkWalk(t, w, 0, 1, nil, false)
		checkWalk(t, w, 1, 1, nil, false)
		checkNothingAt(t, w, 0)
		checkPut(t, w, 0, impl.Head{}, watch(), nil, false)
	}
	places := []int64{}
	for at := int64(0); at < 1000; at += 2 {
		places = append(places, at)
	}
	longest := watch(zeros(1000)...)
	checkWalk(t, longest, 0, 1000, places, true)
	checkChunk(t, longest, 998, 2)
	checkNothingAt(t, longest, 999)
	checkPut(t, longest, 978, impl.Head{Slots: 20}, watch(twos(20)...), joined(zeros(978), []int64{20}, twos(20), []int64{0}), true)
	checkPut(t, longest, 979, impl.Head{Slots: 20}, watch(twos(20)...), longest.row, false)
	whole := watch(zeros(1000, freeHead, 1000)...)
	checkWalk(t, whole, 0, 1000, []int64{0}, true)
	checkWalk(t, whole, 2, 1000, places[1:], true)
}

func twos(n int) []int64 { return slices.Repeat([]int64{2}, n) }

func TestWhatIsNoRowHasNoChunks(t *testing.T) {
	for _, n := range []int{1001, 1002, 2000} {
		w := watch(zeros(n)...)
		for _, at := range append([]int64{0, 2, 998, 999, 1000, 1001}, someEnds...) {
			checkNothingAt(t, w, at)
			checkWalk(t, w, at, at, nil, false)
			checkWalk(t, w, 0, at, nil, false)
			checkPut(t, w, at, impl.Head{}, watch(), nil, false)
			checkPut(t, w, at, impl.Head{Format: 6}, watch(), nil, false)
			checkPut(t, w, at, impl.Head{Slots: 1}, watch(3), nil, false)
		}
	}
}

// wantPut is asked only of what can be put.
func wantPut(row []int64, at int64, h impl.Head, slots []int64) []int64 {
	want := slices.Clone(row)
	want[at] = sumOf(h)
	for i, w := range slices.Concat(slots, zeros((1+len(slots))%2)) {
		want[at+1+int64(i)] = w
	}
	return want
}

// Objects of every number of slots at every place of a row, and what is told of each.
func TestWhatIsPutIsTold(t *testing.T) {
	row := watch(numbered(26)...)
	heads := []impl.Head{{}, {Format: 1, Class: 99}, {Format: 2, Hash: 65535, Pinned: true}, {Class: 1, Hash: 1, Pinned: true}}
	for _, h := range heads {
		for n := range int64(21) {
			h.Slots = n
			if h.Format == 2 && n == 0 {
				continue
			}
			slots := zeros(int(n))
			for i := range slots {
				slots[i] = []int64{2, 4, 4000, 1, 400001, -399999}[i%6]
			}
			size := 1 + n + (1+n)%2
			for at := int64(-2); at <= 28; at++ {
				if at < 0 || at+size > 26 {
					checkPut(t, row, at, h, watch(slots...), row.row, false)
					continue
				}
				checkPut(t, row, at, h, watch(slots...), wantPut(row.row, at, h, slots), true)
				made, _ := impl.PutObject(row.row, at, h, slots)
				back := watch(made...)
				checkObject(t, back, at, h, slots, true)
				checkChunk(t, back, at, size)
				checkWalk(t, back, at, at+size, []int64{at}, true)
			}
		}
	}
}

func TestHeadsThatAreNotPut(t *testing.T) {
	row := watch(numbered(12)...)
	for _, h := range []impl.Head{
		{Format: 6}, {Format: 7}, {Marked: true}, {Format: 1, Marked: true}, {Format: 7, Class: 5, Hash: 6, Pinned: true},
		{Format: 2}, {Format: 3}, {Format: -1}, {Format: 8}, {Class: -1}, {Class: 100}, {Hash: -1}, {Hash: 65536},
		{Slots: -1}, {Slots: math.MinInt64}, {Slots: math.MaxInt64}, {Slots: 1}, {Slots: 21}, {Slots: 1 << 32},
		{Format: 6, Class: 1}, {Format: math.MaxInt64}, {Class: math.MaxInt64}, {Hash: math.MinInt64},
	} {
		for at := int64(-1); at <= 13; at++ {
			checkPut(t, row, at, h, watch(), row.row, false)
		}
	}
	for _, h := range []impl.Head{
		{Slots: 1, Format: 7}, {Slots: 1, Format: 6}, {Slots: 1, Marked: true}, {Slots: 1, Format: 2, Marked: true},
		{Slots: 1, Format: 5}, {Slots: 1, Class: 100}, {Slots: 1, Hash: 65536}, {Slots: 1, Format: 2, Class: -1},
	} {
		checkPut(t, row, 2, h, watch(4), row.row, false)
	}
	checkPut(t, watch(zeros(40)...), 0, impl.Head{Slots: 21}, watch(twos(21)...), zeros(40), false)
}

func TestAsManySlotsAsTold(t *testing.T) {
	row := watch(numbered(30)...)
	for n := range 21 {
		h := impl.Head{Slots: int64(n), Class: 4}
		for given := range 24 {
			if given == n {
				checkPut(t, row, 2, h, watch(twos(given)...), wantPut(row.row, 2, h, twos(n)), true)
			} else {
				checkPut(t, row, 2, h, watch(twos(given)...), row.row, false)
			}
		}
	}
	checkPut(t, row, 2, impl.Head{Slots: 1}, watch(zeros(5000, 2)...), row.row, false)
}

func TestSlotsAreRightWords(t *testing.T) {
	row := watch(numbered(30)...)
	for _, n := range []int{1, 2, 3, 20} {
		h := impl.Head{Slots: int64(n), Format: 2}
		for _, i := range []int{0, n / 2, n - 1} {
			for _, wrong := range []int64{0, 3, -1, -2, -4, 6, 4004, 400005, -400003, math.MinInt64, math.MaxInt64} {
				slots := twos(n)
				slots[i] = wrong
				checkPut(t, row, 2, h, watch(slots...), row.row, false)
			}
			for _, right := range []int64{2, 1, 4, 4000, 400001, -399999} {
				slots := twos(n)
				slots[i] = right
				checkPut(t, row, 2, h, watch(slots...), wantPut(row.row, 2, h, slots), true)
			}
		}
	}
}

// Slots that are a piece of the row itself are taken as they were.
func TestSlotsThatAreAPieceOfTheRow(t *testing.T) {
	row := watch(2, 4, 8, 12, 16, 20)
	h := impl.Head{Slots: 3}
	for from := range 4 {
		got, is := impl.PutObject(row.row, 1, h, row.row[from:from+3])
		if want := wantPut(row.row, 1, h, row.row[from:from+3]); !is || !slices.Equal(got, want) {
			t.Fatalf("slots from %d on: %v, %v, want %v", from, got, is, want)
		}
		overwrite(got)
		row.check(t)
	}
}

// Answers to one row, one beside the other, have nothing of one another.
func TestChunksAnsweredShareNothing(t *testing.T) {
	house, places := houseful()
	slots := watch(2, 4)
	calls := []func() []int64{
		func() []int64 { l, _ := impl.Walk(house.row, 0, 112); return l },
		func() []int64 { l, _ := impl.Walk(house.row, 0, 111); return l },
		func() []int64 { _, l, _ := impl.ObjectAt(house.row, places[7]); return l },
		func() []int64 { _, l, _ := impl.ObjectAt(house.row, places[2]); return l },
		func() []int64 { _, l, _ := impl.ObjectAt(house.row, places[3]); return l },
		func() []int64 { l, _ := impl.PutObject(house.row, 4, impl.Head{Slots: 2}, slots.row); return l },
		func() []int64 { l, _ := impl.PutObject(house.row, 110, impl.Head{Slots: 2}, slots.row); return l },
		func() []int64 { l, _ := impl.PutObject(house.row, 4, impl.Head{Slots: 3}, slots.row); return l },
	}
	checkListsApart(t, calls, house, slots)
}

// checkListsApart writes over each answer and grows it, and asks whether another one, or an argument, shows it.
func checkListsApart(t *testing.T, calls []func() []int64, handed ...watched) {
	t.Helper()
	for i, call := range calls {
		one := call()
		want := slices.Clone(one)
		for _, other := range calls {
			second := other()
			overwrite(second)
			_ = append(second, 1, 2, 3)
		}
		if !slices.Equal(one, want) {
			t.Fatalf("answer %d became %v, was %v", i, one, want)
		}
		for _, w := range handed {
			w.check(t)
		}
	}
}
