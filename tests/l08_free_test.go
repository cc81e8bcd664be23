package tests

import (
	"math"
	"slices"
	"testing"

	"loop.example/g00337/impl"
)

// attic is a row with free chunks at both ends, alone, and two and three right behind one another.
func attic() watched {
	return watch(joined(
		free(4),                           // 0
		free(2),                           // 4
		[]int64{2, 2, 2, 0},               // 6
		free(6, -7, -7, -7, -7),           // 10: alone, with words in it
		[]int64{1, 21},                    // 16
		free(2),                           // 18
		free(4, 9, 9),                     // 20
		free(2),                           // 24
		[]int64{noteHead + 3, 1000, 9, 9}, // 26
		free(8),                           // 30
		[]int64{pinned + 2 + 64, 4, 8, 0}, // 38
		free(6),                           // 42, up to 48
	)...)
}

func TestFreeInByHand(t *testing.T) {
	w := attic()
	checkFreeIn(t, w, 0, 48, []int64{0, 4, 10, 18, 20, 24, 30, 42})
	checkFreeIn(t, w, 0, 4, []int64{0})
	checkFreeIn(t, w, 4, 48, []int64{4, 10, 18, 20, 24, 30, 42})
	checkFreeIn(t, w, 6, 10, nil)
	checkFreeIn(t, w, 6, 18, []int64{10})
	checkFreeIn(t, w, 18, 26, []int64{18, 20, 24})
	checkFreeIn(t, w, 30, 38, []int64{30})
	checkFreeIn(t, w, 38, 42, nil)
	checkFreeIn(t, w, 42, 48, []int64{42})
	checkFreeIn(t, w, 48, 48, nil)
	// From inside of a chunk: of one that is empty its words are objects without slots, of the other they are no heads.
	checkFreeIn(t, w, 32, 48, []int64{42})
	checkFreeIn(t, w, 12, 48, nil)
	checkFreeIn(t, w, 1, 48, nil)
	checkFreeIn(t, w, 0, 47, nil)
	checkFreeIn(t, w, 0, 44, nil)
	checkFreeIn(t, w, 0, 12, nil)
	checkFreeIn(t, w, 0, 49, nil)
	checkFreeIn(t, w, -1, 48, nil)
	checkFreeIn(t, w, 48, 0, nil)
	checkFreeIn(t, w, 30, 18, nil)
}

func TestBestFitByHand(t *testing.T) {
	w := attic()
	for size, want := range map[int64]int64{2: 4, 4: 0, 6: 10, 8: 30, 10: -1, 12: -1, 1000: -1} {
		checkBestFit(t, w, 0, 48, size, want)
	}
	for _, size := range []int64{0, 1, 3, 5, 7, 9, -1, -2, -4, -8} {
		checkBestFit(t, w, 0, 48, size, -1)
	}
	checkBestFit(t, w, 6, 48, 2, 18)
	checkBestFit(t, w, 6, 48, 4, 20)
	checkBestFit(t, w, 16, 48, 6, 42)
	checkBestFit(t, w, 24, 48, 4, 42)
	checkBestFit(t, w, 30, 42, 2, 30)
	checkBestFit(t, w, 0, 30, 8, -1)
	checkBestFit(t, w, 6, 10, 2, -1)
	checkBestFit(t, w, 10, 10, 2, -1)
	checkBestFit(t, w, 0, 47, 2, -1)
	checkBestFit(t, w, 0, 49, 2, -1)
	checkBestFit(t, w, 12, 48, 2, -1)
	checkBestFit(t, w, 48, 0, 2, -1)
}

func TestCoalescedByHand(t *testing.T) {
	w := attic()
	pieces := [][]int64{free(6), w.row[6:18], free(8), w.row[26:]}
	checkCoalesced(t, w, 0, 48, joined(pieces...), true)
	// What lies ahead of from and behind to stays, also where it meets what lies between them.
	checkCoalesced(t, w, 4, 48, joined(w.row[:18], free(8), w.row[26:]), true)
	checkCoalesced(t, w, 0, 18, joined(free(6), w.row[6:]), true)
	checkCoalesced(t, w, 6, 24, joined(w.row[:18], free(6), w.row[24:]), true)
	checkCoalesced(t, w, 20, 26, joined(w.row[:20], free(6), w.row[26:]), true)
	checkCoalesced(t, w, 20, 24, w.row, true)
	checkCoalesced(t, w, 4, 20, w.row, true)
	checkCoalesced(t, w, 6, 18, w.row, true)
	checkCoalesced(t, w, 26, 48, w.row, true)
	for at := range int64(49) {
		checkCoalesced(t, w, at, at, w.row, true)
	}
	for _, c := range [][2]int64{{0, 47}, {0, 44}, {0, 2}, {0, 49}, {1, 48}, {12, 48}, {-2, 48}, {48, 0}, {48, 50}, {49, 49}, {-1, -1}, {18, 16}} {
		checkCoalesced(t, w, c[0], c[1], w.row, false)
	}
}

func TestFreedByHand(t *testing.T) {
	w := attic()
	checkFreed(t, w, 6, joined(w.row[:6], free(4), w.row[10:]), true)
	checkFreed(t, w, 16, joined(w.row[:16], free(2), w.row[18:]), true)
	checkFreed(t, w, 26, joined(w.row[:26], free(4), w.row[30:]), true)
	checkFreed(t, w, 38, joined(w.row[:38], free(4), w.row[42:]), true)
	for _, at := range []int64{0, 4, 10, 18, 20, 24, 30, 42} {
		checkFreed(t, w, at, w.row, false)
	}
	// A word 2 is the head of an object with two slots wherever it stands, also inside of a chunk.
	checkFreed(t, w, 8, joined(w.row[:8], free(4), w.row[12:]), true)
	checkFreed(t, w, 12, w.row, false)
	checkFreed(t, w, 48, w.row, false)
	checkFreed(t, w, 49, w.row, false)
	checkFreed(t, w, -1, w.row, false)
}

func TestCutByHand(t *testing.T) {
	w := attic()
	checkCut(t, w, 30, 2, joined(w.row[:30], free(2), free(6), w.row[38:]), true)
	checkCut(t, w, 30, 4, joined(w.row[:30], free(4), free(4), w.row[38:]), true)
	checkCut(t, w, 30, 6, joined(w.row[:30], free(6), free(2), w.row[38:]), true)
	checkCut(t, w, 30, 8, w.row, true)
	checkCut(t, w, 42, 4, joined(w.row[:42], free(4), free(2)), true)
	checkCut(t, w, 42, 6, w.row, true)
	checkCut(t, w, 0, 2, joined(free(2), free(2), w.row[4:]), true)
	checkCut(t, w, 4, 2, w.row, true)
	// What lies in the chunk stays where no head comes to stand.
	checkCut(t, w, 10, 2, joined(w.row[:10], free(2), free(4, -7, -7), w.row[16:]), true)
	checkCut(t, w, 10, 4, joined(w.row[:10], free(4, -7, -7), free(2), w.row[16:]), true)
	checkCut(t, w, 10, 6, w.row, true)
	for _, size := range []int64{10, 12, 9, 7, 5, 3, 1, 0, -1, -2, -8} {
		checkCut(t, w, 30, size, w.row, false)
	}
	// The free chunks at 0 and 4 are two: one of them takes 4, not 6.
	checkCut(t, w, 0, 6, w.row, false)
	checkCut(t, w, 4, 4, w.row, false)
	for _, at := range []int64{6, 16, 26, 38, 1, 5, 12, 31, 47, 48, 49, -1, -2} {
		checkCut(t, w, at, 2, w.row, false)
		checkCut(t, w, at, 4, w.row, false)
	}
}

// Rows without free chunks, and with one alone.
func TestFreeRoomOfFewChunks(t *testing.T) {
	sizes := []int64{-2, -1, 0, 1, 2, 3, 4, 5, 6, 7, 8, 9, 10, 12, 1000}
	for _, row := range [][]int64{
		nil, {}, zeros(1), zeros(2), zeros(8), {2, 2, 2, 0}, {noteHead, 4}, {0, 0, 1, 2, 3, 2, 2, 2},
		free(2), free(4), free(6), free(8), free(8, 1, 2, 3, 4, 5, 6), free(4, freeHead, 2),
		joined(free(2), zeros(2)), joined(zeros(2), free(2)), joined(zeros(2), free(6, 5), []int64{1, 2}),
	} {
		w := watch(row...)
		for from := int64(-2); from <= int64(len(row))+2; from++ {
			checkPlace(t, w, from, sizes)
			for to := int64(-2); to <= int64(len(row))+2; to++ {
				checkFromTo(t, w, from, to, sizes)
			}
		}
	}
	for n := 2; n <= 1000; n += 2 {
		w := watch(free(n)...)
		checkFreeIn(t, w, 0, int64(n), []int64{0})
		checkBestFit(t, w, 0, int64(n), 2, 0)
		checkBestFit(t, w, 0, int64(n), int64(n), 0)
		checkBestFit(t, w, 0, int64(n), int64(n)+2, -1)
		checkCut(t, w, 0, int64(n), w.row, true)
		checkCut(t, w, 0, int64(n)+2, w.row, false)
		checkCoalesced(t, w, 0, int64(n), w.row, true)
	}
}

// All short rows of words that tell: every place, every from and every to, every size, against the chapter's words.
func TestFreeRoomOfEveryShortRow(t *testing.T) {
	sizes := []int64{-2, 0, 1, 2, 3, 4, 5, 6, 8}
	for n, alphabet := range [][]int64{
		{},
		{0, 1, 2, freeHead, noteHead, -2},
		{0, 1, 2, 3, 4, freeHead, noteHead, noteHead + 3, marked, -2},
		{0, 1, 2, 4, freeHead, noteHead, -2},
		{0, 2, 4, freeHead, noteHead, marked},
		{0, 2, freeHead, noteHead},
		{2, 4, freeHead},
		{2, freeHead},
		{2, freeHead},
	} {
		eachShortRow(n, alphabet, func(row []int64) {
			w := watch(row...)
			for from := int64(-1); from <= int64(n)+1; from++ {
				checkPlace(t, w, from, sizes)
				for to := int64(-1); to <= int64(n)+1; to++ {
					checkFromTo(t, w, from, to, sizes)
				}
			}
		})
	}
}

// All rows of up to five chunks, from each place and to each place.
func TestFreeRoomOfAllRowsOfChunks(t *testing.T) {
	pieces := [][]int64{free(2), free(4, 9), free(6), zeros(2), {2, 4, 8, 0}, {noteHead, 4}}
	sizes := []int64{2, 4, 6, 8}
	for n := range 6 {
		eachRowOf(n, pieces, func(row []int64) {
			w := watch(row...)
			end := int64(len(row))
			checkFromTo(t, w, 0, end, sizes)
			if n > 3 {
				return
			}
			for from := int64(0); from <= end; from += 2 {
				checkPlace(t, w, from, sizes)
				for to := from; to <= end; to += 2 {
					checkFromTo(t, w, from, to, sizes)
				}
			}
		})
	}
}

// Every right head: where it is not Marked, what it heads is freed, whatever words lie behind it.
func TestFreedOfEveryHead(t *testing.T) {
	for _, h := range rightHeads() {
		size := int(1 + h.Slots + (1+h.Slots)%2)
		body := slices.Repeat([]int64{4}, size)
		body[0] = sumOf(h)
		w := watch(joined([]int64{-5, -5}, body, []int64{-5})...)
		want := joined([]int64{-5, -5}, free(size), []int64{-5})
		if h.Marked || h.Format == impl.FoFree {
			checkFreed(t, w, 2, w.row, false)
			continue
		}
		checkFreed(t, w, 2, want, true)
		// In just its size, at the row's end; not in one word less.
		checkFreed(t, watch(body...), 0, free(size), true)
		short := watch(body[:size-1]...)
		checkFreed(t, short, 0, short.row, false)
	}
}

// Slots that are no right words do not keep an object from being freed; a note that leads nowhere is no chunk.
func TestFreedOfWrongWords(t *testing.T) {
	w := watch(3, -1, 3, math.MinInt64, 129, math.MaxInt64)
	checkFreed(t, w, 0, joined(free(4), w.row[4:]), true)
	checkFreed(t, w, 4, joined(w.row[:4], free(2)), true)
	for _, word := range []int64{2, 1, 0, -4, 4004, 5, math.MaxInt64} {
		note := watch(noteHead+1, word, 0, 0)
		checkFreed(t, note, 0, note.row, false)
	}
	for _, head := range []int64{-1, -2, 21, 64 * 3, 128, freeHead + 1, freeHead + 512, freeHead + pinned, marked, marked + freeHead, math.MinInt64, math.MaxInt64} {
		none := watch(head, 4, 0, 0)
		checkFreed(t, none, 0, none.row, false)
		checkCut(t, none, 0, 2, none.row, false)
		checkCut(t, none, 0, 4, none.row, false)
		checkNoFree(t, none, 0, 4)
	}
}

// What lies behind the end of the row is not the row's, even where it would make a chunk.
func TestFreeRoomEndsWithTheRow(t *testing.T) {
	all := joined(free(4), free(4), []int64{3, 2, 2, 2})
	sizes := []int64{2, 4, 6}
	for n := range len(all) {
		w := watched{row: all[:n], was: slices.Clone(all)}
		for at := range int64(13) {
			checkPlace(t, w, at, sizes)
			for to := at; to <= 13; to++ {
				checkFromTo(t, w, at, to, sizes)
			}
		}
	}
}

// Free chunks right behind one another, as many as there are, become one.
func TestCoalescedOfManyInARow(t *testing.T) {
	for n := 2; n <= 500; n++ {
		row := slices.Repeat([]int64{freeHead, 2}, n)
		w := watch(row...)
		half, end := 2*(n/2), 2*n
		checkCoalesced(t, w, 0, int64(end), free(end), true)
		checkCoalesced(t, w, 0, int64(half), joined(free(half), row[half:]), true)
		checkCoalesced(t, w, int64(half), int64(end), joined(row[:half], free(end-half)), true)
		checkBestFit(t, w, 0, int64(end), 2, 0)
		checkBestFit(t, w, int64(half), int64(end), 2, int64(half))
		checkBestFit(t, w, 0, int64(end), 4, -1)
	}
}

// The least that will do, among sizes that rise, fall and repeat.
func TestBestFitAmongManySizes(t *testing.T) {
	for _, c := range []func(i int64) int64{
		func(i int64) int64 { return 2 + 2*i },
		func(i int64) int64 { return 60 - 2*i },
		func(i int64) int64 { return 2 + 2*(i*7%29) },
		func(i int64) int64 { return 2 + 2*(i%4) },
		func(i int64) int64 { return 8 - 2*(i%4) },
	} {
		row := []int64{}
		for i := range int64(29) {
			row = joined(row, free(int(c(i))), zeros(2))
		}
		w := watch(row...)
		end := int64(len(row))
		for size := int64(-2); size <= 64; size++ {
			checkBestFit(t, w, 0, end, size, wantBestFit(row, 0, end, size))
		}
	}
}

// The promise: a row whose free chunks are empty and meet nowhere is as it was, however often it is Cut, once it is Coalesced.
func TestWhatIsCutAndCoalescedIsAsItWas(t *testing.T) {
	d := &dice{n: 8}
	for range 2000 {
		row := d.room(1+d.roll(12), 30, true)
		end := int64(len(row))
		cutRow := slices.Clone(row)
		for range 1 + d.roll(9) {
			list := wantFreeIn(cutRow, 0, end)
			if len(list) == 0 {
				break
			}
			at := list[d.roll(int64(len(list)))]
			size := 2 + 2*d.roll(cutRow[at+1]/2)
			want, _ := wantCut(cutRow, at, size)
			checkCut(t, watch(cutRow...), at, size, want, true)
			cutRow = want
		}
		checkCoalesced(t, watch(cutRow...), 0, end, row, true)
	}
	for n := 2; n <= 1000; n += 2 {
		row := free(n)
		for _, size := range []int64{2, int64(n) - 2, int64(n), 2 + 2*d.roll(int64(n/2))} {
			made, is := impl.Cut(row, 0, max(size, 2))
			if !is {
				t.Fatalf("a free chunk of %d: Cut of %d says false", n, size)
			}
			checkCoalesced(t, watch(made...), 0, int64(n), row, true)
		}
	}
}

// Rows of many chunks, from any place to any other.
func TestFreeRoomOfManyRows(t *testing.T) {
	d := &dice{n: 88}
	for range 3000 {
		row := d.room(d.roll(24), 12, d.roll(3) == 0)
		w := watch(row...)
		end := int64(len(row))
		borders, _ := wantWalk(row, 0, end)
		borders = append(borders, end)
		sizes := []int64{2, 4, 2 + 2*d.roll(8), d.roll(20)}
		checkFromTo(t, w, 0, end, sizes)
		from := d.roll(int64(len(borders)))
		to := from + d.roll(int64(len(borders))-from)
		checkFromTo(t, w, borders[from], borders[to], sizes)
		checkFromTo(t, w, d.roll(end+1), d.roll(end+2), sizes)
		checkPlace(t, w, borders[from], sizes)
		checkPlace(t, w, d.roll(end+2), sizes)
	}
}

// All that is Freed and then Coalesced is one free chunk.
func TestAllFreedAndCoalescedIsOneChunk(t *testing.T) {
	d := &dice{n: 888}
	for range 300 {
		row := d.room(1+d.roll(30), 20, false)
		end := int64(len(row))
		places, _ := wantWalk(row, 0, end)
		for _, at := range places {
			want, is := wantFreed(row, at)
			checkFreed(t, watch(row...), at, want, is)
			row = want
		}
		checkFreeIn(t, watch(row...), 0, end, places)
		checkCoalesced(t, watch(row...), 0, end, free(int(end)), true)
	}
}

func TestFreeRoomOfTheLongestRow(t *testing.T) {
	w := watch(joined(free(498), zeros(2), free(250), free(250))...)
	checkFreeIn(t, w, 0, 1000, []int64{0, 500, 750})
	checkFreeIn(t, w, 0, 1001, nil)
	checkBestFit(t, w, 0, 1000, 250, 500)
	checkBestFit(t, w, 750, 1000, 250, 750)
	checkBestFit(t, w, 0, 1000, 252, 0)
	checkBestFit(t, w, 0, 1000, 498, 0)
	checkBestFit(t, w, 0, 1000, 500, -1)
	checkFreed(t, w, 498, joined(free(498), free(2), free(250), free(250)), true)
	checkFreed(t, w, 998, joined(w.row[:998], free(2)), true)
	checkFreed(t, w, 999, w.row, false)
	checkCut(t, w, 750, 248, joined(w.row[:750], free(248), free(2)), true)
	checkCut(t, w, 750, 250, w.row, true)
	checkCut(t, w, 750, 252, w.row, false)
	checkCoalesced(t, w, 0, 1000, joined(free(498), zeros(2), free(500)), true)
	checkCoalesced(t, w, 0, 1001, w.row, false)
}

// Of what is no row nothing is told, also at places that it has.
func TestWhatIsNoRowHasNoFreeRoom(t *testing.T) {
	for _, n := range []int{1001, 1002, 2000} {
		for _, row := range [][]int64{zeros(n), zeros(n, freeHead, 4, freeHead, 4), zeros(n, free(1000)...)} {
			w := watch(row...)
			for _, at := range append([]int64{0, 2, 4, 1000, 1001, 1002}, someEnds...) {
				checkFreeIn(t, w, 0, at, nil)
				checkFreeIn(t, w, at, at, nil)
				checkBestFit(t, w, 0, at, 2, -1)
				checkBestFit(t, w, 0, 1000, at, -1)
				checkFreed(t, w, at, nil, false)
				checkCut(t, w, at, 2, nil, false)
				checkCut(t, w, 0, at, nil, false)
				checkCoalesced(t, w, 0, at, nil, false)
				checkCoalesced(t, w, at, at, nil, false)
			}
		}
	}
}

// Numbers so far out that a sum or a difference of them wraps round into the row again.
func TestFarPlacesAndSizesOfFreeRoom(t *testing.T) {
	for _, row := range [][]int64{nil, free(2), free(6), joined(free(4), free(2), zeros(2)), zeros(4), free(1000)} {
		w := watch(row...)
		end := int64(len(row))
		near := []int64{0, 1, 2, end - 2, end - 1, end, end + 1, end + 2}
		for _, far := range someEnds {
			checkFreed(t, w, far, row, false)
			checkBestFit(t, w, 0, end, far, -1)
			checkCut(t, w, 0, far, row, false)
			for _, other := range append(near, someEnds...) {
				checkCut(t, w, far, other, row, false)
				checkCut(t, w, other, far, row, false)
				checkBestFit(t, w, other, end, far, -1)
				checkNoFree(t, w, far, other)
				checkNoFree(t, w, other, far)
			}
		}
	}
}

// Sizes of free chunks that are so great that what lies behind them wraps round.
func TestFreeChunksThatGoOut(t *testing.T) {
	for _, size := range []int64{math.MaxInt64, math.MaxInt64 - 1, math.MinInt64, -2, -1, 0, 1, 3, 5, 8, 1 << 40} {
		w := watch(0, 0, freeHead, size, 0, 0, 0, 0)
		checkNoFree(t, w, 0, 8)
		checkNoFree(t, w, 2, 8)
		checkCut(t, w, 2, 2, w.row, false)
		checkCut(t, w, 2, size, w.row, false)
		checkFreed(t, w, 2, w.row, false)
		checkFreeIn(t, w, 0, 2, nil)
		checkCoalesced(t, w, 0, 2, w.row, true)
	}
}

// Answers to one row, one beside the other, have nothing of one another.
func TestFreeAnswersShareNothing(t *testing.T) {
	w := attic()
	calls := []func() []int64{
		func() []int64 { return impl.FreeIn(w.row, 0, 48) },
		func() []int64 { return impl.FreeIn(w.row, 0, 47) },
		func() []int64 { return first(impl.Freed(w.row, 6)) },
		func() []int64 { return first(impl.Freed(w.row, 0)) },
		func() []int64 { return first(impl.Cut(w.row, 30, 2)) },
		func() []int64 { return first(impl.Cut(w.row, 30, 8)) },
		func() []int64 { return first(impl.Cut(w.row, 30, 10)) },
		func() []int64 { return first(impl.Coalesced(w.row, 0, 48)) },
		func() []int64 { return first(impl.Coalesced(w.row, 26, 48)) },
		func() []int64 { return first(impl.Coalesced(w.row, 48, 48)) },
		func() []int64 { return first(impl.Coalesced(w.row, 0, 47)) },
	}
	checkListsApart(t, calls, w)
}
