package tests

import (
	"slices"
	"testing"

	"loop.example/g00337/impl"
)

// free is a free chunk of n words, with those given behind its second word.
func free(n int, behind ...int64) []int64 {
	return zeros(n, slices.Concat([]int64{freeHead, int64(n)}, behind)...)
}

// walkWithin is wantWalk, with nothing and false where from or to is out of range.
func walkWithin(row []int64, from, to int64) ([]int64, bool) {
	if from < 0 || to < from || to > int64(len(row)) {
		return nil, false
	}
	return wantWalk(row, from, to)
}

func isFreeByHand(row []int64, at int64) bool {
	return wantChunk(row, at) > 0 && row[at] == freeHead
}

func wantFreeIn(row []int64, from, to int64) []int64 {
	places, _ := walkWithin(row, from, to)
	list := []int64{}
	for _, at := range places {
		if isFreeByHand(row, at) {
			list = append(list, at)
		}
	}
	return list
}

// isBestFit holds a place against all free ones: it will do, and none that will do takes less, or as much and lies ahead.
func isBestFit(row []int64, list []int64, size, at int64) bool {
	if !slices.Contains(list, at) || row[at+1] < size {
		return false
	}
	for _, other := range list {
		if takes := row[other+1]; takes >= size && (takes < row[at+1] || takes == row[at+1] && other < at) {
			return false
		}
	}
	return true
}

func wantBestFit(row []int64, from, to, size int64) int64 {
	if size < 2 || size%2 != 0 {
		return -1
	}
	list := wantFreeIn(row, from, to)
	for _, at := range list {
		if isBestFit(row, list, size, at) {
			return at
		}
	}
	return -1
}

func wantFreed(row []int64, at int64) ([]int64, bool) {
	size := wantChunk(row, at)
	if size == 0 || isFreeByHand(row, at) {
		return row, false
	}
	return joined(row[:at], free(int(size)), row[at+size:]), true
}

// wantCut writes the two heads alone: what else lies in the chunk stays.
func wantCut(row []int64, at, size int64) ([]int64, bool) {
	if size < 2 || size%2 != 0 || !isFreeByHand(row, at) || size > row[at+1] {
		return row, false
	}
	want := slices.Clone(row)
	want[at+1] = size
	if size < row[at+1] {
		want[at+size] = freeHead
		want[at+size+1] = row[at+1] - size
	}
	return want, true
}

// wantCoalesced makes one of the first two free chunks that meet, again and again, until none do.
func wantCoalesced(row []int64, from, to int64) ([]int64, bool) {
	_, is := walkWithin(row, from, to)
	list := wantFreeIn(row, from, to)
	for i, at := range list {
		end := at + row[at+1]
		if i+1 < len(list) && list[i+1] == end {
			both := free(int(row[at+1] + row[end+1]))
			return wantCoalesced(joined(row[:at], both, row[at+int64(len(both)):]), from, to)
		}
	}
	return row, is
}

func checkFreeIn(t *testing.T, w watched, from, to int64, want []int64) {
	t.Helper()
	got := impl.FreeIn(w.row, from, to)
	if !slices.Equal(got, want) {
		t.Fatalf("row of %d, %v: FreeIn from %d to %d = %v, want %v", len(w.row), w.row, from, to, got, want)
	}
	overwrite(got)
	w.check(t)
}

func checkBestFit(t *testing.T, w watched, from, to, size, want int64) {
	t.Helper()
	if got := impl.BestFit(w.row, from, to, size); got != want {
		t.Fatalf("row of %d, %v: BestFit from %d to %d of %d = %d, want %d", len(w.row), w.row, from, to, size, got, want)
	}
	w.check(t)
}

// checkAnswer holds a row that was answered against what is wanted; then whoever has it writes over all of it.
func checkAnswer(t *testing.T, name string, w watched, got []int64, is bool, want []int64, wantIs bool) {
	t.Helper()
	if is != wantIs || !slices.Equal(got, want) {
		t.Fatalf("row of %d, %v: %s = %v, %v, want %v, %v", len(w.row), w.row, name, got, is, want, wantIs)
	}
	overwrite(got)
	w.check(t)
}

func checkFreed(t *testing.T, w watched, at int64, want []int64, wantIs bool) {
	t.Helper()
	got, is := impl.Freed(w.row, at)
	checkAnswer(t, "Freed", w, got, is, want, wantIs)
}

func checkCut(t *testing.T, w watched, at, size int64, want []int64, wantIs bool) {
	t.Helper()
	got, is := impl.Cut(w.row, at, size)
	checkAnswer(t, "Cut", w, got, is, want, wantIs)
}

func checkCoalesced(t *testing.T, w watched, from, to int64, want []int64, wantIs bool) {
	t.Helper()
	got, is := impl.Coalesced(w.row, from, to)
	checkAnswer(t, "Coalesced", w, got, is, want, wantIs)
}

// checkFromTo asks all that goes from one place to another, of each of the sizes, against the chapter's words.
func checkFromTo(t *testing.T, w watched, from, to int64, sizes []int64) {
	t.Helper()
	checkFreeIn(t, w, from, to, wantFreeIn(w.row, from, to))
	for _, size := range sizes {
		checkBestFit(t, w, from, to, size, wantBestFit(w.row, from, to, size))
	}
	want, is := wantCoalesced(w.row, from, to)
	checkCoalesced(t, w, from, to, want, is)
}

// checkPlace asks all that is asked of one place, of each of the sizes, against the chapter's words.
func checkPlace(t *testing.T, w watched, at int64, sizes []int64) {
	t.Helper()
	want, is := wantFreed(w.row, at)
	checkFreed(t, w, at, want, is)
	for _, size := range sizes {
		want, is := wantCut(w.row, at, size)
		checkCut(t, w, at, size, want, is)
	}
}

// checkNoFree: from there to there nothing is walked.
func checkNoFree(t *testing.T, w watched, from, to int64) {
	t.Helper()
	checkFreeIn(t, w, from, to, nil)
	checkBestFit(t, w, from, to, 2, -1)
	checkCoalesced(t, w, from, to, w.row, false)
}

// eachRowOf goes through all rows of n of the pieces, one behind the other.
func eachRowOf(n int, pieces [][]int64, look func(row []int64)) {
	var grow func(row []int64, left int)
	grow = func(row []int64, left int) {
		if left == 0 {
			look(row)
			return
		}
		for _, p := range pieces {
			grow(joined(row, p), left-1)
		}
	}
	grow(nil, n)
}

// room is a row of n pieces: free chunks of up to most words, and objects between them, none of what is free right behind another where apart is told.
func (d *dice) room(n, most int64, apart bool) []int64 {
	objects := [][]int64{zeros(2), {1, 21}, {2, 25, 2, 0}, {noteHead + 3, 1000, 9, 9}, {129, 4}, {3, 2, 2, 2}, zeros(8, 6, 2)}
	row := []int64{}
	behindFree := false
	for range n {
		behindFree = d.roll(2) == 0 && !(apart && behindFree)
		if behindFree {
			row = joined(row, free(int(2+2*d.roll(most/2))))
		} else {
			row = joined(row, objects[d.roll(int64(len(objects)))])
		}
	}
	return row
}
