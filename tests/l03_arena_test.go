package tests

import (
	"math"
	"slices"
	"testing"

	"loop.example/g00337/impl"
)

// spare marks the room behind a row: whoever writes there is found out.
const spare = -77777

// someEnds are what a place, an end or a count may be far from every row: sums of two of them wrap round.
var someEnds = []int64{
	math.MinInt64, math.MinInt64 + 1, math.MinInt64 + 1000, -1 << 32, -1001, -1000, -2, -1,
	1002, 1 << 32, math.MaxInt64 - 1000, math.MaxInt64 - 1, math.MaxInt64,
}

// numbered is a row of n numbers, no two alike, the word at i being 1000 i + 7, with spare room behind it.
func numbered(n int) []int64 {
	all := make([]int64, n+5)
	for i := range all {
		all[i] = spare
	}
	for i := range n {
		all[i] = 1000*int64(i) + 7
	}
	return all[:n]
}

// checkRow holds an answer against what is wanted, and the row that was handed in against what it was made as.
func checkRow(t *testing.T, row []int64, got []int64, is bool, want []int64, wantIs bool) {
	t.Helper()
	if is != wantIs || !slices.Equal(got, want) {
		t.Fatalf("row of %d: got %v, %v, want %v, %v", len(row), got, is, want, wantIs)
	}
	checkUntouched(t, row)
	overwrite(got)
	checkUntouched(t, row)
}

func checkUntouched(t *testing.T, row []int64) {
	t.Helper()
	all := row[:cap(row)]
	for i, w := range all {
		if i < len(row) && w != 1000*int64(i)+7 {
			t.Fatalf("row of %d: its word at %d became %d", len(row), i, w)
		}
		if i >= len(row) && i < len(row)+5 && w != spare {
			t.Fatalf("row of %d: the room behind it, at %d, became %d", len(row), i, w)
		}
	}
}

// overwrite writes over an answer and over all the room behind it, as whoever has it may.
func overwrite(got []int64) {
	all := got[:cap(got)]
	for i := range all {
		all[i] = 4444444
	}
}

// wantFilled and wantMoved are the chapter's words, place by place; they are asked only of what is in range.
func wantFilled(row []int64, from, to, w int64) []int64 {
	want := make([]int64, len(row))
	for i := range row {
		want[i] = row[i]
		if from <= int64(i) && int64(i) <= to-1 {
			want[i] = w
		}
	}
	return want
}

func wantMoved(row []int64, from, to, n int64) []int64 {
	want := make([]int64, len(row))
	for i := range row {
		want[i] = row[i]
		if behind := int64(i) - to; 0 <= behind && behind < n {
			want[i] = row[from+behind]
		}
	}
	return want
}

func checkRead(t *testing.T, row []int64, at int64, want int64, wantIs bool) {
	t.Helper()
	if got, is := impl.ReadAt(row, at); got != want || is != wantIs {
		t.Fatalf("row of %d: ReadAt %d = %d, %v, want %d, %v", len(row), at, got, is, want, wantIs)
	}
	checkUntouched(t, row)
}

func checkWrite(t *testing.T, row []int64, at, w int64, want []int64, wantIs bool) {
	t.Helper()
	got, is := impl.WriteAt(row, at, w)
	checkRow(t, row, got, is, want, wantIs)
}

func checkFilled(t *testing.T, row []int64, from, to, w int64, want []int64, wantIs bool) {
	t.Helper()
	got, is := impl.Filled(row, from, to, w)
	checkRow(t, row, got, is, want, wantIs)
}

func checkMoved(t *testing.T, row []int64, from, to, n int64, want []int64, wantIs bool) {
	t.Helper()
	got, is := impl.Moved(row, from, to, n)
	checkRow(t, row, got, is, want, wantIs)
}

func TestMaxRow(t *testing.T) {
	if impl.MaxRow != 1000 {
		t.Error("MaxRow", impl.MaxRow)
	}
}

func TestRowsByHand(t *testing.T) {
	row := []int64{1, 2, 3, 4, 5}
	for _, c := range []struct {
		name string
		call func() ([]int64, bool)
		want []int64
		is   bool
	}{
		{"write first", func() ([]int64, bool) { return impl.WriteAt(row, 0, 9) }, []int64{9, 2, 3, 4, 5}, true},
		{"write last", func() ([]int64, bool) { return impl.WriteAt(row, 4, 9) }, []int64{1, 2, 3, 4, 9}, true},
		{"write past", func() ([]int64, bool) { return impl.WriteAt(row, 5, 9) }, []int64{1, 2, 3, 4, 5}, false},
		{"fill some", func() ([]int64, bool) { return impl.Filled(row, 1, 3, 9) }, []int64{1, 9, 9, 4, 5}, true},
		{"fill all", func() ([]int64, bool) { return impl.Filled(row, 0, 5, 9) }, []int64{9, 9, 9, 9, 9}, true},
		{"fill none", func() ([]int64, bool) { return impl.Filled(row, 2, 2, 9) }, []int64{1, 2, 3, 4, 5}, true},
		{"fill none at the end", func() ([]int64, bool) { return impl.Filled(row, 5, 5, 9) }, []int64{1, 2, 3, 4, 5}, true},
		{"fill past", func() ([]int64, bool) { return impl.Filled(row, 3, 6, 9) }, []int64{1, 2, 3, 4, 5}, false},
		{"fill none past", func() ([]int64, bool) { return impl.Filled(row, 6, 6, 9) }, []int64{1, 2, 3, 4, 5}, false},
		{"fill backward", func() ([]int64, bool) { return impl.Filled(row, 3, 2, 9) }, []int64{1, 2, 3, 4, 5}, false},
		{"move forward", func() ([]int64, bool) { return impl.Moved(row, 0, 1, 4) }, []int64{1, 1, 2, 3, 4}, true},
		{"move backward", func() ([]int64, bool) { return impl.Moved(row, 1, 0, 4) }, []int64{2, 3, 4, 5, 5}, true},
		{"move apart", func() ([]int64, bool) { return impl.Moved(row, 0, 3, 2) }, []int64{1, 2, 3, 1, 2}, true},
		{"move none", func() ([]int64, bool) { return impl.Moved(row, 5, 5, 0) }, []int64{1, 2, 3, 4, 5}, true},
		{"move to past", func() ([]int64, bool) { return impl.Moved(row, 0, 3, 3) }, []int64{1, 2, 3, 4, 5}, false},
		{"move from past", func() ([]int64, bool) { return impl.Moved(row, 3, 0, 3) }, []int64{1, 2, 3, 4, 5}, false},
		{"move fewer than none", func() ([]int64, bool) { return impl.Moved(row, 2, 2, -1) }, []int64{1, 2, 3, 4, 5}, false},
	} {
		got, is := c.call()
		if is != c.is || !slices.Equal(got, c.want) {
			t.Errorf("%s: %v, %v, want %v, %v", c.name, got, is, c.want, c.is)
		}
		if !slices.Equal(row, []int64{1, 2, 3, 4, 5}) {
			t.Fatalf("%s: the row became %v", c.name, row)
		}
	}
}

// Every place from below the row to past it, of rows of each length from 0 on.
func TestReadAndWrittenAtEveryPlace(t *testing.T) {
	for n := range 13 {
		row := numbered(n)
		for at := int64(-4); at <= int64(n)+7; at++ {
			if at < 0 || at >= int64(n) {
				checkRead(t, row, at, 0, false)
				checkWrite(t, row, at, 5, row, false)
				continue
			}
			checkRead(t, row, at, row[at], true)
			checkWrite(t, row, at, 5, wantFilled(row, at, at+1, 5), true)
		}
	}
}

func TestWhatIsWrittenIsRead(t *testing.T) {
	row := numbered(9)
	for _, w := range []int64{0, 1, -1, impl.Nil, math.MinInt64, math.MaxInt64, 17179869183} {
		for at := range int64(9) {
			made, is := impl.WriteAt(row, at, w)
			if !is {
				t.Fatalf("WriteAt %d: false", at)
			}
			for other := range int64(9) {
				want := row[other]
				if other == at {
					want = w
				}
				if got, is := impl.ReadAt(made, other); !is || got != want {
					t.Fatalf("%d written at %d: ReadAt %d = %d, %v, want %d", w, at, other, got, is, want)
				}
			}
		}
	}
}

func TestFilledFromEveryPlaceToEveryPlace(t *testing.T) {
	for n := range int64(10) {
		row := numbered(int(n))
		for from := int64(-3); from <= n+7; from++ {
			for to := int64(-3); to <= n+7; to++ {
				if 0 <= from && from <= to && to <= n {
					checkFilled(t, row, from, to, -3, wantFilled(row, from, to, -3), true)
				} else {
					checkFilled(t, row, from, to, -3, row, false)
				}
			}
		}
	}
}

func TestMovedFromEveryPlaceToEveryPlace(t *testing.T) {
	for length := range int64(9) {
		row := numbered(int(length))
		for from := int64(-3); from <= length+6; from++ {
			for to := int64(-3); to <= length+6; to++ {
				for n := int64(-3); n <= length+6; n++ {
					if 0 <= from && 0 <= to && 0 <= n && from+n <= length && to+n <= length {
						checkMoved(t, row, from, to, n, wantMoved(row, from, to, n), true)
					} else {
						checkMoved(t, row, from, to, n, row, false)
					}
				}
			}
		}
	}
}

// A row may have just MaxRow numbers: its last place is one like the others.
func TestTheLongestRow(t *testing.T) {
	row := numbered(1000)
	checkRead(t, row, 0, 7, true)
	checkRead(t, row, 999, 999007, true)
	checkRead(t, row, 1000, 0, false)
	checkWrite(t, row, 0, 5, wantFilled(row, 0, 1, 5), true)
	checkWrite(t, row, 999, 5, wantFilled(row, 999, 1000, 5), true)
	checkWrite(t, row, 1000, 5, row, false)
	checkFilled(t, row, 0, 1000, 5, wantFilled(row, 0, 1000, 5), true)
	checkFilled(t, row, 500, 1000, 5, wantFilled(row, 500, 1000, 5), true)
	checkFilled(t, row, 1000, 1000, 5, row, true)
	checkFilled(t, row, 500, 1001, 5, row, false)
	checkFilled(t, row, 1001, 1001, 5, row, false)
	checkMoved(t, row, 0, 0, 1000, row, true)
	checkMoved(t, row, 0, 1, 999, wantMoved(row, 0, 1, 999), true)
	checkMoved(t, row, 1, 0, 999, wantMoved(row, 1, 0, 999), true)
	checkMoved(t, row, 300, 500, 500, wantMoved(row, 300, 500, 500), true)
	checkMoved(t, row, 1000, 1000, 0, row, true)
	checkMoved(t, row, 0, 1000, 0, row, true)
	checkMoved(t, row, 1001, 0, 0, row, false)
	checkMoved(t, row, 0, 1001, 0, row, false)
	checkMoved(t, row, 1, 0, 1000, row, false)
	checkMoved(t, row, 0, 1, 1000, row, false)
	checkMoved(t, row, 0, 0, 1001, row, false)
}

// Of what is no row nothing is told, also at places that it has.
func TestWhatIsNoRow(t *testing.T) {
	for _, n := range []int{1001, 1002, 2000} {
		row := numbered(n)
		for _, at := range append([]int64{0, 1, 999, 1000, 1001}, someEnds...) {
			checkRead(t, row, at, 0, false)
			checkWrite(t, row, at, 5, nil, false)
			checkFilled(t, row, at, at, 5, nil, false)
			checkFilled(t, row, 0, at, 5, nil, false)
			checkMoved(t, row, at, 0, 1, nil, false)
			checkMoved(t, row, 0, at, 1, nil, false)
			checkMoved(t, row, 0, 0, at, nil, false)
			checkMoved(t, row, 0, 1, 0, nil, false)
		}
	}
}

// nil and an empty list are one row, with no place but room for nothing at its end.
func TestTheEmptyRow(t *testing.T) {
	for _, row := range [][]int64{nil, {}, numbered(0)} {
		for _, at := range append([]int64{0, 1}, someEnds...) {
			checkRead(t, row, at, 0, false)
			checkWrite(t, row, at, 5, nil, false)
			checkFilled(t, row, at, at, 5, nil, at == 0)
			checkFilled(t, row, 0, at, 5, nil, at == 0)
			checkMoved(t, row, at, 0, 0, nil, at == 0)
			checkMoved(t, row, 0, at, 0, nil, at == 0)
			checkMoved(t, row, 0, 0, at, nil, at == 0)
		}
	}
}

// Numbers so far out that a sum or a difference of them wraps round into the row again.
func TestFarPlacesAndCounts(t *testing.T) {
	for _, length := range []int{0, 1, 2, 7, 999, 1000} {
		row := numbered(length)
		near := []int64{0, 1, int64(length) - 1, int64(length), int64(length) + 1}
		for _, far := range someEnds {
			checkRead(t, row, far, 0, false)
			checkWrite(t, row, far, 5, row, false)
			for _, other := range append(near, someEnds...) {
				checkFilled(t, row, far, other, 5, row, false)
				checkFilled(t, row, other, far, 5, row, false)
				for _, third := range []int64{0, 1, -1, 1 - far, -far, -1 - far, int64(length) - far, far} {
					checkMoved(t, row, far, other, third, row, false)
					checkMoved(t, row, other, far, third, row, false)
					checkMoved(t, row, other, third, far, row, false)
				}
			}
		}
	}
}

// Answers of one row, one beside the other, have nothing of one another.
func TestRowsAnsweredShareNothing(t *testing.T) {
	row := numbered(6)
	calls := []func() ([]int64, bool){
		func() ([]int64, bool) { return impl.WriteAt(row, 2, 5) },
		func() ([]int64, bool) { return impl.WriteAt(row, 6, 5) },
		func() ([]int64, bool) { return impl.Filled(row, 1, 4, 5) },
		func() ([]int64, bool) { return impl.Filled(row, 3, 3, 5) },
		func() ([]int64, bool) { return impl.Filled(row, 4, 3, 5) },
		func() ([]int64, bool) { return impl.Moved(row, 0, 2, 4) },
		func() ([]int64, bool) { return impl.Moved(row, 1, 1, 3) },
		func() ([]int64, bool) { return impl.Moved(row, 1, 4, 0) },
		func() ([]int64, bool) { return impl.Moved(row, 1, 4, 3) },
	}
	for i, call := range calls {
		first, _ := call()
		want := slices.Clone(first)
		for _, other := range calls {
			second, _ := other()
			overwrite(second)
			// What is appended to one answer may not show in another either.
			_ = append(second, 1, 2, 3)
		}
		if !slices.Equal(first, want) {
			t.Fatalf("answer %d became %v, was %v", i, first, want)
		}
		checkUntouched(t, row)
	}
}
