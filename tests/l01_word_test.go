package tests

import (
	"math"
	"testing"

	"loop.example/g00337/impl"
)

// saying is what a word should be told to be, written out apart from how the program tells it.
type saying struct {
	ok     bool
	n      int64
	isInt  bool
	a      int64
	isAddr bool
}

func checkWord(t *testing.T, w int64, want saying) {
	t.Helper()
	n, isInt := impl.IntOf(w)
	a, isAddr := impl.AddrOf(w)
	got := saying{impl.WordOk(w), n, isInt, a, isAddr}
	if got != want {
		t.Fatalf("word %d: got %+v, want %+v", w, got, want)
	}
}

func TestWordsToldBackAsWhatTheyWereMadeOf(t *testing.T) {
	for _, n := range []int64{0, 1, -1, 2, -2, 5, 777, -4096, 99999, -99999} {
		if got := impl.OfInt(n); got != 4*n+1 {
			t.Fatalf("OfInt(%d) = %d, want %d", n, got, 4*n+1)
		}
		checkWord(t, impl.OfInt(n), saying{ok: true, n: n, isInt: true})
	}
	for _, a := range []int64{0, 1, 2, 10, 500, 998, 999} {
		if got := impl.OfAddr(a); got != 4*a+4 {
			t.Fatalf("OfAddr(%d) = %d, want %d", a, got, 4*a+4)
		}
		checkWord(t, impl.OfAddr(a), saying{ok: true, a: a, isAddr: true})
	}
}

func TestWordLimits(t *testing.T) {
	if impl.Nil != 2 || impl.MaxInt != 100000 || impl.MaxAddr != 999 {
		t.Fatal("constants", impl.Nil, impl.MaxInt, impl.MaxAddr)
	}
	checkWord(t, 2, saying{ok: true})
	for _, c := range []struct{ n, w int64 }{
		{100000, 400001}, {-100000, -399999}, {100001, 2}, {-100001, 2},
	} {
		if got := impl.OfInt(c.n); got != c.w {
			t.Errorf("OfInt(%d) = %d, want %d", c.n, got, c.w)
		}
	}
	for _, c := range []struct{ a, w int64 }{
		{0, 4}, {999, 4000}, {-1, 2}, {1000, 2},
	} {
		if got := impl.OfAddr(c.a); got != c.w {
			t.Errorf("OfAddr(%d) = %d, want %d", c.a, got, c.w)
		}
	}
	checkWord(t, 400001, saying{ok: true, n: 100000, isInt: true})
	checkWord(t, -399999, saying{ok: true, n: -100000, isInt: true})
	checkWord(t, 4, saying{ok: true, isAddr: true})
	checkWord(t, 4000, saying{ok: true, a: 999, isAddr: true})
	for _, w := range []int64{400005, -400003, 0, 4004} {
		checkWord(t, w, saying{})
	}
}

func TestWordsThatAreNone(t *testing.T) {
	for _, w := range []int64{0, 3, -1, -2, -4, 6, 7, 10, 4002, 4004, 400005, -400003} {
		checkWord(t, w, saying{})
	}
}

// Every word near the ranges is held against a table made by the document's own sums.
func TestEveryWordNearTheRanges(t *testing.T) {
	want := map[int64]saying{2: {ok: true}}
	for n := int64(-100000); n <= 100000; n++ {
		want[4*n+1] = saying{ok: true, n: n, isInt: true}
	}
	for a := int64(0); a <= 999; a++ {
		want[4*a+4] = saying{ok: true, a: a, isAddr: true}
	}
	if len(want) != 1+200001+1000 {
		t.Fatal("two meanings share a word", len(want))
	}
	for w := int64(-500000); w <= 500000; w++ {
		checkWord(t, w, want[w])
	}
}

// Where 4 times a number would wrap round, a wrong program takes it for a small one.
func TestWordsFarOut(t *testing.T) {
	for d := int64(0); d < 5000; d++ {
		for _, w := range []int64{math.MaxInt64 - d, math.MinInt64 + d, 1<<62 + d, 1<<62 - d, -1<<62 + d, -1<<62 - d, 1<<32 + d, -1<<32 + d} {
			if w < 500000 && w > -500000 {
				t.Fatal("not far out", w)
			}
			checkWord(t, w, saying{})
			if impl.OfInt(w) != impl.Nil || impl.OfAddr(w) != impl.Nil {
				t.Fatalf("%d: OfInt %d, OfAddr %d, want Nil", w, impl.OfInt(w), impl.OfAddr(w))
			}
		}
	}
}
