package tests

import (
	"math"
	"testing"

	"loop.example/g00337/impl"
)

// someHashes are the ends, their neighbours and single bits: enough to meet each bit of a Hash.
var someHashes = []int64{0, 1, 2, 255, 256, 32767, 32768, 43690, 65534, 65535}

// sumOf is the document's sum, said apart from how the program packs.
func sumOf(h impl.Head) int64 {
	sum := h.Slots + 64*h.Format + 512*h.Class + 65536*h.Hash
	if h.Pinned {
		sum += 4294967296
	}
	if h.Marked {
		sum += 8589934592
	}
	return sum
}

// rightHeads are all right heads with one of someHashes, counted out by the document's ranges.
func rightHeads() []impl.Head {
	list := []impl.Head{{Format: 6}}
	for _, least := range []struct{ format, slots int64 }{{0, 0}, {1, 0}, {2, 1}, {7, 0}} {
		for slots := least.slots; slots <= 20; slots++ {
			for class := int64(0); class <= 99; class++ {
				for _, hash := range someHashes {
					for flags := 0; flags < 4; flags++ {
						list = append(list, impl.Head{
							Slots: slots, Format: least.format, Class: class, Hash: hash,
							Pinned: flags&1 != 0, Marked: flags&2 != 0,
						})
					}
				}
			}
		}
	}
	return list
}

// checkNoHead: w is what no right head is packed as.
func checkNoHead(t *testing.T, w int64) {
	t.Helper()
	if h, is := impl.Unpacked(w); is || h != (impl.Head{}) {
		t.Fatalf("Unpacked(%d) = %+v, %v, want the zero Head and false", w, h, is)
	}
}

func checkWrongHead(t *testing.T, h impl.Head) {
	t.Helper()
	if impl.HeadOk(h) || impl.Packed(h) != -1 {
		t.Fatalf("%+v: HeadOk %v, Packed %d, want false and -1", h, impl.HeadOk(h), impl.Packed(h))
	}
}

func checkRightHead(t *testing.T, h impl.Head) {
	t.Helper()
	w := impl.Packed(h)
	if !impl.HeadOk(h) || w != sumOf(h) {
		t.Fatalf("%+v: HeadOk %v, Packed %d, want true and %d", h, impl.HeadOk(h), w, sumOf(h))
	}
	if back, is := impl.Unpacked(w); !is || back != h {
		t.Fatalf("Unpacked(%d) = %+v, %v, want %+v", w, back, is, h)
	}
}

func TestHeadConstants(t *testing.T) {
	if impl.MaxSlots != 20 {
		t.Error("MaxSlots", impl.MaxSlots)
	}
	got := [5]int64{impl.FoPlain, impl.FoWeak, impl.FoEphem, impl.FoFree, impl.FoForward}
	if got != [5]int64{0, 1, 2, 6, 7} {
		t.Error("formats", got)
	}
}

func TestHeadsPackedByHand(t *testing.T) {
	for _, c := range []struct {
		h impl.Head
		w int64
	}{
		{impl.Head{}, 0},
		{impl.Head{Slots: 20}, 20},
		{impl.Head{Slots: 1, Format: impl.FoWeak}, 65},
		{impl.Head{Slots: 1, Format: impl.FoEphem}, 129},
		{impl.Head{Format: impl.FoFree}, 384},
		{impl.Head{Format: impl.FoForward}, 448},
		{impl.Head{Class: 99}, 50688},
		{impl.Head{Hash: 65535}, 4294901760},
		{impl.Head{Pinned: true}, 4294967296},
		{impl.Head{Marked: true}, 8589934592},
		{impl.Head{Slots: 20, Format: impl.FoForward, Class: 99, Hash: 65535, Pinned: true, Marked: true}, 17179854804},
	} {
		if got := impl.Packed(c.h); got != c.w {
			t.Errorf("Packed(%+v) = %d, want %d", c.h, got, c.w)
		}
	}
}

func TestEveryRightHeadIsToldAgain(t *testing.T) {
	of := map[int64]impl.Head{}
	for _, h := range rightHeads() {
		checkRightHead(t, h)
		w := impl.Packed(h)
		if other, met := of[w]; met {
			t.Fatalf("%+v and %+v are both packed as %d", h, other, w)
		}
		of[w] = h
	}
}

// Every pattern of the bits below the Hash, with someHashes and all flags: a head is told just where there is one.
func TestEveryPatternBelowTheHash(t *testing.T) {
	want := map[int64]impl.Head{}
	for _, h := range rightHeads() {
		want[sumOf(h)] = h
	}
	told := 0
	for _, hash := range someHashes {
		for flags := int64(0); flags < 4; flags++ {
			for low := int64(0); low < 65536; low++ {
				w := low + 65536*hash + 4294967296*flags
				h, is := impl.Unpacked(w)
				right, met := want[w]
				if is != met || h != right {
					t.Fatalf("Unpacked(%d) = %+v, %v, want %+v, %v", w, h, is, right, met)
				}
				if is {
					told++
				}
			}
		}
	}
	if told != len(want) {
		t.Fatalf("%d heads told of %d", told, len(want))
	}
}

func TestHeadEdges(t *testing.T) {
	for _, format := range []int64{impl.FoPlain, impl.FoWeak, impl.FoEphem, impl.FoForward} {
		right := impl.Head{Slots: 5, Format: format, Class: 5, Hash: 5}
		for _, c := range []struct {
			set             func(*impl.Head, int64)
			least, greatest int64
		}{
			{func(h *impl.Head, n int64) { h.Slots = n }, 0, 20},
			{func(h *impl.Head, n int64) { h.Class = n }, 0, 99},
			{func(h *impl.Head, n int64) { h.Hash = n }, 0, 65535},
		} {
			for _, n := range []int64{c.least, c.greatest} {
				h := right
				c.set(&h, n)
				if format == impl.FoEphem && h.Slots == 0 {
					checkWrongHead(t, h)
				} else {
					checkRightHead(t, h)
				}
			}
			for _, n := range []int64{c.least - 1, c.greatest + 1, math.MinInt64, math.MaxInt64, 1 << 58, 1 << 48, -1 << 48} {
				h := right
				c.set(&h, n)
				checkWrongHead(t, h)
			}
		}
	}
}

func TestHeadsOfEphemeralsNeedASlot(t *testing.T) {
	checkWrongHead(t, impl.Head{Format: impl.FoEphem})
	checkWrongHead(t, impl.Head{Format: impl.FoEphem, Class: 3, Hash: 4, Pinned: true})
	checkRightHead(t, impl.Head{Format: impl.FoEphem, Slots: 1})
	checkNoHead(t, 128)
	checkNoHead(t, 128+512*3+65536*4)
	checkRightHead(t, impl.Head{Format: impl.FoWeak})
	checkRightHead(t, impl.Head{Format: impl.FoForward})
}

func TestHeadsOfFreeRoomSayNothingElse(t *testing.T) {
	checkRightHead(t, impl.Head{Format: impl.FoFree})
	for _, h := range []impl.Head{
		{Format: impl.FoFree, Slots: 1},
		{Format: impl.FoFree, Slots: 20},
		{Format: impl.FoFree, Class: 1},
		{Format: impl.FoFree, Hash: 1},
		{Format: impl.FoFree, Pinned: true},
		{Format: impl.FoFree, Marked: true},
		{Format: impl.FoFree, Slots: -1},
	} {
		checkWrongHead(t, h)
		checkNoHead(t, sumOf(h))
	}
}

func TestFormatsThatAreNone(t *testing.T) {
	for _, format := range []int64{-1, 3, 4, 5, 8, 9, 64, math.MinInt64, math.MaxInt64, -1 << 58, 1 << 58} {
		checkWrongHead(t, impl.Head{Format: format})
		checkWrongHead(t, impl.Head{Slots: 1, Format: format, Class: 1, Hash: 1})
	}
	for _, format := range []int64{3, 4, 5} {
		for slots := int64(0); slots < 64; slots++ {
			checkNoHead(t, 64*format+slots)
		}
	}
}

func TestWordsThatAreNoHead(t *testing.T) {
	for w := int64(-200000); w < 0; w++ {
		checkNoHead(t, w)
	}
	for _, w := range []int64{
		math.MinInt64, math.MinInt64 + 1, math.MinInt64 + 65, math.MaxInt64, math.MaxInt64 - 1,
		-4294967296, -8589934592, -17179869184, 17179869184 - 1, 21, 63, 512 * 100, 512 * 127,
	} {
		checkNoHead(t, w)
	}
	// A right head with one bit more, beyond Marked, is none; nor is what is below 0 by it.
	for _, h := range []impl.Head{{}, {Slots: 3, Format: 2, Class: 7, Hash: 500, Pinned: true}, {Format: 6}, {Slots: 20, Format: 7, Class: 99, Hash: 65535, Pinned: true, Marked: true}} {
		for bit := 34; bit < 64; bit++ {
			checkNoHead(t, sumOf(h)|int64(uint64(1)<<bit))
		}
	}
}

func TestSizes(t *testing.T) {
	want := []int64{2, 2, 4, 4, 6, 6, 8, 8, 10, 10, 12, 12, 14, 14, 16, 16, 18, 18, 20, 20, 22}
	for slots, size := range want {
		if got := impl.SizeOf(int64(slots)); got != size {
			t.Errorf("SizeOf(%d) = %d, want %d", slots, got, size)
		}
	}
	for _, slots := range []int64{-1, -2, 21, 22, 64, math.MinInt64, math.MinInt64 + 1, math.MaxInt64, math.MaxInt64 - 1} {
		if got := impl.SizeOf(slots); got != 0 {
			t.Errorf("SizeOf(%d) = %d, want 0", slots, got)
		}
	}
}

func TestStrongSlots(t *testing.T) {
	for slots := int64(0); slots <= 20; slots++ {
		for _, flag := range []bool{false, true} {
			h := impl.Head{Slots: slots, Class: 9, Hash: 9, Pinned: flag, Marked: flag}
			if got := impl.StrongFrom(h); got != 0 {
				t.Errorf("StrongFrom(%+v) = %d, want 0", h, got)
			}
			for _, format := range []int64{impl.FoWeak, impl.FoEphem, impl.FoForward} {
				h.Format = format
				if got := impl.StrongFrom(h); got != slots {
					t.Errorf("StrongFrom(%+v) = %d, want %d", h, got, slots)
				}
			}
		}
	}
	// The chapter names no other answer for a wrong head: 0 of FoPlain, Slots of all others.
	for _, c := range []struct {
		h    impl.Head
		want int64
	}{
		{impl.Head{Format: impl.FoFree}, 0},
		{impl.Head{Slots: -3}, 0},
		{impl.Head{Slots: 21}, 0},
		{impl.Head{Slots: 21, Format: impl.FoWeak}, 21},
		{impl.Head{Slots: 4, Format: 3}, 4},
		{impl.Head{Slots: -4, Format: -1}, -4},
		{impl.Head{Slots: math.MaxInt64, Format: math.MinInt64}, math.MaxInt64},
	} {
		if got := impl.StrongFrom(c.h); got != c.want {
			t.Errorf("StrongFrom(%+v) = %d, want %d", c.h, got, c.want)
		}
	}
}
