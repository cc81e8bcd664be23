/-
  Chapter 4 as the specification has it: an object written into a row.
  Made from the template PutS.
-/
import Derived.Test.YtlfnjdgkpocanaaWalkS2
import Derived.Test.YtlfnjdgkpocanaaHeadMem
namespace Go.Proofs.Ytlfnjdgkpocanaa.walks
open Go.RowKit rows heads words
set_option maxRecDepth 100000

theorem grown_set {w w' : World} {g : Nat} (h : w.grownBy w' (some g)) (k : Nat) (u : Value) : w.grownBy (w'.setCell ⟨g, k, none⟩ u) (some g) :=
  ⟨h.os, h.tape, h.output, by simpa using h.size, fun k' hk hne => (Below.heap_setCell w' _ u k' (fun e => hne (by simp [e]))).trans (h.block k' hk hne)⟩
theorem grown_alloc {w w' : World} {r : Option Nat} (h : w.grownBy w' r) (o : Obj) : w.grownBy (w'.alloc o) r :=
  ⟨h.os, h.tape, h.output, by have := h.size; simp; omega, fun k hk hne => (Below.heap_alloc w' o k (Nat.lt_of_lt_of_le hk h.size)).trans (h.block k hk hne)⟩

set_option maxHeartbeats 4000000 in
theorem l4Write_any {w : World} {base g len cap k : Nat} {xs ys : List Int} {vs : Value} {s f c h : Int} {p m : Bool} (hO : w.ownsRow base 2 1 (.slice (some ⟨g, 0, none⟩) len cap) len (cellsOf xs)) (hx : xs.length = len) (hl : len ≤ 1048576) (hgw : g < w.heap.size)
    (hy : ∀ W, w.grownBy W (some g) → IntsAt W vs ys) (hok : hok s f c h p m = true) (hys : (ys.length : Int) = s) (n : Nat) (hn : sz s = n) (hkn : k + n ≤ len) :
    Calls Try.prog 39 #[.slice (some ⟨g, 0, none⟩) len cap, .int .i64 k, hv s f c h p m, vs] w fun e w' => (∃ v', e = .returned v') ∧ w'.ownsRow base 2 1 (.slice (some ⟨g, 0, none⟩) len cap) len (cellsOf (put xs k (pk s f c h p m) ys ys.length n)) ∧ w.grownBy w' (some g) := by
  obtain ⟨s0, s1, _⟩ := hok_true hok
  have hz := sz_bounds s0 s1
  rw [hn] at hz
  have hn1 : ys.length < n := by omega
  have T0 : HeadAt (w.alloc (hb s f c h p m)) w.heap.size s f c h p m := headAt_new _ _ _ _ _ _ _
  have O0 := World.ownsRow.alloc hO (hb s f c h p m)
  have B0 : w.grownBy (w.alloc (hb s f c h p m)) (some g) := grown_alloc (World.grownBy.refl _ _) _
  have HLEN : Hid _ := (World.ownsRow.lt hO)
  clear hO
  go_enter Try.func39, Try.ntmps39
  go_wp2_with fail
  go_loopw [8] (fun i wr => ∃ j : Nat, j ≤ n ∧ i = .int .i64 (j : Int) ∧ wr.ownsRow base 2 1 (.slice (some ⟨g, 0, none⟩) len cap) len (cellsOf (fill xs k j 0)) ∧ HeadAt wr w.heap.size s f c h p m ∧ w.grownBy wr (some g)) (fun i _ => n - (intOf i).toNat)
  case atStart => exact ⟨0, by omega, by simp, by rw [fill_zero]; exact O0, T0, B0⟩
  case round =>
    obtain ⟨j, hj, rfl, Or, Tr, Br⟩ := hrel
    obtain ⟨h0, h1, h2, h3, h4, h5, hfz⟩ := headAt_cells Tr
    by_cases hlt : j < n
    · have hlt' : (j : Int) < (n : Int) := by omega
      have c0 := World.ownsRow.cellAt Or (k + j) (by omega)
      have c1 := World.ownsRow.frozenAt Or (k + j)
      have S := (World.ownsRow.stored Or (k + j) (.int .i64 0)).1
      have e1 : (cellsOf (fill xs k j 0)).set (k + j) (.int .i64 0) = cellsOf (fill xs k (j + 1) 0) := by
        rw [← fill_set (by omega)]; simp [cellsOf, List.map_set]
      rw [e1] at S
      have HO : Hid _ := S
      have HB : Hid _ := grown_set Br (k + j) (.int .i64 0)
      have HT : Hid _ := headAt_other Tr (q := ⟨g, k + j, none⟩) (by show w.heap.size ≠ g; omega) (.int .i64 0)
      obtain ⟨y, hy'⟩ : ∃ y, (cellsOf (fill xs k j 0))[k + j]? = some y := ⟨_, List.getElem?_eq_getElem (by simp [fill_length (show k + j ≤ xs.length by omega)]; omega)⟩
      rw [hy'] at c0
      clear Or Br Tr S e1 hy'
      go_wp2_with (go_at_call 35; refine (l2Size_any _ _ s0 s1).mono ?_; rintro e w2 ⟨rfl, hw2⟩; rw [hw2, hn]; clear hw2 w2)
      exact ⟨⟨j + 1, by omega, by go_num, HO, HT, HB⟩, by simp [intOf]; omega⟩
    · have e : j = n := by omega
      subst e
      have hlt' : ¬ (j : Int) < (j : Int) := by omega
      have HO : Hid _ := Or
      have HB : Hid _ := Br
      have HT : Hid _ := Tr
      clear Or Br Tr
      go_wp2_with (go_at_call 35; refine (l2Size_any _ _ s0 s1).mono ?_; rintro e w2 ⟨rfl, hw2⟩; rw [hw2, hn]; clear hw2 w2)
      refine (l2Packed_ok s f c h p m wr hok).mono ?_
      rintro e w2 ⟨rfl, hw2⟩
      have O2 : w2.ownsRow base 2 1 (.slice (some ⟨g, 0, none⟩) len cap) len (cellsOf (fill xs k j 0)) := by rw [hw2]; exact World.ownsRow.alloc HO.out _
      have T2 : HeadAt w2 w.heap.size s f c h p m := by rw [hw2]; exact headAt_alloc HT.out _
      have B2 : w.grownBy w2 (some g) := by rw [hw2]; exact grown_alloc HB.out _
      clear hw2 HO HT HB h0 h1 h2 h3 h4 h5 hfz
      have c0 := World.ownsRow.cellAt O2 k (by omega)
      have c1 := World.ownsRow.frozenAt O2 k
      have S := (World.ownsRow.stored O2 k (.int .i64 (pk s f c h p m))).1
      have e1 : (cellsOf (fill xs k j 0)).set k (.int .i64 (pk s f c h p m)) = cellsOf (put xs k (pk s f c h p m) ys 0 j) := by
        rw [← put_zero (by omega) (by omega)]; simp [cellsOf, List.map_set]
      rw [e1] at S
      have HO : Hid _ := S
      have HB : Hid _ := grown_set B2 k (.int .i64 (pk s f c h p m))
      obtain ⟨y, hy'⟩ : ∃ y, (cellsOf (fill xs k j 0))[k]? = some y := ⟨_, List.getElem?_eq_getElem (by simp [fill_length (show k + j ≤ xs.length by omega)]; omega)⟩
      rw [hy'] at c0
      clear O2 B2 T2 S e1 hy' hlt' hlt T0 O0 B0
      have IY : IntsAt w vs ys := hy w (World.grownBy.refl _ _)
      obtain ⟨ya, ycap, rfl, ylc, ycm, _, _⟩ := IY
      go_wp2_with fail
      go_loopw [9] (fun i wr => ∃ q : Nat, q ≤ ys.length ∧ i = .int .i64 (q : Int) ∧ wr.ownsRow base 2 1 (.slice (some ⟨g, 0, none⟩) len cap) len (cellsOf (put xs k (pk s f c h p m) ys q j)) ∧ w.grownBy wr (some g)) (fun i _ => ys.length - (intOf i).toNat)
      case atStart => exact ⟨0, by omega, by simp, HO, HB⟩
      case round =>
        obtain ⟨q, hq, rfl, Or, Br⟩ := hrel
        clear HO HB c0 c1
        by_cases hlt : q < ys.length
        · have hlt' : (q : Int) < (ys.length : Int) := by omega
          obtain ⟨a', cap', e', _, _, _, hcy⟩ := hy _ Br
          injection e' with e1 e2 e3
          subst e1 e3
          obtain ⟨yb, yoff, rfl, _, hcy⟩ := hcy (by omega)
          have y0 := hcy q hlt
          have c0 := World.ownsRow.cellAt Or (k + 1 + q) (by omega)
          have c1 := World.ownsRow.frozenAt Or (k + 1 + q)
          have S := (World.ownsRow.stored Or (k + 1 + q) (.int .i64 (ys.getD q 0))).1
          have e1 : (cellsOf (put xs k (pk s f c h p m) ys q j)).set (k + 1 + q) (.int .i64 (ys.getD q 0)) = cellsOf (put xs k (pk s f c h p m) ys (q + 1) j) := by
            rw [← put_set (by omega) hlt (by omega)]; simp [cellsOf, List.map_set]
          rw [e1] at S
          have HO : Hid _ := S
          have HB : Hid _ := grown_set Br (k + 1 + q) (.int .i64 (ys.getD q 0))
          obtain ⟨y, hy'⟩ : ∃ y, (cellsOf (put xs k (pk s f c h p m) ys q j))[k + 1 + q]? = some y := ⟨_, List.getElem?_eq_getElem (by simp [put_length (ys := ys) (hd := pk s f c h p m) (show k + j ≤ xs.length by omega) (show q ≤ ys.length by omega) (show q < j by omega)]; omega)⟩
          rw [hy'] at c0
          clear Or Br S e1 hy' hcy hy
          generalize ys.getD q 0 = z at *
          go_wp2
          exact ⟨⟨q + 1, by omega, by go_num, HO, HB⟩, by simp [intOf]; omega⟩
        · have e : q = ys.length := by omega
          subst e
          have HO : Hid _ := Or
          have HB : Hid _ := Br
          clear Or Br hy
          go_wp2
          go_end0
          exact ⟨⟨_, rfl⟩, HO, HB⟩
end Go.Proofs.Ytlfnjdgkpocanaa.walks
