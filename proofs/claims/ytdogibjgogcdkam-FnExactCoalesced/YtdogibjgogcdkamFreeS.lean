/-
  Chapter 8 as the specification has it: a free chunk written, what is freed.
  Made from the template FreeS.
-/
import Derived.Test.YtdogibjgogcdkamFreeD
import Derived.Test.YtdogibjgogcdkamObjS2
import Derived.Test.YtdogibjgogcdkamPutS2
namespace Go.Proofs.Ytdogibjgogcdkam.walks
open Go.RowKit rows heads words
set_option maxRecDepth 100000

set_option maxHeartbeats 4000000 in
theorem l4Free_is {w : World} {base g len cap k n : Nat} {xs : List Int} (hO : w.ownsRow base 2 1 (.slice (some ⟨g, 0, none⟩) len cap) len (cellsOf xs)) (hx : xs.length = len) (hl : len ≤ 1048576) (hg : base ≤ g) (hbw : base ≤ w.heap.size) (h2 : 2 ≤ n) (hkn : k + n ≤ len) :
    Calls Try.prog 41 #[.slice (some ⟨g, 0, none⟩) len cap, .int .i64 k, .int .i64 n] w fun e w' => (∃ v', e = .returned v') ∧ w'.ownsRow base 2 1 (.slice (some ⟨g, 0, none⟩) len cap) len (cellsOf (freeR xs k n)) ∧ Below base w w' := by
  have hok6 : hok 0 6 0 0 false false = true := by decide
  go_enter Try.func41, Try.ntmps41
  go_wp2_with fail
  go_loopw [6] (fun i wr => ∃ j : Nat, j ≤ n ∧ i = .int .i64 (j : Int) ∧ wr.ownsRow base 2 1 (.slice (some ⟨g, 0, none⟩) len cap) len (cellsOf (fill xs k j 0)) ∧ Below base w wr) (fun i _ => n - (intOf i).toNat)
  case atStart => exact ⟨0, by omega, by simp, by rw [fill_zero]; exact hO, Below.refl _ _⟩
  case round =>
    obtain ⟨j, hj, rfl, Or, Br⟩ := hrel
    by_cases hlt : j < n
    · have hlt' : (j : Int) < (n : Int) := by omega
      have c0 := World.ownsRow.cellAt Or (k + j) (by omega)
      have c1 := World.ownsRow.frozenAt Or (k + j)
      have S := (World.ownsRow.stored Or (k + j) (.int .i64 0)).1
      have e1 : (cellsOf (fill xs k j 0)).set (k + j) (.int .i64 0) = cellsOf (fill xs k (j + 1) 0) := by
        rw [← fill_set (by omega)]; simp [cellsOf, List.map_set]
      rw [e1] at S
      have HO : Hid _ := S
      have HB : Hid _ := Br.setCell (p := ⟨g, k + j, none⟩) hg (.int .i64 0)
      obtain ⟨y, hy'⟩ : ∃ y, (cellsOf (fill xs k j 0))[k + j]? = some y := ⟨_, List.getElem?_eq_getElem (by simp [fill_length (show k + j ≤ xs.length by omega)]; omega)⟩
      rw [hy'] at c0
      clear Or Br S e1 hy' hO
      go_wp2
      exact ⟨⟨j + 1, by omega, by go_num, HO, HB⟩, by simp [intOf]; omega⟩
    · have e : j = n := by omega
      subst e
      have hlt' : ¬ (j : Int) < (j : Int) := by omega
      have HO : Hid _ := Or
      have HB : Hid _ := Br
      have HFR : Hid (((fill xs k j 0).set k (pk 0 6 0 0 false false)).set (k + 1) (j : Int) = freeR xs k j) := freeR_set (by omega) h2
      clear Or Br hO
      go_wp2_with fail
      refine (l2Packed_ok 0 6 0 0 false false wr hok6).mono ?_
      rintro e w2 ⟨rfl, hw2⟩
      have O2 : w2.ownsRow base 2 1 (.slice (some ⟨g, 0, none⟩) len cap) len (cellsOf (fill xs k j 0)) := by rw [hw2]; exact World.ownsRow.alloc HO.out _
      have B2 : Below base w w2 := by rw [hw2]; exact HB.out.alloc (Nat.le_trans hbw HB.out.size) _
      clear hw2 HO HB
      have hfl : (fill xs k j 0).length = len := by rw [fill_length (by omega)]; exact hx
      have c0 := World.ownsRow.cellAt O2 k (by omega)
      have c1 := World.ownsRow.frozenAt O2 k
      have S := (World.ownsRow.stored O2 k (.int .i64 (pk 0 6 0 0 false false))).1
      have d0 := World.ownsRow.cellAt S (k + 1) (by omega)
      have d1 := World.ownsRow.frozenAt S (k + 1)
      have S2 := (World.ownsRow.stored S (k + 1) (.int .i64 (j : Int))).1
      have e1 : ((cellsOf (fill xs k j 0)).set k (.int .i64 (pk 0 6 0 0 false false))).set (k + 1) (.int .i64 (j : Int)) = cellsOf (freeR xs k j) := by rw [← HFR.out]; simp [cellsOf, List.map_set]
      rw [e1] at S2
      have HO : Hid _ := S2
      have HB : Hid _ := (B2.setCell (p := ⟨g, k, none⟩) hg (.int .i64 (pk 0 6 0 0 false false))).setCell (p := ⟨g, k + 1, none⟩) hg (.int .i64 (j : Int))
      obtain ⟨y, hy'⟩ : ∃ y, (cellsOf (fill xs k j 0))[k]? = some y := ⟨_, List.getElem?_eq_getElem (by simp [hfl]; omega)⟩
      rw [hy'] at c0
      obtain ⟨y2, hy2⟩ : ∃ y, ((cellsOf (fill xs k j 0)).set k (.int .i64 (pk 0 6 0 0 false false)))[k + 1]? = some y := ⟨_, List.getElem?_eq_getElem (by simp [hfl]; omega)⟩
      rw [hy2] at d0
      clear O2 B2 S S2 e1 hy' hy2 hlt' hlt HFR
      go_wp2
      go_end0
      exact ⟨⟨_, rfl⟩, HO.out, HB.out⟩

set_option maxHeartbeats 8000000 in
theorem sFreed_any {w : World} {v : Value} {xs : List Int} (h : IntsAt w v xs) (hl : xs.length ≤ 1048576) (i : Int) :
    Calls Try.prog 13 #[v, .int .i64 i] w fun e w' => ∃ v', e = .returned (.tuple #[v', .bool (objOk xs i)]) ∧ Own w' w.heap.size v' (freed xs i) ∧ Below w.heap.size w w' := by
  obtain ⟨R, hR⟩ : ∃ R, objOk xs i = R := ⟨_, rfl⟩
  obtain ⟨P, hP⟩ : ∃ P, freed xs i = P := ⟨_, rfl⟩
  rw [hR, hP]
  cases d1 : rowOk xs
  · have e1 : R = false := by rw [← hR]; simp [objOk, chunkAt, okAt, d1]
    have e2 : P = [] := by rw [← hP]; unfold freed; rw [hR, e1, d1]; rfl
    have HE1 : Hid _ := e1
    have HE2 : Hid _ := e2
    clear e1 e2 hR hP
    go_enter Try.func13, Try.ntmps13
    go_wp2_with (go_at_call 38; refine (l3Row_any h).mono ?_; rintro e w' ⟨rfl, hw⟩; rw [hw, d1]; clear hw w')
    go_ret2
    exact ⟨_, by rw [HE1.out]; rfl, by rw [HE2.out]; exact own_nothing2 (by simp) (by omega), (Below.refl _ _).alloc (by simp) _⟩
  · have h' := h
    obtain ⟨a, cap, rfl, hlc, hcm, hnil, _⟩ := h
    go_enter Try.func13, Try.ntmps13
    go_wp2_with (first | (go_at_call 38; refine (l3Row_any h').mono ?_; rintro e w' ⟨rfl, hw⟩; rw [hw, d1]; clear hw w') | (at_builtin; refine wpList_copied h' hl rfl _ _ rfl (by simp [Act.eval]) rfl ?_; intro gg cap' w1 hg hO hB))
    refine (sChunkAt_any (intsAt_below h' hB) hl i).mono ?_
    rintro e w2 ⟨rfl, b2⟩
    have O2 := own_below (own_row hO rfl) b2
    have B2 := hB.trans (b2.mono hB.size)
    have HO : Hid _ := O2
    have HB : Hid _ := B2
    have s2 := B2.size
    have hgw := (own_lt O2 gg rfl).2
    clear hO hB b2 O2 B2
    by_cases e0 : chunkAt xs i = 0
    · have e1 : R = false := by rw [← hR]; simp [objOk, e0]
      have e2 : P = xs := by rw [← hP]; unfold freed; rw [hR, e1, d1]; rfl
      have HE1 : Hid _ := e1
      have HE2 : Hid _ := e2
      rw [e0]
      clear e0 e1 e2 hR hP
      go_wp2
      go_ret2
      exact ⟨_, by rw [HE1.out]; rfl, by rw [HE2.out]; exact HO, HB⟩
    · have e0' : (chunkAt xs i == 0) = false := by simpa using e0
      have hk := chunkAt_word e0
      have hk2 := hk.1
      simp only [okAt, Bool.and_eq_true] at hk2
      obtain ⟨p1, p2⟩ := atOk_true hk2.2
      obtain ⟨k, rfl⟩ := Int.eq_ofNat_of_zero_le p1
      have ec : chunkAt xs k = chunk xs k := by unfold chunkAt; rw [if_pos hk.1, Int.toNat_natCast]
      have hc := chunk_bounds xs k
      obtain ⟨n, hn⟩ := Int.eq_ofNat_of_zero_le (chunk_le xs k).1
      have hok : objOk xs k = !(uF (xs.getD k 0) == 6) := by
        simp only [objOk, Int.toNat_natCast]
        rw [show decide (chunkAt xs k ≠ 0) = true by simpa using e0, Bool.true_and]
        cases e6 : (uF (xs.getD k 0) == 6)
        · simpa using e6
        · simpa using e6
      have hfr : freed xs k = if (uF (xs.getD k 0) == 6) = true then xs else freeR xs k n := by
        unfold freed
        rw [hok, d1, Int.toNat_natCast, hn, Int.toNat_natCast]
        cases (uF (xs.getD k 0) == 6) <;> simp
      rw [ec, hn] at e0 e0'
      rw [ec, hn]
      rw [hok] at hR
      rw [hfr] at hP
      have L := l4Head_any (intsAt_below h' HB.out) k (by omega)
      unfold hw at L
      clear hk hk2 ec hok hfr
      generalize hf : uF (xs.getD k 0) = f at *
      generalize uS (xs.getD k 0) = s at *
      generalize uC (xs.getD k 0) = c1 at *
      generalize uH (xs.getD k 0) = g at *
      generalize uP (xs.getD k 0) = p at *
      generalize uM (xs.getD k 0) = m at *
      clear hf
      have FF := field_format s f c1 g p m
      have hn2 : 2 ≤ n ∧ k + n ≤ xs.length := by omega
      clear hc
      go_wp2_with fail
      refine L.mono ?_
      rintro e w3 ⟨rfl, b3⟩
      have HO3 := own_below HO.out b3
      have HB3 := HB.out.trans (b3.mono s2)
      clear L b3 HO HB
      by_cases h6 : f = 6
      · subst h6
        have HE1 : Hid _ := hR
        have HE2 : Hid _ := hP
        clear hR hP
        go_wp2
        go_ret2
        exact ⟨_, by rw [← HE1.out]; rfl, by rw [← HE2.out]; exact HO3, HB3⟩
      · have h6' : (f == 6) = false := by simpa using h6
        rw [h6'] at hR hP
        have HE1 : Hid _ := hR
        have HE2 : Hid _ := hP
        have s3 := HB3.size
        have hxl : (freeR xs k n).length = xs.length := freeR_length hn2.2 hn2.1
        clear hR hP
        go_wp2_with fail
        refine (l4Free_is (base := w.heap.size) HO3 rfl hl hg s3 hn2.1 hn2.2).mono ?_
        rintro e w4 ⟨⟨u, rfl⟩, O4, B4⟩
        have HO4 : Hid _ := own_row O4 hxl
        have HB4 : Hid _ := HB3.trans B4
        clear O4 B4 HB3 HO3
        go_wp2
        go_ret2
        exact ⟨_, by rw [← HE1.out]; rfl, by rw [← HE2.out]; exact HO4, HB4⟩
end Go.Proofs.Ytdogibjgogcdkam.walks
