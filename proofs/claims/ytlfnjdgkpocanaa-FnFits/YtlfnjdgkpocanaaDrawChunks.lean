/-
  The draws of chapter 4: what is written into a row that is drawn: free room, a note, an object.
  Made from the template DrawChunks.
-/
import Derived.Test.YtlfnjdgkpocanaaPutS
import Derived.Test.YtlfnjdgkpocanaaZeros
import Derived.Test.YtlfnjdgkpocanaaDrawHeads
namespace Go.Proofs.Ytlfnjdgkpocanaa.walks
open Go.RowKit rows heads words
set_option maxRecDepth 100000

theorem allI_fill {xs : List Int} (h : AllI xs) (f k : Nat) : AllI (fill xs f k 0) :=
  allI_append (allI_append (allI_take h _) (allI_replicate _ ⟨by decide, by decide⟩)) (allI_drop h _)
theorem pk_i64 {s f c h : Int} {p m : Bool} (e : hok s f c h p m = true) : I64 (pk s f c h p m) := by
  have := pk_least e
  unfold I64
  omega
theorem allI_put {xs ys : List Int} (h : AllI xs) (hy : AllI ys) {hd : Int} (hh : I64 hd) (k j n : Nat) : AllI (put xs k hd ys j n) :=
  allI_append (allI_append (allI_take h _) (allI_append (xs := [hd]) (allI_one hh) (allI_append (allI_take hy _) (allI_replicate _ ⟨by decide, by decide⟩)))) (allI_drop h _)

set_option maxHeartbeats 4000000 in
theorem l4Free_any {w : World} {base g len cap k n : Nat} {xs : List Int} (hO : w.ownsRow base 2 1 (.slice (some ⟨g, 0, none⟩) len cap) len (cellsOf xs)) (hx : xs.length = len) (ha : AllI xs) (hl : len ≤ 1048576) (hg : base ≤ g) (hbw : base ≤ w.heap.size) (h2 : 2 ≤ n) (hkn : k + n ≤ len) :
    Calls Try.prog 33 #[.slice (some ⟨g, 0, none⟩) len cap, .int .i64 k, .int .i64 n] w fun e w' => (∃ v', e = .returned v') ∧ (∃ xs' : List Int, xs'.length = len ∧ AllI xs' ∧ w'.ownsRow base 2 1 (.slice (some ⟨g, 0, none⟩) len cap) len (cellsOf xs')) ∧ Below base w w' := by
  have hok6 : hok 0 6 0 0 false false = true := by decide
  go_enter Try.func33, Try.ntmps33
  go_wp2_with fail
  go_loopw [6] (fun i wr => ∃ j : Nat, j ≤ n ∧ i = .int .i64 (j : Int) ∧ wr.ownsRow base 2 1 (.slice (some ⟨g, 0, none⟩) len cap) len (cellsOf (fill xs k j 0)) ∧ Below base w wr) (fun i _ => n - (intOf i).toNat)
  case atStart => exact ⟨0, by omega, by simp, by rw [fill_zero]; exact hO, Below.refl _ _⟩
  case round =>
    obtain ⟨j, hj, rfl, Or, Br⟩ := hrel
    by_cases hlt : j < n
    · have hlt' : (j : Int) < (n : Int) := by omega
      have c0 := World.ownsRow.cellAt Or (k + j) (by omega)
      have c1 := World.ownsRow.frozenAt Or (k + j)
      have S := (World.ownsRow.stored Or (k + j) (.int .i64 0)).1
      have e1 : (cellsOf (fill xs k j 0)).set (k + j) (.int .i64 0) = cellsOf (fill xs k (j + 1) 0) := by
        rw [← fill_set (by omega)]; simp [cellsOf, List.map_set]
      rw [e1] at S
      have HO : Hid _ := S
      have HB : Hid _ := Br.setCell (p := ⟨g, k + j, none⟩) hg (.int .i64 0)
      obtain ⟨y, hy'⟩ : ∃ y, (cellsOf (fill xs k j 0))[k + j]? = some y := ⟨_, List.getElem?_eq_getElem (by simp [fill_length (show k + j ≤ xs.length by omega)]; omega)⟩
      rw [hy'] at c0
      clear Or Br S e1 hy' hO
      go_wp2
      exact ⟨⟨j + 1, by omega, by go_num, HO, HB⟩, by simp [intOf]; omega⟩
    · have e : j = n := by omega
      subst e
      have hlt' : ¬ (j : Int) < (j : Int) := by omega
      have HO : Hid _ := Or
      have HB : Hid _ := Br
      clear Or Br hO
      go_wp2_with fail
      refine (l2Packed_ok 0 6 0 0 false false wr hok6).mono ?_
      rintro e w2 ⟨rfl, hw2⟩
      have O2 : w2.ownsRow base 2 1 (.slice (some ⟨g, 0, none⟩) len cap) len (cellsOf (fill xs k j 0)) := by rw [hw2]; exact World.ownsRow.alloc HO.out _
      have B2 : Below base w w2 := by rw [hw2]; exact HB.out.alloc (Nat.le_trans hbw HB.out.size) _
      clear hw2 HO HB
      have hfl : (fill xs k j 0).length = len := by rw [fill_length (by omega)]; exact hx
      have c0 := World.ownsRow.cellAt O2 k (by omega)
      have c1 := World.ownsRow.frozenAt O2 k
      have S := (World.ownsRow.stored O2 k (.int .i64 (pk 0 6 0 0 false false))).1
      have d0 := World.ownsRow.cellAt S (k + 1) (by omega)
      have d1 := World.ownsRow.frozenAt S (k + 1)
      have S2 := (World.ownsRow.stored S (k + 1) (.int .i64 (j : Int))).1
      have e1 : ((cellsOf (fill xs k j 0)).set k (.int .i64 (pk 0 6 0 0 false false))).set (k + 1) (.int .i64 (j : Int)) = cellsOf (((fill xs k j 0).set k (pk 0 6 0 0 false false)).set (k + 1) (j : Int)) := by simp [cellsOf, List.map_set]
      rw [e1] at S2
      have HO : Hid _ := S2
      have HB : Hid _ := (B2.setCell (p := ⟨g, k, none⟩) hg (.int .i64 (pk 0 6 0 0 false false))).setCell (p := ⟨g, k + 1, none⟩) hg (.int .i64 (j : Int))
      have HA : Hid (AllI (((fill xs k j 0).set k (pk 0 6 0 0 false false)).set (k + 1) (j : Int))) := allI_set (allI_set (allI_fill ha k j) k (pk_i64 hok6)) (k + 1) ⟨by omega, by omega⟩
      obtain ⟨y, hy'⟩ : ∃ y, (cellsOf (fill xs k j 0))[k]? = some y := ⟨_, List.getElem?_eq_getElem (by simp [hfl]; omega)⟩
      rw [hy'] at c0
      obtain ⟨y2, hy2⟩ : ∃ y, ((cellsOf (fill xs k j 0)).set k (.int .i64 (pk 0 6 0 0 false false)))[k + 1]? = some y := ⟨_, List.getElem?_eq_getElem (by simp [hfl]; omega)⟩
      rw [hy2] at d0
      have HL : Hid ((((fill xs k j 0).set k (pk 0 6 0 0 false false)).set (k + 1) (j : Int)).length = len) := by
        show _ = _
        simp [hfl]
      clear O2 B2 S S2 e1 hy' hy2 hlt' hlt
      go_wp2
      go_end0
      exact ⟨⟨_, rfl⟩, ⟨_, HL.out, HA.out, HO.out⟩, HB.out⟩

set_option maxHeartbeats 4000000 in
theorem l4Note_any {w : World} {base g len cap k n : Nat} {xs : List Int} (hO : w.ownsRow base 2 1 (.slice (some ⟨g, 0, none⟩) len cap) len (cellsOf xs)) (hx : xs.length = len) (ha : AllI xs) (hl : len ≤ 1048576) (hg : base ≤ g) (hbw : base ≤ w.heap.size) (s x : Int) (s0 : 0 ≤ s) (s1 : s ≤ 20) (x0 : 0 ≤ x) (x1 : x ≤ 1000) (hn : sz s = n) (hkn : k + n ≤ len) :
    Calls Try.prog 36 #[.slice (some ⟨g, 0, none⟩) len cap, .int .i64 k, .int .i64 s, .int .i64 x] w fun e w' => (∃ v', e = .returned v') ∧ (∃ xs' : List Int, xs'.length = len ∧ AllI xs' ∧ w'.ownsRow base 2 1 (.slice (some ⟨g, 0, none⟩) len cap) len (cellsOf xs')) ∧ Below base w w' := by
  have hok6 : hok s 7 0 0 false false = true := by simp [hok, inR, s0, s1]
  have hz := sz_bounds s0 s1
  rw [hn] at hz
  go_enter Try.func36, Try.ntmps36
  go_wp2_with fail
  go_loopw [8] (fun i wr => ∃ j : Nat, j ≤ n ∧ i = .int .i64 (j : Int) ∧ wr.ownsRow base 2 1 (.slice (some ⟨g, 0, none⟩) len cap) len (cellsOf (fill xs k j 0)) ∧ Below base w wr) (fun i _ => n - (intOf i).toNat)
  case atStart => exact ⟨0, by omega, by simp, by rw [fill_zero]; exact hO, Below.refl _ _⟩
  case round =>
    obtain ⟨j, hj, rfl, Or, Br⟩ := hrel
    by_cases hlt : j < n
    · have hlt' : (j : Int) < (n : Int) := by omega
      have c0 := World.ownsRow.cellAt Or (k + j) (by omega)
      have c1 := World.ownsRow.frozenAt Or (k + j)
      have S := (World.ownsRow.stored Or (k + j) (.int .i64 0)).1
      have e1 : (cellsOf (fill xs k j 0)).set (k + j) (.int .i64 0) = cellsOf (fill xs k (j + 1) 0) := by
        rw [← fill_set (by omega)]; simp [cellsOf, List.map_set]
      rw [e1] at S
      have HO : Hid _ := S
      have HB : Hid _ := Br.setCell (p := ⟨g, k + j, none⟩) hg (.int .i64 0)
      obtain ⟨y, hy'⟩ : ∃ y, (cellsOf (fill xs k j 0))[k + j]? = some y := ⟨_, List.getElem?_eq_getElem (by simp [fill_length (show k + j ≤ xs.length by omega)]; omega)⟩
      rw [hy'] at c0
      clear Or Br S e1 hy' hO
      go_wp2_with (go_at_call 35; refine (l2Size_any _ _ s0 s1).mono ?_; rintro e w2 ⟨rfl, hw2⟩; rw [hw2, hn]; clear hw2 w2)
      exact ⟨⟨j + 1, by omega, by go_num, HO, HB⟩, by simp [intOf]; omega⟩
    · have e : j = n := by omega
      subst e
      have hlt' : ¬ (j : Int) < (j : Int) := by omega
      have HO : Hid _ := Or
      have HB : Hid _ := Br
      clear Or Br hO
      go_wp2_with (go_at_call 35; refine (l2Size_any _ _ s0 s1).mono ?_; rintro e w2 ⟨rfl, hw2⟩; rw [hw2, hn]; clear hw2 w2)
      refine (l2Packed_ok s 7 0 0 false false wr hok6).mono ?_
      rintro e w2 ⟨rfl, hw2⟩
      have O2 : w2.ownsRow base 2 1 (.slice (some ⟨g, 0, none⟩) len cap) len (cellsOf (fill xs k j 0)) := by rw [hw2]; exact World.ownsRow.alloc HO.out _
      have B2 : Below base w w2 := by rw [hw2]; exact HB.out.alloc (Nat.le_trans hbw HB.out.size) _
      clear hw2 HO HB
      have hfl : (fill xs k j 0).length = len := by rw [fill_length (by omega)]; exact hx
      have c0 := World.ownsRow.cellAt O2 k (by omega)
      have c1 := World.ownsRow.frozenAt O2 k
      have S := (World.ownsRow.stored O2 k (.int .i64 (pk s 7 0 0 false false))).1
      have d0 := World.ownsRow.cellAt S (k + 1) (by omega)
      have d1 := World.ownsRow.frozenAt S (k + 1)
      have S2 := (World.ownsRow.stored S (k + 1) (.int .i64 (4 * x + 4))).1
      have e1 : ((cellsOf (fill xs k j 0)).set k (.int .i64 (pk s 7 0 0 false false))).set (k + 1) (.int .i64 (4 * x + 4)) = cellsOf (((fill xs k j 0).set k (pk s 7 0 0 false false)).set (k + 1) (4 * x + 4)) := by simp [cellsOf, List.map_set]
      rw [e1] at S2
      have HO : Hid _ := S2
      have HB : Hid _ := (B2.setCell (p := ⟨g, k, none⟩) hg (.int .i64 (pk s 7 0 0 false false))).setCell (p := ⟨g, k + 1, none⟩) hg (.int .i64 (4 * x + 4))
      have HA : Hid (AllI (((fill xs k j 0).set k (pk s 7 0 0 false false)).set (k + 1) (4 * x + 4))) := allI_set (allI_set (allI_fill ha k j) k (pk_i64 hok6)) (k + 1) ⟨by omega, by omega⟩
      obtain ⟨y, hy'⟩ : ∃ y, (cellsOf (fill xs k j 0))[k]? = some y := ⟨_, List.getElem?_eq_getElem (by simp [hfl]; omega)⟩
      rw [hy'] at c0
      obtain ⟨y2, hy2⟩ : ∃ y, ((cellsOf (fill xs k j 0)).set k (.int .i64 (pk s 7 0 0 false false)))[k + 1]? = some y := ⟨_, List.getElem?_eq_getElem (by simp [hfl]; omega)⟩
      rw [hy2] at d0
      have HL : Hid ((((fill xs k j 0).set k (pk s 7 0 0 false false)).set (k + 1) (4 * x + 4)).length = len) := by
        show _ = _
        simp [hfl]
      clear O2 B2 S S2 e1 hy' hy2 hlt' hlt
      go_wp2
      go_end0
      exact ⟨⟨_, rfl⟩, ⟨_, HL.out, HA.out, HO.out⟩, HB.out⟩
end Go.Proofs.Ytlfnjdgkpocanaa.walks
